import Derived.Test.YtodionedjokdmaaRa
namespace Go.Proofs.Ytodionedjokdmaa
open Go.RowKit
set_option linter.unusedVariables false
set_option linter.unusedSimpArgs false

theorem Reads.form {w : World} {v : Value} {ps : List (Nat × Int)} (h : Reads w v ps) : ∃ a cap, v = .slice a ps.length cap := by
  rcases h with ⟨rfl, rfl⟩ | ⟨b, off, cap, rfl, _⟩
  · exact ⟨none, 0, rfl⟩
  · exact ⟨_, _, rfl⟩
theorem Reads.cells {w : World} {v : Value} {ps : List (Nat × Int)} (h : Reads w v ps) (hn : 0 < ps.length) : ∃ b off cap, v = .slice (some ⟨b, off, none⟩) ps.length cap ∧ b < w.heap.size ∧ ps.length ≤ 140737488351232 ∧
    ∀ i p, ps[i]? = some p → w.cell? ⟨b, off + i * 2, none⟩ = some (.int .u32 p.1) ∧ w.cell? ⟨b, off + i * 2 + 1, none⟩ = some (.int .i64 p.2) := by
  rcases h with ⟨rfl, rfl⟩ | h
  · simp at hn
  · exact h
theorem below_drewN {B : Nat} {a w : World} (h : Below B a w) (n : Nat) : Below B a (w.drewN n) := ⟨h.os, h.tape, h.output, h.size, h.block⟩
@[go_sem] theorem eq47 (a c : Nat) (b d : Int) (w : World) : (Op.equalIn 10000 101 (.agg #[.int .u32 a, .int .i64 b]) (.agg #[.int .u32 c, .int .i64 d])).run Try.prog w = .ok ((a : Int) == c && b == d) w := by
  have u3 := Try.underlying3
  have u37 := Try.underlying80
  have a3 := Try.isAgg3
  have a37 := Try.isAgg37
  have z3 := Try.sizeOf3
  have z37 := Try.sizeOf37
  have hS : Try.prog.underlying 101 = some (.struct (Try.prog.fieldsOf 101)) := by kernel_rfl
  rw [show (10000 : Nat) = 9999 + 1 from rfl, run_equalIn_agg w 9999 101 _ _ hS (by kernel_rfl)]
  simp only [Program.fieldsOf, Try.underlying101]
  go_simp
  by_cases h1 : (a : Int) = c <;> by_cases h2 : b = d <;> simp [h1, h2]
end Go.Proofs.Ytodionedjokdmaa
