import Derived.Test.YtjmfjehjlnghmaaRb
import Derived.Test.YtjmfjehjlnghmaaNc
import Derived.Test.YtjmfjehjlnghmaaRd
import Derived.RangeFuncNested
import Derived.RangeFuncBound
import Derived.RangeFuncCalls
import Derived.RangeFuncLeaves
import Derived.Shelf.Abstract
import Derived.Shelf.RegionOpen
import Derived.OwnWalkIn
import Derived.TacticsInMore
import Derived.LoopNIn
import Derived.LoopIn
namespace Go.Proofs.Ytjmfjehjlnghmaa
open Go.RowKit
set_option linter.unusedVariables false
set_option linter.unusedSimpArgs false

/-- A slice of pairs, in a block below n₀, with room for them, reads as a list of them. -/
def RC (n₀ : Nat) (w : World) (v : Value) (ps : List (Nat × Int)) : Prop :=
  (v = .slice none 0 0 ∧ ps = []) ∨ ∃ b off cap, v = .slice (some ⟨b, off, none⟩) ps.length cap ∧ b < n₀ ∧ ps.length ≤ cap ∧ ps.length ≤ 140737488351232 ∧
    ∀ i p, ps[i]? = some p → w.cell? ⟨b, off + i * 2, none⟩ = some (.int .u32 p.1) ∧ w.cell? ⟨b, off + i * 2 + 1, none⟩ = some (.int .i64 p.2)
theorem RC.below {n₀ : Nat} {w w' : World} {v : Value} {ps : List (Nat × Int)} (h : RC n₀ w v ps) (hb : Below n₀ w w') : RC n₀ w' v ps := by
  rcases h with h | ⟨b, off, cap, h1, h2, h3, h4, h5⟩
  · exact .inl h
  · refine .inr ⟨b, off, cap, h1, h2, h3, h4, fun i p hp => ?_⟩
    rw [hb.cell (p := ⟨b, _, none⟩) h2, hb.cell (p := ⟨b, _, none⟩) h2]
    exact h5 i p hp
theorem RC.mono {n₀ n₁ : Nat} {w : World} {v : Value} {ps : List (Nat × Int)} (h : RC n₀ w v ps) (hn : n₀ ≤ n₁) : RC n₁ w v ps := by
  rcases h with h | ⟨b, off, cap, h1, h2, h3⟩
  · exact .inl h
  · exact .inr ⟨b, off, cap, h1, by omega, h3⟩
theorem RC.reads {n₀ : Nat} {w : World} {v : Value} {ps : List (Nat × Int)} (h : RC n₀ w v ps) (hn : n₀ ≤ w.heap.size) : Reads w v ps := by
  rcases h with h | ⟨b, off, cap, h1, h2, h3, h4, h5⟩
  · exact .inl h
  · exact .inr ⟨b, off, cap, h1, by omega, h4, h5⟩
theorem RC.nil {n₀ : Nat} {w : World} {v : Value} (h : RC n₀ w v []) : ∃ a c, v = .slice a 0 c := by
  rcases h with ⟨rfl, _⟩ | ⟨b, off, cap, rfl, _⟩
  · exact ⟨_, _, rfl⟩
  · exact ⟨_, _, rfl⟩
/-- The head of it, and what slicing it off leaves. -/
theorem RC.cons {n₀ : Nat} {w : World} {v : Value} {p : Nat × Int} {ps : List (Nat × Int)} (h : RC n₀ w v (p :: ps)) :
    ∃ b off cap off', v = .slice (some ⟨b, off, none⟩) (ps.length + 1) cap ∧ b < n₀ ∧ 1 ≤ cap ∧
      w.cell? ⟨b, off, none⟩ = some (.int .u32 p.1) ∧ w.cell? ⟨b, off + 1, none⟩ = some (.int .i64 p.2) ∧
      (∀ wx, (Instr.slice 29 (.slice (some ⟨b, off, none⟩) (ps.length + 1) cap) (some (.int .i64 1)) none none).run Try.prog wx = .ok (.slice (some ⟨b, off', none⟩) ps.length (cap - 1)) wx) ∧
      ∀ w', Below n₀ w w' → RC n₀ w' (.slice (some ⟨b, off', none⟩) ps.length (cap - 1)) ps := by
  rcases h with ⟨_, h⟩ | ⟨b, off, cap, rfl, h2, h3, h4, h5⟩
  · cases h
  · simp only [List.length_cons] at h3 h4 ⊢
    obtain ⟨c1, c2⟩ := h5 0 p rfl
    simp only [Nat.zero_mul, Nat.add_zero] at c1 c2
    refine ⟨b, off, cap, if cap = 1 then off else off + 2, rfl, h2, by omega, c1, c2, fun wx => ?_, fun w' hb => ?_⟩
    · have u22 := Try.underlying29
      have z47 := Try.sizeOf47
      by_cases e : cap = 1
      · subst e
        have e0 : ps.length = 0 := by omega
        go_simp
      · rw [if_neg e]
        go_simp
        intro h
        omega
    · refine .inr ⟨b, _, cap - 1, rfl, h2, by omega, by omega, fun i q hq => ?_⟩
      have hi := (List.getElem?_eq_some_iff.1 hq).1
      rw [if_neg (by omega), hb.cell (p := ⟨b, _, none⟩) h2, hb.cell (p := ⟨b, _, none⟩) h2]
      have := h5 (i + 1) q (by simpa using hq)
      rw [show off + 2 + i * 2 = off + (i + 1) * 2 from by omega]
      exact this
end Go.Proofs.Ytjmfjehjlnghmaa
