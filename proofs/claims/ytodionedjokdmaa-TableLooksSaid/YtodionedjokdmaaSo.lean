import Derived.Test.YtodionedjokdmaaSn
import Derived.Laws.Bits128
namespace Lab
end Lab
namespace Go.Proofs.Ytodionedjokdmaa
open Go.RowKit
set_option linter.unusedVariables false
set_option linter.unusedSimpArgs false

theorem rc_of_owns {w : World} {base : Nat} {v : Value} {ps : List (Nat × Int)} (h : w.ownsRow base 101 2 v ps.length (F ps)) (hn : ps.length ≤ 140737488351232) : RC w.heap.size w v ps := by
  by_cases h0 : ps.length = 0
  · rcases h.2 with ⟨rfl, _⟩ | ⟨g, cap, cur, hv, hb, hg, hc, _⟩
    · exact .inl ⟨rfl, List.eq_nil_of_length_eq_zero h0⟩
    · refine .inr ⟨g, 0, cap, hv, (Array.getElem?_eq_some_iff.1 hg).1, hc, hn, fun i p hp => ?_⟩
      rw [List.eq_nil_of_length_eq_zero h0] at hp; simp at hp
  · have hc := h.2
    obtain ⟨g, cap, rfl, hb, hg⟩ := h.form (by omega)
    refine .inr ⟨g, 0, cap, rfl, hg, ?_, hn, fun i p hp => ?_⟩
    · rcases hc with ⟨e, _⟩ | ⟨g', cap', cur, e, _, _, hc', _⟩
      · cases e
      · cases e; exact hc'
    · have hi : i < ps.length := (List.getElem?_eq_some_iff.1 hp).1
      rw [h.cellAt (0 + i * 2) (by omega), h.cellAt (0 + i * 2 + 1) (by omega), Nat.zero_add]
      exact F_at hp
end Go.Proofs.Ytodionedjokdmaa
-- with Sp
namespace Go.Proofs.Ytodionedjokdmaa
open Go.RowKit
set_option linter.unusedVariables false
set_option linter.unusedSimpArgs false

/-- A slice of whole numbers, as an argument has it. -/
def Ints (w : World) (v : Value) : Prop := (∃ a c, v = .slice a 0 c) ∨ ∃ b off cap n, ∃ ls : List Int, v = .slice (some ⟨b, off, none⟩) n cap ∧ ls.length = n ∧ n ≤ 140737488351232 ∧ b < w.heap.size ∧ ∀ i x, ls[i]? = some x → w.cell? ⟨b, off + i, none⟩ = some (.int .i64 x)
theorem Ints.below {w w' : World} {v : Value} (h : Ints w v) (hb : Below w.heap.size w w') : Ints w' v := by
  rcases h with h | ⟨b, off, cap, n, ls, h1, h2, h3, h4, h5⟩
  · exact .inl h
  · exact .inr ⟨b, off, cap, n, ls, h1, h2, h3, Nat.lt_of_lt_of_le h4 hb.size, fun i x hx => by rw [hb.cell (p := ⟨b, _, none⟩) h4]; exact h5 i x hx⟩
/-- The same, the numbers named. -/
def IntsL (w : World) (v : Value) (ls : List Int) : Prop := ((∃ a c, v = .slice a 0 c) ∧ ls = []) ∨ ∃ b off cap n, v = .slice (some ⟨b, off, none⟩) n cap ∧ ls.length = n ∧ n ≤ 140737488351232 ∧ b < w.heap.size ∧ ∀ i x, ls[i]? = some x → w.cell? ⟨b, off + i, none⟩ = some (.int .i64 x)
theorem IntsL.below {w w' : World} {v : Value} {ls : List Int} (h : IntsL w v ls) (hb : Below w.heap.size w w') : IntsL w' v ls := by
  rcases h with h | ⟨b, off, cap, n, h1, h2, h3, h4, h5⟩
  · exact .inl h
  · exact .inr ⟨b, off, cap, n, h1, h2, h3, Nat.lt_of_lt_of_le h4 hb.size, fun i x hx => by rw [hb.cell (p := ⟨b, _, none⟩) h4]; exact h5 i x hx⟩
theorem Ints.named {w : World} {v : Value} (h : Ints w v) : ∃ ls, IntsL w v ls := by
  rcases h with h | ⟨b, off, cap, n, ls, h1⟩
  · exact ⟨[], .inl ⟨h, rfl⟩⟩
  · exact ⟨ls, .inr ⟨b, off, cap, n, h1⟩⟩
end Go.Proofs.Ytodionedjokdmaa
