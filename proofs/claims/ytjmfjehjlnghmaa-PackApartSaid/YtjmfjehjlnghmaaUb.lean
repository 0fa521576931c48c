import Derived.Test.YtjmfjehjlnghmaaUa
import Derived.Test.YtjmfjehjlnghmaaSe
import Derived.Test.YtjmfjehjlnghmaaRc
import Derived.Test.YtjmfjehjlnghmaaRj
namespace Go.Proofs.Ytjmfjehjlnghmaa
open Go.RowKit
set_option linter.unusedVariables false
set_option linter.unusedSimpArgs false

/-- A call's label, in memory laid since X. -/
def LV (X w : World) (G : Int → List (Nat × Int) → Prop) (y : Value) : Prop := ∃ D a n c ps, y = .agg #[.int .i64 D, .slice a n c] ∧ G D ps ∧ w.ownsRow X.heap.size 57 2 (.slice a n c) ps.length (F ps)
/-- A new variable, not yet stored into. -/
def AV (X w : World) (p : Value) : Prop := ∃ A, p = .pointer (some ⟨A, 0, none⟩) ∧ X.heap.size ≤ A ∧ ∃ x u, w.heap[A]? = some (Obj.cells #[x, u] 31)
/-- A new variable that holds a call's label. -/
def SV (w : World) (p y : Value) : Prop := ∃ A D v, p = .pointer (some ⟨A, 0, none⟩) ∧ y = .agg #[.int .i64 D, v] ∧ w.heap[A]? = some (Obj.cells #[.int .i64 D, v] 31)
theorem LV.below {X w w' : World} {G : Int → List (Nat × Int) → Prop} {y : Value} (h : LV X w G y) (hb : Below w.heap.size w w') : LV X w' G y := by
  obtain ⟨D, a, n, c, ps, h1, h2, h3⟩ := h
  exact ⟨D, a, n, c, ps, h1, h2, owns_below h3 hb⟩
theorem AV.below {X w w' : World} {p : Value} (h : AV X w p) (hb : Below w.heap.size w w') : AV X w' p := by
  obtain ⟨A, h1, h2, x, u, h3⟩ := h
  exact ⟨A, h1, h2, x, u, by rw [hb.block _ (Array.getElem?_eq_some_iff.1 h3).1]; exact h3⟩
theorem SV.below {w w' : World} {p y : Value} (h : SV w p y) (hb : Below w.heap.size w w') : SV w' p y := by
  obtain ⟨A, D, v, h1, h2, h3⟩ := h
  exact ⟨A, D, v, h1, h2, by rw [hb.block _ (Array.getElem?_eq_some_iff.1 h3).1]; exact h3⟩
theorem LV.set {X w : World} {G : Int → List (Nat × Int) → Prop} {y : Value} {A i : Nat} {x u z : Value} (h : LV X w G y) (hA : w.heap[A]? = some (Obj.cells #[x, u] 31)) : LV X (w.setCell ⟨A, i, none⟩ z) G y := by
  obtain ⟨D, a, n, c, ps, h1, h2, h3⟩ := h
  refine ⟨D, a, n, c, ps, h1, h2, owns_set h3 _ _ (fun e => ?_)⟩
  rcases h3.2 with ⟨hv, _⟩ | ⟨g, cap, cur, hv, _, hg, _⟩
  · rw [hv] at e; simp [Value.ownBlock] at e
  · rw [hv] at e
    obtain rfl : A = g := by simpa [Value.ownBlock] using e
    rw [hA] at hg
    simp at hg
theorem AV.set {X w : World} {p : Value} {A i : Nat} {z : Value} (h : AV X w p) (hne : p ≠ .pointer (some ⟨A, 0, none⟩)) : AV X (w.setCell ⟨A, i, none⟩ z) p := by
  obtain ⟨B, h1, h2, x, u, h3⟩ := h
  exact ⟨B, h1, h2, x, u, by rw [heap_setCell_other _ _ _ _ (fun e => hne (by rw [h1]; simp at e; rw [e]))]; exact h3⟩
theorem SV.set {w : World} {p y : Value} {A i : Nat} {z : Value} (h : SV w p y) (hne : p ≠ .pointer (some ⟨A, 0, none⟩)) : SV (w.setCell ⟨A, i, none⟩ z) p y := by
  obtain ⟨B, D, v, h1, h2, h3⟩ := h
  exact ⟨B, D, v, h1, h2, by rw [heap_setCell_other _ _ _ _ (fun e => hne (by rw [h1]; simp at e; rw [e]))]; exact h3⟩
theorem AV.new (X w : World) (x u : Value) (h : X.heap.size ≤ w.heap.size) : AV X (w.alloc (Obj.cells #[x, u] 31)) (.pointer (some ⟨w.heap.size, 0, none⟩)) := ⟨_, rfl, h, x, u, heap_alloc_new w _⟩
theorem AV.ne {X w : World} {p : Value} (h : AV X w p) : p ≠ .pointer (some ⟨w.heap.size, 0, none⟩) := by
  obtain ⟨A, h1, h2, x, u, h3⟩ := h
  intro e
  rw [h1] at e
  simp at e
  have := (Array.getElem?_eq_some_iff.1 h3).1
  omega
theorem below_alloc1 (w : World) (o : Obj) : Below w.heap.size w (w.alloc o) := (Below.refl _ _).alloc (Nat.le_refl _) _
theorem gone {o : Option Bool} (h : o = some false) {Q : Prop} : o = some true → Q := fun e => by rw [h] at e; cases e
theorem set_same {L : Array Bool} {i : Nat} (h : L[i]? = some false) : (L.setIfInBounds i true)[i]? = some true := by
  rw [Array.getElem?_setIfInBounds]; simp [(Array.getElem?_eq_some_iff.1 h).1]
theorem set_other {L : Array Bool} {i j : Nat} (h : i ≠ j) : (L.setIfInBounds i true)[j]? = L[j]? := by
  rw [Array.getElem?_setIfInBounds]; simp [h]
theorem set_keep {L : Array Bool} {i j : Nat} (h : L[j]? = some true) : (L.setIfInBounds i true)[j]? = some true := by
  rw [Array.getElem?_setIfInBounds]
  split
  · rename_i e; subst e; simp [(Array.getElem?_eq_some_iff.1 h).1]
  · exact h
theorem not_done {o : Option Bool} (h : o = some false) (h' : o = some true) {Q : Prop} : Q := by rw [h] at h'; cases h'
theorem ready_nil {ops : Array Oper} {md : Region.Mode} {L : Array Bool} {i : Nat} {o : Oper} (hr : Region.ready md ops L = []) (h1 : L[i]? = some false) (h2 : ops[i]? = some o) (h3 : (o.after.all fun e => !Region.binds md e || L.getD e.on false) = true) : False := by
  have := ready_of h1 h2 h3
  rw [hr] at this; cases this
theorem dep {L : Array Bool} {j : Nat} (h : L.getD j false = true) : L[j]? = some true := by
  rw [Array.getD_eq_getD_getElem?] at h
  cases hL : L[j]? with
  | none => rw [hL] at h; simp at h
  | some b => rw [hL] at h; simp at h; rw [h]
theorem undep {L : Array Bool} {j : Nat} (h : L[j]? = some true) : L.getD j false = true := by
  rw [Array.getD_eq_getD_getElem?, h]; rfl
end Go.Proofs.Ytjmfjehjlnghmaa
