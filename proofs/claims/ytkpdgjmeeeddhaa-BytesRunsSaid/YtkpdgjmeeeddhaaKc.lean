import Derived.Test.YtkpdgjmeeeddhaaKa
import Derived.Test.YtkpdgjmeeeddhaaGa
import Derived.Deep.AppendLies
import Derived.Maps.AppendAt
set_option linter.unusedVariables false
set_option linter.unusedSimpArgs false
namespace Go.Proofs.Ytkpdgjmeeeddhaa
open Go.RowKit
set_option linter.unusedVariables false
set_option linter.unusedSimpArgs false

theorem owns_mono {w : World} {base base' : Nat} {e : TypeId} {size : Nat} {v : Value} {n : Nat} {xs : List Value} (h : w.ownsRow base e size v n xs) (hb : base' ≤ base) : w.ownsRow base' e size v n xs := by
  refine ⟨h.1, ?_⟩
  rcases h.2 with h | ⟨g, cap, cur, h1, h2, h3⟩
  · exact .inl h
  · exact .inr ⟨g, cap, cur, h1, Nat.le_trans hb h2, h3⟩
/-- Bytes of a call's own. -/
def NB (X : Nat) (w : World) (bs : List Nat) (v : Value) : Prop := w.ownsRow X 5 1 v bs.length (Y bs)
theorem NB.nil (X : Nat) (w : World) : NB X w [] (.slice none 0 0) := World.ownsRow_nil _ _ _ _
theorem NB.form {X : Nat} {w : World} {bs : List Nat} {v : Value} (h : NB X w bs v) : ∃ A c, v = .slice A bs.length c ∧ bs.length ≤ c ∧ YR w A bs ∧ (A = none → c = 0) := by
  rcases h.2 with ⟨h1, h2⟩ | ⟨g, cap, cur, h1, hg, hh, hc, h3⟩
  · have hl : bs.length = 0 := h2
    obtain rfl := List.eq_nil_of_length_eq_zero hl
    exact ⟨none, 0, h1, Nat.le_refl _, fun i x hi => by simp at hi, fun _ => rfl⟩
  · refine ⟨_, cap, h1, hc, fun i x hi => ⟨g, 0, cur, rfl, hh, ?_⟩, fun e => by cases e⟩
    have := h.cells (g := g) (by rw [h1]; rfl) i _ (Y_at hi)
    rw [addr_add, cell_of_row _ _ _ _ 5 (0, 0) hh] at this
    exact this
theorem NB.mono {X X' : Nat} {w : World} {bs : List Nat} {v : Value} (h : NB X w bs v) (hX : X' ≤ X) : NB X' w bs v := owns_mono h hX
/-- A reader in memory. -/
def Rd (w : World) (R : Nat) (bs : List Nat) (bad : Bool) : Prop :=
  ∃ A c, w.heap[R]? = some (Obj.cells #[.slice A bs.length c, .bool bad] 75) ∧ bs.length ≤ c ∧ bs.length ≤ 140737488351232 ∧ YR w A bs ∧ (∀ x ∈ bs, x < 256) ∧ (A = none → c = 0)
theorem Rd.lt {w : World} {R : Nat} {bs : List Nat} {bad : Bool} (h : Rd w R bs bad) : R < w.heap.size := by
  obtain ⟨A, c, h1, _⟩ := h
  exact (Array.getElem?_eq_some_iff.1 h1).1
theorem Rd.kept {w w' : World} {R : Nat} {bs : List Nat} {bad : Bool} (h : Rd w R bs bad) (hk : ∀ (b : Nat) (cs : Array Value), w.heap[b]? = some (Obj.cells cs 5) → w'.heap[b]? = some (Obj.cells cs 5)) (hR : w'.heap[R]? = w.heap[R]?) : Rd w' R bs bad := by
  obtain ⟨A, c, h1, h2, h3, h4, h5⟩ := h
  exact ⟨A, c, by rw [hR]; exact h1, h2, h3, h4.kept hk, h5⟩
theorem Rd.below {w w' : World} {R : Nat} {bs : List Nat} {bad : Bool} (h : Rd w R bs bad) (hb : Below w.heap.size w w') : Rd w' R bs bad :=
  h.kept (fun b cs hh => by rw [hb.block _ (Array.getElem?_eq_some_iff.1 hh).1]; exact hh) (hb.block _ h.lt)
/-- Another reader has turned. -/
theorem Rd.grown {w w' : World} {R S : Nat} {bs cs : List Nat} {bad bad' : Bool} (h : Rd w R bs bad) (hs : Rd w S cs bad') (hg : w.grownBy w' (some S)) (hne : R ≠ S) : Rd w' R bs bad := by
  obtain ⟨A, c, s1, _⟩ := hs
  refine h.kept (fun b cs hh => ?_) (hg.block _ h.lt (by simpa using hne))
  rw [hg.block _ (Array.getElem?_eq_some_iff.1 hh).1 (fun e => ?_)]
  · exact hh
  · injection e with e
    subst e
    rw [hh] at s1
    simp at s1
theorem Rd.cells {w : World} {R : Nat} {bs : List Nat} {bad : Bool} (h : Rd w R bs bad) : ∃ A c, w.heap[R]? = some (Obj.cells #[.slice A bs.length c, .bool bad] 75) ∧ w.cell? ⟨R, 0, none⟩ = some (.slice A bs.length c) ∧ w.cell? ⟨R, 1, none⟩ = some (.bool bad) ∧ w.frozen? ⟨R, 0, none⟩ = false ∧ w.frozen? ⟨R, 1, none⟩ = false ∧
    bs.length ≤ c ∧ bs.length ≤ 140737488351232 ∧ YR w A bs ∧ (∀ x ∈ bs, x < 256) ∧ (A = none → c = 0) := by
  obtain ⟨A, c, h1, h2, h3, h4, h5⟩ := h
  exact ⟨A, c, h1, by rw [cell_of_row _ _ _ _ 75 (0, 0) h1]; rfl, by rw [cell_of_row _ _ _ _ 75 (0, 0) h1]; rfl, frozen_of_row _ _ 0 _ 75 h1, frozen_of_row _ _ 1 _ 75 h1, h2, h3, h4, h5⟩
/-- Only a reader has turned, and what is new. -/
theorem grown_set {w : World} {R i : Nat} (u : Value) : w.grownBy (w.setCell ⟨R, i, none⟩ u) (some R) := ⟨rfl, rfl, rfl, by simp, fun k _ hk => heap_setCell_other w _ k u (fun e => hk (by simp [e]))⟩
theorem grown_below {w w' : World} {row : Option Nat} (h : Below w.heap.size w w') : w.grownBy w' row := ⟨h.os, h.tape, h.output, h.size, fun k hk _ => h.block k hk⟩
theorem grown_trans {a b c : World} {row : Option Nat} (h : a.grownBy b row) (k : b.grownBy c row) : a.grownBy c row :=
  ⟨k.os.trans h.os, k.tape.trans h.tape, k.output.trans h.output, Nat.le_trans h.size k.size, fun i hi hr => (k.block i (Nat.lt_of_lt_of_le hi h.size) hr).trans (h.block i hi hr)⟩
theorem below_grown {X w w' : World} {R : Nat} (h : Below X.heap.size X w) (hg : w.grownBy w' (some R)) (hR : X.heap.size ≤ R) : Below X.heap.size X w' :=
  h.grown hg h.size fun k hk => by injection hk with hk; omega
/-- The flag is set. -/
theorem Rd.fail {w : World} {R : Nat} {bs : List Nat} {bad : Bool} (h : Rd w R bs bad) : Rd (w.setCell ⟨R, 1, none⟩ (.bool true)) R bs true := by
  obtain ⟨A, c, h1, h2, h3, h4, h5⟩ := h
  refine ⟨A, c, ?_, h2, h3, h4.kept fun b cs hh => ?_, h5⟩
  · have := heap_setCell_same _ _ 1 _ 75 (.bool true) h1; simpa using this
  · rw [heap_setCell_other _ _ _ _ (fun e => ?_)]
    · exact hh
    · simp only at e; subst e; rw [hh] at h1; simp at h1
/-- The bytes go on. -/
theorem Rd.cut {w : World} {R : Nat} {bs : List Nat} {bad : Bool} {A : Option Addr} {c k : Nat} (h1 : w.heap[R]? = some (Obj.cells #[.slice A bs.length c, .bool bad] 75)) (h2 : bs.length ≤ c) (h3 : bs.length ≤ 140737488351232) (h4 : YR w A bs) (h5 : ∀ x ∈ bs, x < 256) (h6 : A = none → c = 0) (hk : k ≤ bs.length) :
    Rd (w.setCell ⟨R, 0, none⟩ (.slice (if c = k then A else A.map (·.add k)) (bs.length - k) (c - k))) R (bs.drop k) bad := by
  refine ⟨if c = k then A else A.map (·.add k), c - k, ?_, by simp; omega, by simp; omega, ?_, fun x hx => h5 x (List.mem_of_mem_drop hx), fun e => ?_⟩
  · have := heap_setCell_same _ _ 0 _ 75 (.slice (if c = k then A else A.map (·.add k)) (bs.length - k) (c - k)) h1; simpa using this
  · refine (h4.drop h2).kept fun b cs hh => ?_
    rw [heap_setCell_other _ _ _ _ (fun e => ?_)]
    · exact hh
    · simp only at e; subst e; rw [hh] at h1; simp at h1
  · split at e
    · have := h6 e; omega
    · have := h6 (by simpa using e); omega
end Go.Proofs.Ytkpdgjmeeeddhaa

