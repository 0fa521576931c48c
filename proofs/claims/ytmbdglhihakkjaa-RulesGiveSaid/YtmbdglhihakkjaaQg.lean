/- Stores into a variable of two labels. -/
import Derived.Test.YtmbdglhihakkjaaQd
set_option linter.unusedVariables false
set_option linter.unusedSimpArgs false
namespace Go.Proofs.Ytmbdglhihakkjaa
open Go.RowKit
set_option linter.unusedVariables false
set_option linter.unusedSimpArgs false
theorem old4 (w : World) (B : Nat) (t : TypeId) (a b c d x y z u : Value) (h : w.heap[B]? = some (Obj.cells #[a, b, c, d] t)) :
    (w.cell? ⟨B, 0, none⟩ = some a ∧ w.frozen? ⟨B, 0, none⟩ = false ∧ (w.setCell ⟨B, 0, none⟩ x).cell? ⟨B, 1, none⟩ = some b ∧ (w.setCell ⟨B, 0, none⟩ x).frozen? ⟨B, 1, none⟩ = false) ∧
    (((w.setCell ⟨B, 0, none⟩ x).setCell ⟨B, 1, none⟩ y).cell? ⟨B, 2, none⟩ = some c ∧ ((w.setCell ⟨B, 0, none⟩ x).setCell ⟨B, 1, none⟩ y).frozen? ⟨B, 2, none⟩ = false ∧
    (((w.setCell ⟨B, 0, none⟩ x).setCell ⟨B, 1, none⟩ y).setCell ⟨B, 2, none⟩ z).cell? ⟨B, 3, none⟩ = some d ∧ (((w.setCell ⟨B, 0, none⟩ x).setCell ⟨B, 1, none⟩ y).setCell ⟨B, 2, none⟩ z).frozen? ⟨B, 3, none⟩ = false) ∧
    ((((w.setCell ⟨B, 0, none⟩ x).setCell ⟨B, 1, none⟩ y).setCell ⟨B, 2, none⟩ z).setCell ⟨B, 3, none⟩ u).heap[B]? = some (Obj.cells #[x, y, z, u] t) := by
  have h1 := heap_setCell_same _ _ 0 _ t x h
  have h2 := heap_setCell_same _ _ 1 _ t y h1
  have h3 := heap_setCell_same _ _ 2 _ t z h2
  have h4 := heap_setCell_same _ _ 3 _ t u h3
  refine ⟨⟨by rw [cell_of_row _ _ 0 _ t (0, 0) h]; rfl, frozen_of_row _ _ 0 _ t h, by rw [cell_of_row _ _ 1 _ t (0, 0) h1]; rfl, frozen_of_row _ _ 1 _ t h1⟩, ⟨by rw [cell_of_row _ _ 2 _ t (0, 0) h2]; rfl, frozen_of_row _ _ 2 _ t h2, by rw [cell_of_row _ _ 3 _ t (0, 0) h3]; rfl, frozen_of_row _ _ 3 _ t h3⟩, ?_⟩
  simpa using h4
/-- The four stores. -/
abbrev set4 (w : World) (B : Nat) (x y z u : Value) : World := (((w.setCell ⟨B, 0, none⟩ x).setCell ⟨B, 1, none⟩ y).setCell ⟨B, 2, none⟩ z).setCell ⟨B, 3, none⟩ u
abbrev set2 (w : World) (B : Nat) (x y : Value) : World := (w.setCell ⟨B, 0, none⟩ x).setCell ⟨B, 1, none⟩ y
section
variable {k B : Nat} {W W' w : World} {D : Int} {a : Option Addr} {n c A n₀ : Nat} {P : LP} {T : TypeId} {cs : Array Value}
theorem LO.set4 (h : LO k B W D a n c P) (hA : W.heap[A]? = some (Obj.cells cs T)) (hT : T ≠ 61) (x y z u : Value) : LO k B (set4 W A x y z u) D a n c P := by
  have h1 := heap_setCell_same _ _ 0 _ T x hA
  have h2 := heap_setCell_same _ _ 1 _ T y h1
  have h3 := heap_setCell_same _ _ 2 _ T z h2
  exact (((h.set x hA hT).set y h1 hT).set z h2 hT).set u h3 hT
theorem LO.set2 (h : LO k B W D a n c P) (hA : W.heap[A]? = some (Obj.cells cs T)) (hT : T ≠ 61) (x y : Value) : LO k B (set2 W A x y) D a n c P :=
  (h.set x hA hT).set y (heap_setCell_same _ _ 0 _ T x hA) hT
theorem below_set4 (h : Below n₀ w W) (hA : n₀ ≤ A) (x y z u : Value) : Below n₀ w (set4 W A x y z u) :=
  (((h.setCell (p := ⟨A, 0, none⟩) hA x).setCell (p := ⟨A, 1, none⟩) hA y).setCell (p := ⟨A, 2, none⟩) hA z).setCell (p := ⟨A, 3, none⟩) hA u
theorem below_set2 (h : Below n₀ w W) (hA : n₀ ≤ A) (x y : Value) : Below n₀ w (set2 W A x y) :=
  (h.setCell (p := ⟨A, 0, none⟩) hA x).setCell (p := ⟨A, 1, none⟩) hA y
theorem block_below {w w' : World} {A : Nat} {o : Obj} (h : w.heap[A]? = some o) (hb : Below w.heap.size w w') : w'.heap[A]? = some o := by
  rw [hb.block _ (Array.getElem?_eq_some_iff.1 h).1]; exact h
end
/-- A variable that holds two labels. -/
def VW (w : World) (A : Nat) (T : TypeId) (D : Int) (a : Option Addr) (n c : Nat) (P : LP) (E : Int) (b : Option Addr) (m d : Nat) (Q : LP) : Prop :=
  w.heap[A]? = some (Obj.cells #[.int .i64 D, .slice a n c, .int .i64 E, .slice b m d] T) ∧ LA 12 w D a n c P ∧ LA 12 w E b m d Q
/-- A variable that holds a label. -/
def VL (w : World) (A : Nat) (D : Int) (a : Option Addr) (n c : Nat) (P : LP) : Prop :=
  w.heap[A]? = some (Obj.cells #[.int .i64 D, .slice a n c] 29) ∧ LA 12 w D a n c P
section
variable {w w' : World} {A : Nat} {T : TypeId} {D E : Int} {a b : Option Addr} {n c m d : Nat} {P Q : LP}
theorem VW.below (h : VW w A T D a n c P E b m d Q) (hb : Below w.heap.size w w') : VW w' A T D a n c P E b m d Q := ⟨block_below h.1 hb, h.2.1.below hb, h.2.2.below hb⟩
theorem VL.below (h : VL w A D a n c P) (hb : Below w.heap.size w w') : VL w' A D a n c P := ⟨block_below h.1 hb, h.2.below hb⟩
theorem VW.cells (h : VW w A T D a n c P E b m d Q) : w.cell? ⟨A, 0, none⟩ = some (.int .i64 D) ∧ w.cell? ⟨A, 1, none⟩ = some (.slice a n c) ∧ w.cell? ⟨A, 2, none⟩ = some (.int .i64 E) ∧ w.cell? ⟨A, 3, none⟩ = some (.slice b m d) :=
  ⟨by rw [cell_of_row _ _ 0 _ T (0, 0) h.1]; rfl, by rw [cell_of_row _ _ 1 _ T (0, 0) h.1]; rfl, by rw [cell_of_row _ _ 2 _ T (0, 0) h.1]; rfl, by rw [cell_of_row _ _ 3 _ T (0, 0) h.1]; rfl⟩
theorem VL.cells (h : VL w A D a n c P) : w.cell? ⟨A, 0, none⟩ = some (.int .i64 D) ∧ w.cell? ⟨A, 1, none⟩ = some (.slice a n c) :=
  ⟨by rw [cell_of_row _ _ 0 _ 29 (0, 0) h.1]; rfl, by rw [cell_of_row _ _ 1 _ 29 (0, 0) h.1]; rfl⟩
end
end Go.Proofs.Ytmbdglhihakkjaa
