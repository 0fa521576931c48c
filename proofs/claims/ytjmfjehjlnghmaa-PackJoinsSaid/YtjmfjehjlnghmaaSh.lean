import Derived.Test.YtjmfjehjlnghmaaSe
import Derived.Test.YtjmfjehjlnghmaaRj
import Derived.WalkSmall
import Derived.Shelf.AbstractIn
namespace Go.Proofs.Ytjmfjehjlnghmaa
open Go.RowKit Go.Shelf
set_option linter.unusedVariables false
set_option linter.unusedSimpArgs false
attribute [local go_sem] Oper.semAt_some

theorem of_any (D : Int) (w : World) : Calls Try.prog 23 #[.int .i64 D] w fun e w' => e = .returned (.agg #[.int .i64 D, .slice none 0 0]) ∧ Below w.heap.size w w' := by
  have hB : Below w.heap.size w (w.alloc (Obj.cells #[.int .i64 D, .slice none 0 0] 31)) := (Below.refl _ _).alloc (Nat.le_refl _) _
  have hk := heap_alloc_new w (Obj.cells #[.int .i64 D, .slice none 0 0] 31)
  obtain ⟨s0, s1, s2, s3, _⟩ := fresh2 w 31 (.int .i64 0) (.slice none 0 0) (.int .i64 D) (.slice none 0 0)
  have HB := Lib.hid hB
  have HK := Lib.hid hk
  clear hB hk
  go_enter Try.func23, Try.ntmps23
  go_wp2
  refine bodyPost_ret (results_cell_row (by rfl) _ _ w.heap.size 31 _ (0, 0) _ (by rfl) HK.out Try.underlying31 rfl info24) rfl ⟨rfl, HB.out⟩
theorem old2 (w : World) (B : Nat) (t : TypeId) (a b u v : Value) (h : w.heap[B]? = some (Obj.cells #[a, b] t)) :
    w.cell? ⟨B, 0, none⟩ = some a ∧ w.frozen? ⟨B, 0, none⟩ = false ∧ (w.setCell ⟨B, 0, none⟩ u).cell? ⟨B, 1, none⟩ = some b ∧ (w.setCell ⟨B, 0, none⟩ u).frozen? ⟨B, 1, none⟩ = false ∧
    ((w.setCell ⟨B, 0, none⟩ u).setCell ⟨B, 1, none⟩ v).heap[B]? = some (Obj.cells #[u, v] t) ∧ w.cell? ⟨B, 1, none⟩ = some b := by
  have h1 := heap_setCell_same _ _ 0 _ t u h
  have h2 := heap_setCell_same _ _ 1 _ t v h1
  refine ⟨by rw [cell_of_row _ _ 0 _ t (0, 0) h]; rfl, frozen_of_row _ _ 0 _ t h, by rw [cell_of_row _ _ 1 _ t (0, 0) h1]; rfl, frozen_of_row _ _ 1 _ t h1, ?_, by rw [cell_of_row _ _ 1 _ t (0, 0) h]; rfl⟩
  simpa using h2
end Go.Proofs.Ytjmfjehjlnghmaa
