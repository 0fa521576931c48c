import Derived.Test.YtjmfjehjlnghmaaSd
namespace Go.Proofs.Ytjmfjehjlnghmaa
open Go.RowKit
set_option linter.unusedVariables false
set_option linter.unusedSimpArgs false
attribute [local go_sem] Oper.semAt_some

theorem fresh2 (w : World) (t : TypeId) (a b u v : Value) :
    (w.alloc (Obj.cells #[a, b] t)).cell? ⟨w.heap.size, 0, none⟩ = some a ∧ (w.alloc (Obj.cells #[a, b] t)).frozen? ⟨w.heap.size, 0, none⟩ = false ∧
    ((w.alloc (Obj.cells #[a, b] t)).setCell ⟨w.heap.size, 0, none⟩ u).cell? ⟨w.heap.size, 1, none⟩ = some b ∧ ((w.alloc (Obj.cells #[a, b] t)).setCell ⟨w.heap.size, 0, none⟩ u).frozen? ⟨w.heap.size, 1, none⟩ = false ∧
    (((w.alloc (Obj.cells #[a, b] t)).setCell ⟨w.heap.size, 0, none⟩ u).setCell ⟨w.heap.size, 1, none⟩ v).heap[w.heap.size]? = some (Obj.cells #[u, v] t) := by
  have h := heap_alloc_new w (Obj.cells #[a, b] t)
  have h1 := heap_setCell_same _ _ 0 _ t u h
  have h2 := heap_setCell_same _ _ 1 _ t v h1
  refine ⟨by rw [cell_of_row _ _ 0 _ t (0, 0) h]; rfl, frozen_of_row _ _ 0 _ t h, by rw [cell_of_row _ _ 1 _ t (0, 0) h1]; rfl, frozen_of_row _ _ 1 _ t h1, ?_⟩
  simpa using h2
end Go.Proofs.Ytjmfjehjlnghmaa
