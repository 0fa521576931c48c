import Derived.Test.YtjmfjehjlnghmaaSi
import Derived.Test.YtjmfjehjlnghmaaNd
import Derived.Laws.MakeOwn
namespace Go.Proofs.Ytjmfjehjlnghmaa
open Go.RowKit
set_option linter.unusedVariables false
set_option linter.unusedSimpArgs false

theorem cells2 {wx : World} {B : Nat} {a b : Value} (h : wx.heap[B]? = some (Obj.cells #[a, b] 31)) : wx.cell? ⟨B, 0, none⟩ = some a ∧ wx.cell? ⟨B, 1, none⟩ = some b :=
  ⟨by rw [cell_of_row _ _ 0 _ 31 (0, 0) h]; rfl, by rw [cell_of_row _ _ 1 _ 31 (0, 0) h]; rfl⟩
end Go.Proofs.Ytjmfjehjlnghmaa
