/- BytesRuns: the law. -/
import Derived.Test.YtkpdgjmeeeddhaaDd
import Derived.Test.YtkpdgjmeeeddhaaTb
set_option linter.unusedVariables false
set_option linter.unusedSimpArgs false
namespace Go.Proofs.Ytkpdgjmeeeddhaa
open Go.RowKit
set_option linter.unusedVariables false
set_option linter.unusedSimpArgs false
theorem runs_law (v : Value) (W : World) (h : CameC W v) : Calls Try.prog 3 #[v] W fun e w' => e = .returned (.bool true) ∧ Below W.heap.size W w' := by
  obtain ⟨A, n, c, rfl, h⟩ := h
  exact runs_all A n c W h
end Go.Proofs.Ytkpdgjmeeeddhaa
