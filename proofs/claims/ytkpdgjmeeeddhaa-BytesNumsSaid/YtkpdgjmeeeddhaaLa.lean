/- The laws over what came in. -/
import Derived.Test.YtkpdgjmeeeddhaaBj
import Derived.Test.YtkpdgjmeeeddhaaBk
import Derived.Test.YtkpdgjmeeeddhaaBl
import Derived.Test.YtkpdgjmeeeddhaaTa
set_option linter.unusedVariables false
set_option linter.unusedSimpArgs false
namespace Go.Proofs.Ytkpdgjmeeeddhaa
open Go.RowKit
set_option linter.unusedVariables false
set_option linter.unusedSimpArgs false
theorem gr_law (v : Value) (a : Int) (W : World) (h : CameB W v) : Calls Try.prog 6 #[v, .int .i64 a] W fun e w' => e = .returned (.bool true) ∧ Below W.heap.size W w' := by
  obtain ⟨A, n, c, bs, rfl, hl, _, hc, _, hr, hx⟩ := h
  exact grow_all A n c bs a W hl hc hr hx
end Go.Proofs.Ytkpdgjmeeeddhaa
