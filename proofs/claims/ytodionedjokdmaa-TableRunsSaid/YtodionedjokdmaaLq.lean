/- TableRuns over what came in. -/
import Derived.Test.YtodionedjokdmaaIs
import Derived.Test.YtodionedjokdmaaVt
set_option linter.unusedVariables false
set_option linter.unusedSimpArgs false
namespace Go.Proofs.Ytodionedjokdmaa
open Go.RowKit
set_option linter.unusedVariables false
set_option linter.unusedSimpArgs false
theorem ru_law (u : Value) (W : World) (g : CameC W u) : Calls Try.prog 3 #[u] W fun e w' => e = .returned (.bool true) ∧ Below W.heap.size W w' := by
  obtain ⟨A, n, c, xs, rfl, hc, hm, hl, hr, _⟩ := g
  exact runs_all A n c xs W hl hr
end Go.Proofs.Ytodionedjokdmaa
