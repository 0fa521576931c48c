/- The laws over what came in. -/
import Derived.Test.YtodionedjokdmaaLa
import Derived.Test.YtodionedjokdmaaLc
import Derived.Test.YtodionedjokdmaaVt
set_option linter.unusedVariables false
set_option linter.unusedSimpArgs false
namespace Go.Proofs.Ytodionedjokdmaa
open Go.RowKit
set_option linter.unusedVariables false
set_option linter.unusedSimpArgs false
theorem ki_law (u : Value) (W : World) (g : CameN W u) : Calls Try.prog 7 #[u] W fun e w' => e = .returned (.bool true) ∧ Below W.heap.size W w' := by
  obtain ⟨A, n, c, xs, rfl, hc, hm, hl, hr, _⟩ := g
  exact kids_all A n c xs W hc hm hl hr
theorem th_law (u : Value) (W : World) (g : CameN W u) : Calls Try.prog 4 #[u] W fun e w' => e = .returned (.bool true) ∧ Below W.heap.size W w' := by
  obtain ⟨A, n, c, xs, rfl, hc, hm, hl, hr, _⟩ := g
  exact threads_all A n c xs W hc hm hl hr
end Go.Proofs.Ytodionedjokdmaa
