/- TableAll over what came in. -/
import Derived.Test.YtodionedjokdmaaHb
import Derived.Test.YtodionedjokdmaaVt
set_option linter.unusedVariables false
set_option linter.unusedSimpArgs false
namespace Go.Proofs.Ytodionedjokdmaa
open Go.RowKit
set_option linter.unusedVariables false
set_option linter.unusedSimpArgs false
theorem al_law (u : Value) (x : Int) (W : World) (g : CameU W u) : Calls Try.prog 6 #[u, .int .i64 x] W fun e w' => e = .returned (.bool true) ∧ Below W.heap.size W w' := by
  obtain ⟨A, n, c, us, rfl, hc, hm, hl, hr, _⟩ := g
  exact tall_all x A n c us W hl hr
end Go.Proofs.Ytodionedjokdmaa
