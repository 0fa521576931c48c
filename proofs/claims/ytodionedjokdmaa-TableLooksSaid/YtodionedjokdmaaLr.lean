/- TableLooks over what came in. -/
import Derived.Test.YtodionedjokdmaaLd
import Derived.Test.YtodionedjokdmaaVt
set_option linter.unusedVariables false
set_option linter.unusedSimpArgs false
namespace Go.Proofs.Ytodionedjokdmaa
open Go.RowKit
set_option linter.unusedVariables false
set_option linter.unusedSimpArgs false
theorem lo_law (x : Int) (u : Value) (W : World) (g : CameN W u) : Calls Try.prog 5 #[.int .i64 x, u] W fun e w' => e = .returned (.bool true) ∧ Below W.heap.size W w' := by
  obtain ⟨A, n, c, xs, rfl, hc, hm, hl, hr, _⟩ := g
  exact looks_all x A n c xs W hc hm hl hr
end Go.Proofs.Ytodionedjokdmaa
