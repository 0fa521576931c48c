/- MapsRight over what came in. -/
import Derived.Test.YtbjegfkjibfadaaLa
import Derived.Test.YtbjegfkjibfadaaTb
set_option linter.unusedVariables false
set_option linter.unusedSimpArgs false
namespace Go.Proofs.Ytbjegfkjibfadaa
open Go.RowKit
set_option linter.unusedVariables false
set_option linter.unusedSimpArgs false
theorem ri_law (v : Value) (W : World) (h : CameM W v) : Calls Try.prog 4 #[v] W fun e w' => e = .returned (.bool true) ∧ Below W.heap.size W w' := by
  obtain ⟨A, n, c, us, rfl, _, _, hl, hr, _⟩ := h
  exact right_all A n c us W hl hr
end Go.Proofs.Ytbjegfkjibfadaa
