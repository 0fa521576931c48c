/- MapsRuns over what came in. -/
import Derived.Test.YtbjegfkjibfadaaLf
import Derived.Test.YtbjegfkjibfadaaTb
set_option linter.unusedVariables false
set_option linter.unusedSimpArgs false
namespace Go.Proofs.Ytbjegfkjibfadaa
open Go.RowKit
set_option linter.unusedVariables false
set_option linter.unusedSimpArgs false
theorem ru_law (v : Value) (x : Int) (W : World) (h : CameM W v) (_ : -9223372036854775808 ≤ x ∧ x ≤ 9223372036854775807) : Calls Try.prog 3 #[v, .int .i64 x] W fun e w' => e = .returned (.bool true) ∧ Below W.heap.size W w' := by
  obtain ⟨A, n, c, us, rfl, _, _, hl, hr, _⟩ := h
  exact runs_all A n c us x W hl hr
end Go.Proofs.Ytbjegfkjibfadaa
