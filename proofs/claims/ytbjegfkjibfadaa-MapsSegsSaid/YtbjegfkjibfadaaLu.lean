/- MapsSegs over what came in. -/
import Derived.Test.YtbjegfkjibfadaaLg
set_option linter.unusedVariables false
set_option linter.unusedSimpArgs false
namespace Go.Proofs.Ytbjegfkjibfadaa
open Go.RowKit
set_option linter.unusedVariables false
set_option linter.unusedSimpArgs false
theorem se_law (v : Value) (x : Int) (W : World) (h : CameM W v) (_ : -9223372036854775808 ≤ x ∧ x ≤ 9223372036854775807) : Calls Try.prog 5 #[v, .int .i64 x] W fun e w' => e = .returned (.bool true) ∧ Below W.heap.size W w' := by
  obtain ⟨A, n, c, us, rfl, hc, hm, hl, hr, hin⟩ := h
  exact segs_all A n c us x W hl hc hm hr hin
end Go.Proofs.Ytbjegfkjibfadaa
