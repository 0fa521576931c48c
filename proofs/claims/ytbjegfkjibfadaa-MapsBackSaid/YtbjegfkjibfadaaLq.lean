/- MapsBack over what came in. -/
import Derived.Test.YtbjegfkjibfadaaLb
import Derived.Test.YtbjegfkjibfadaaTb
set_option linter.unusedVariables false
set_option linter.unusedSimpArgs false
namespace Go.Proofs.Ytbjegfkjibfadaa
open Go.RowKit
set_option linter.unusedVariables false
set_option linter.unusedSimpArgs false
theorem ba_law (v v' : Value) (W : World) (h : CameM W v) (h' : ∃ m : Mp, m.In ∧ v' = .agg #[.int .i64 m.a, .int .u64 m.s, .int .i64 m.f, .int .i64 m.n, .bool m.w]) : Calls Try.prog 7 #[v, v'] W fun e w' => e = .returned (.bool true) ∧ Below W.heap.size W w' := by
  obtain ⟨A, n, c, us, rfl, hc, hm, hl, hr, _⟩ := h
  obtain ⟨m, _, rfl⟩ := h'
  exact back_all A n c us m W hl hc hm hr
end Go.Proofs.Ytbjegfkjibfadaa
