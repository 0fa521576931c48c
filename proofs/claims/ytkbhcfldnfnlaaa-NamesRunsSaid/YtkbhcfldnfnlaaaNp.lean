/- NamesRuns over what came in. -/
import Derived.Test.YtkbhcfldnfnlaaaNi
import Derived.Test.YtkbhcfldnfnlaaaNn
set_option linter.unusedVariables false
set_option linter.unusedSimpArgs false
namespace Go.Proofs.Ytkbhcfldnfnlaaa
open Go.RowKit
set_option linter.unusedVariables false
set_option linter.unusedSimpArgs false
theorem ru_law (x y : Int) (v : Value) (W : World) (hx : 0 ≤ x ∧ x ≤ 18446744073709551615) (h : CameN W v) : Calls Try.prog 3 #[.int .u64 x, .int .i64 y, v] W fun e w' => e = .returned (.bool true) ∧ Below W.heap.size W w' := by
  obtain ⟨A, n, c, xs, rfl, hc, hm, hl, hr, _⟩ := h
  exact runs_all x y A n c xs W hx.1 hc hm hl hr
end Go.Proofs.Ytkbhcfldnfnlaaa
