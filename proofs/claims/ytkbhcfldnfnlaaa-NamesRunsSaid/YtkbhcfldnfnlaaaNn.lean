/- The laws over what came in. -/
import Derived.Test.YtkbhcfldnfnlaaaNf
set_option linter.unusedVariables false
set_option linter.unusedSimpArgs false
namespace Go.Proofs.Ytkbhcfldnfnlaaa
open Go.RowKit
set_option linter.unusedVariables false
set_option linter.unusedSimpArgs false
theorem ri_law (a b : Int) (v : Value) (W : World) (h : ∃ x y : Int, v = .agg #[.int .u64 x, .int .u64 y]) : Calls Try.prog 4 #[.int .u64 a, .int .u64 b, v] W fun e w' => e = .returned (.bool true) ∧ Below W.heap.size W w' := by
  obtain ⟨x, y, rfl⟩ := h
  exact right_all a b x y W
theorem ne_law (a k : Int) (W : World) (ha : 0 ≤ a ∧ a ≤ 18446744073709551615) (hk : -9223372036854775808 ≤ k ∧ k ≤ 9223372036854775807) : Calls Try.prog 5 #[.int .u64 a, .int .i64 k] W fun e w' => e = .returned (.bool true) ∧ Below W.heap.size W w' := new_all a k W ha hk
theorem ap_law (x : Int) (v : Value) (W : World) (h : CameN W v) : Calls Try.prog 6 #[.int .i64 x, v] W fun e w' => e = .returned (.bool true) ∧ Below W.heap.size W w' := by
  obtain ⟨A, n, c, xs, rfl, hc, hm, hl, hr, _⟩ := h
  exact apart_all x A n c xs W hc hm hl hr
end Go.Proofs.Ytkbhcfldnfnlaaa
