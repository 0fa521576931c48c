/- The laws over what came in. -/
import Derived.Test.YtmkjdghjaeolcaaUf
set_option linter.unusedVariables false
set_option linter.unusedSimpArgs false
namespace Go.Proofs.Ytmkjdghjaeolcaa
open Go.RowKit
set_option linter.unusedVariables false
set_option linter.unusedSimpArgs false
theorem ri_law (a b c : Int) (W : World) (ha : -9223372036854775808 ≤ a ∧ a ≤ 9223372036854775807) (hb : -9223372036854775808 ≤ b ∧ b ≤ 9223372036854775807) (hc : -9223372036854775808 ≤ c ∧ c ≤ 9223372036854775807) : Calls Try.prog 4 #[.int .i64 a, .int .i64 b, .int .i64 c] W fun e w' => e = .returned (.bool true) ∧ Below W.heap.size W w' := right_all a b c W ha hb hc
theorem wa_law (a b c : Int) (W : World) (hc : -9223372036854775808 ≤ c ∧ c ≤ 9223372036854775807) : Calls Try.prog 5 #[.int .i64 a, .int .i64 b, .int .i64 c] W fun e w' => e = .returned (.bool true) ∧ Below W.heap.size W w' := ways_all a b c W hc
theorem tr_law (x : Int) (v v' : Value) (W : World) (h : CameN W v) (h' : CameN W v') : Calls Try.prog 6 #[.int .i64 x, v, v'] W fun e w' => e = .returned (.bool true) ∧ Below W.heap.size W w' := by
  obtain ⟨A, n, c, xs, rfl, hc, hm, hl, hr, _⟩ := h
  obtain ⟨A', n', c', xs', rfl, hc', hm', hl', hr', _⟩ := h'
  exact tree_all x A A' n c n' c' xs xs' W hc hm hl hr hc' hm' hl' hr'
end Go.Proofs.Ytmkjdghjaeolcaa
