/- The laws over what came in. -/
import Derived.Test.YtogbidkkdhhllaaVl
set_option linter.unusedVariables false
set_option linter.unusedSimpArgs false
namespace Go.Proofs.Ytogbidkkdhhllaa
open Go.RowKit
set_option linter.unusedVariables false
set_option linter.unusedSimpArgs false
theorem tw_law (v : Value) (x : Nat) (W : World) (h : CameU W v) : Calls Try.prog 5 #[v, .int .u64 (x : Int)] W fun e w' => e = .returned (.bool true) ∧ Below W.heap.size W w' := by
  obtain ⟨A, n, c, us, rfl, hc, hm, hl, hr, _⟩ := h
  exact twice_all A n c us x W hc hm hl hr
theorem se_law (x : Int) (v : Value) (W : World) (h : CameN W v) : Calls Try.prog 4 #[.int .i64 x, v] W fun e w' => e = .returned (.bool true) ∧ Below W.heap.size W w' := by
  obtain ⟨A, n, c, xs, rfl, hc, hm, hl, hr, _⟩ := h
  exact serves_all x A n c xs W hc hm hl hr
theorem ru_law (v : Value) (W : World) (h : CameN W v) : Calls Try.prog 3 #[v] W fun e w' => e = .returned (.bool true) ∧ Below W.heap.size W w' := by
  obtain ⟨A, n, c, xs, rfl, hc, hm, hl, hr, _⟩ := h
  exact runs_all A n c xs W hc hm hl hr
end Go.Proofs.Ytogbidkkdhhllaa
