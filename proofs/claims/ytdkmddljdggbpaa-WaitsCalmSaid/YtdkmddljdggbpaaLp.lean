/- The laws over what came in. -/
import Derived.Test.YtdkmddljdggbpaaAd
import Derived.Test.YtdkmddljdggbpaaWb
import Derived.Test.YtdkmddljdggbpaaWc
set_option linter.unusedVariables false
set_option linter.unusedSimpArgs false
namespace Go.Proofs.Ytdkmddljdggbpaa
open Go.RowKit
set_option linter.unusedVariables false
set_option linter.unusedSimpArgs false
theorem why_law (u v : Value) (W : World) (g : CameW u) (h : CameL v) : Calls Try.prog 3 #[u, v] W fun e w' => e = .returned (.bool true) ∧ Below W.heap.size W w' := by
  obtain ⟨x, rfl, _⟩ := g
  obtain ⟨l, rfl⟩ := h
  exact why_all x l W
theorem calm_law (u : Value) (how : Int) (W : World) (g : CameW u) : Calls Try.prog 5 #[u, .int .i64 how] W fun e w' => e = .returned (.bool true) ∧ Below W.heap.size W w' := by
  obtain ⟨x, rfl, hx⟩ := g
  exact calm_all x hx how W
theorem alerts_law (u : Value) (W : World) (g : CameU W u) : Calls Try.prog 4 #[u] W fun e w' => e = .returned (.bool true) ∧ Below W.heap.size W w' := by
  obtain ⟨A, n, c, us, rfl, hc, hm, hl, hr, _⟩ := g
  exact alerts_all A n c us W hc hm hl hr
end Go.Proofs.Ytdkmddljdggbpaa
