/- PurseRuns over what came in. -/
import Derived.Test.YtmkjdghjaeolcaaUl
import Derived.Test.YtmkjdghjaeolcaaUn
set_option linter.unusedVariables false
set_option linter.unusedSimpArgs false
namespace Go.Proofs.Ytmkjdghjaeolcaa
open Go.RowKit
set_option linter.unusedVariables false
set_option linter.unusedSimpArgs false
theorem ru_law (x : Int) (v : Value) (W : World) (h : CameC W v) : Calls Try.prog 3 #[.int .i64 x, v] W fun e w' => e = .returned (.bool true) ∧ Below W.heap.size W w' := by
  obtain ⟨A, n, c, rfl, hc, hm, h⟩ := h
  refine runs_all x A n c W hc hm ?_
  rcases h with h | ⟨xs, h1, h2, h3⟩
  · exact .inl h
  · exact .inr ⟨xs, h1, h2, h3⟩
end Go.Proofs.Ytmkjdghjaeolcaa
