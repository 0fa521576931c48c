/- The laws over what came in. -/
import Derived.Test.YtjmdgmlpecjolaaLb
import Derived.Test.YtjmdgmlpecjolaaLc
import Derived.Test.YtjmdgmlpecjolaaLe
import Derived.Test.YtjmdgmlpecjolaaCe
set_option linter.unusedVariables false
set_option linter.unusedSimpArgs false
namespace Go.Proofs.Ytjmdgmlpecjolaa
open Go.RowKit
set_option linter.unusedVariables false
set_option linter.unusedSimpArgs false
theorem ru_law (u v : Value) (W : World) (g : CameN W u) (h : CameN W v) : Calls Try.prog 3 #[u, v] W fun e w' => e = .returned (.bool true) ∧ Below W.heap.size W w' := by
  obtain ⟨A, n, c, xs, rfl, hc, hm, hl, hr, _⟩ := g
  obtain ⟨A2, n2, c2, xs2, rfl, hc2, hm2, hl2, hr2, _⟩ := h
  exact runs_all A A2 n c n2 c2 xs xs2 W hc hm hl hr hc2 hm2 hl2 hr2
theorem al_law (u : Value) (x : Int) (v : Value) (W : World) (g : CameN W u) (h : CameN W v) : Calls Try.prog 6 #[u, .int .i64 x, v] W fun e w' => e = .returned (.bool true) ∧ Below W.heap.size W w' := by
  obtain ⟨A, n, c, xs, rfl, hc, hm, hl, hr, _⟩ := g
  obtain ⟨A2, n2, c2, xs2, rfl, hc2, hm2, hl2, hr2, _⟩ := h
  exact alike_all A A2 n c n2 c2 x xs xs2 W hc hm hl hr hc2 hm2 hl2 hr2
theorem fa_law (u : Value) (x y : Int) (W : World) (g : CameN W u) : Calls Try.prog 4 #[u, .int .i64 x, .int .i64 y] W fun e w' => e = .returned (.bool true) ∧ Below W.heap.size W w' := by
  obtain ⟨A, n, c, xs, rfl, hc, hm, hl, hr, _⟩ := g
  exact fair_all A n c x y xs W hc hm hl hr
theorem ri_law (u : Value) (W : World) (g : CameS W u) : Calls Try.prog 5 #[u] W fun e w' => e = .returned (.bool true) ∧ Below W.heap.size W w' := by
  obtain ⟨A, n, c, xs, rfl, hc, hm, hl, hr, _⟩ := g
  exact right_all hc hm hl hr
end Go.Proofs.Ytjmdgmlpecjolaa
