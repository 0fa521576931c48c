/- PagesStops over whatever came in. -/
import Derived.Test.YtliljicmkgbfpaaSa
set_option linter.unusedVariables false
set_option linter.unusedSimpArgs false
namespace Go.Proofs.Ytliljicmkgbfpaa
open Go.RowKit Go.Shelf Go.Maps Pg
set_option linter.unusedVariables false
set_option linter.unusedSimpArgs false
set_option maxHeartbeats 4000000 in
theorem stops_many (A : Option Addr) (l c : Nat) (stop va : Int) (w : World) (hm : 30 < l) :
    Calls Try.prog 4 #[.slice A l c, .int .i64 stop, .int .i64 va] w fun e w' => e = .returned (.bool true) ∧ Below w.heap.size w w' := by
  have B := Lib.hid fit_any
  have h30 : (30 : Int) < l := by omega
  have hb := Lib.hid (below_alloc1 w (Obj.cells #[.int .i64 stop] 3))
  go_enter Try.func4, Try.ntmps4
  go_wp2_with fail
  refine (B.out _).mono ?_; rintro e w1 ⟨rfl, g1⟩
  have G1 := Lib.hid (hb.out.trans (g1.mono (by simp)))
  clear g1
  go_wp2_with fail
  go_ret
  exact ⟨rfl, G1.out⟩
theorem stops_law (v : Value) (stop va : Int) (w : World) (h : CameN w v) (s : -9223372036854775808 ≤ stop ∧ stop ≤ 9223372036854775807) (q : -9223372036854775808 ≤ va ∧ va ≤ 9223372036854775807) : Calls Try.prog 4 #[v, .int .i64 stop, .int .i64 va] w fun e w' => e = .returned (.bool true) ∧ Below w.heap.size w w' := by
  obtain ⟨A, n, c, rfl, h⟩ := h
  by_cases hm : 30 < n
  · exact stops_many A n c stop va w hm
  · rcases h with h | ⟨xs, h1, h2, h3⟩
    · exact absurd h (by omega)
    · exact stops_all A n c xs stop va w h1 (by omega) h3 s.1 s.2 q.1 q.2
end Go.Proofs.Ytliljicmkgbfpaa
