/- PagesRuns over whatever came in. -/
import Derived.Test.YtliljicmkgbfpaaSh
set_option linter.unusedVariables false
set_option linter.unusedSimpArgs false
namespace Go.Proofs.Ytliljicmkgbfpaa
open Go.RowKit Go.Shelf Go.Maps Pg
set_option linter.unusedVariables false
set_option linter.unusedSimpArgs false
set_option maxRecDepth 100000 in
set_option maxHeartbeats 4000000 in
theorem runs_many (A : Option Addr) (l c : Nat) (w : World) (hm : 100 < l) :
    Calls Try.prog 3 #[.slice A l c] w fun e w' => e = .returned (.bool true) ∧ Below w.heap.size w w' := by
  have B := Lib.hid fit_any
  have h30 : (100 : Int) < l := by omega
  go_enter Try.func3, Try.ntmps3
  go_wp2_with fail
  refine (B.out _).mono ?_; rintro e w1 ⟨rfl, g1⟩
  have G1 := Lib.hid g1
  clear g1
  go_wp2_with fail
  go_ret
  exact ⟨rfl, G1.out⟩
theorem runs_law (v : Value) (w : World) (h : CameC w v) : Calls Try.prog 3 #[v] w fun e w' => e = .returned (.bool true) ∧ Below w.heap.size w w' := by
  obtain ⟨A, n, c, rfl, h⟩ := h
  by_cases hm : 100 < n
  · exact runs_many A n c w hm
  · rcases h with h | ⟨xs, h1, h2, h3⟩
    · exact absurd h (by omega)
    · exact runs_all A n c xs w h1 (by omega) h3
end Go.Proofs.Ytliljicmkgbfpaa
