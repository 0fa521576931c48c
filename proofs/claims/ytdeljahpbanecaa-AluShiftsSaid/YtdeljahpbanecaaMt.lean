import Derived.Test.YtdeljahpbanecaaMs
/- Roots of what is no common number. -/
namespace Flo
open Ieee
set_option linter.unusedVariables false
set_option linter.unusedSimpArgs false

theorem fSqrt_nan {x : Nat} (h : nanB x = true) : fSqrt x = NaN := by
  obtain ⟨s, t, e⟩ := read_nan h
  unfold fSqrt Format.sqrt; rw [e]; rfl
theorem fSqrt_inf {x : Nat} (hlt : x < 18446744073709551616) (hx : rung x = 9218868437227405312) (hs : sg x = false) : fSqrt x = x := by
  unfold fSqrt Format.sqrt; rw [read_inf hx, hs]
  show D.word false D.infRung = x
  rw [d_inf, ← hs, ← hx, word_self hlt]
theorem fSqrt_minf {x : Nat} (hx : rung x = 9218868437227405312) (hs : sg x = true) : fSqrt x = NaN := by
  unfold fSqrt Format.sqrt; rw [read_inf hx, hs]; rfl
theorem fSqrt_zero {x : Nat} (hlt : x < 18446744073709551616) (hx : rung x = 0) : fSqrt x = x := by
  unfold fSqrt Format.sqrt; rw [read_zero hx]
  show D.nearest (sg x) 0 (-1074) = x
  rw [nearest_zero, ← hx, word_self hlt]
theorem fSqrt_minus {x : Nat} (hx : rung x < 9218868437227405312) (h0 : rung x ≠ 0) (hs : sg x = true) : fSqrt x = NaN := by
  obtain ⟨n, q, e, hn⟩ := read_pos hx h0
  unfold fSqrt Format.sqrt; rw [e, hs]
  unfold Datum.root
  dsimp only
  rw [if_neg hn, if_pos rfl]; rfl
end Flo
