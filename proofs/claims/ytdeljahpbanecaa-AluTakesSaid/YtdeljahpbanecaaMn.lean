import Derived.Test.YtdeljahpbanecaaMm
/- Sums, case by case. -/
namespace Flo
open Ieee
set_option linter.unusedVariables false
set_option linter.unusedSimpArgs false

theorem mag_pos {r : Nat} (h : r ≠ 0) : 0 < mag r := by have := mag_lt (r := 0) (s := r) (by omega); rw [mag_zero] at this; exact this
theorem fAdd_fin {x y : Nat} (hx : rung x < 9218868437227405312) (hy : rung y < 9218868437227405312) :
    fAdd x y = if T x y = 0 then D.word (sg x && sg y) 0 else D.word (decide (T x y < 0)) (R 0 (T x y).natAbs) := by
  unfold fAdd; rw [add_fin hx hy]; rfl
theorem fAdd_same {x y : Nat} (hx : rung x < 9218868437227405312) (hy : rung y < 9218868437227405312) (hs : sg x = sg y) (h0 : rung x ≠ 0) :
    fAdd x y = D.word (sg x) (R 0 (mag (rung x) + mag (rung y))) := by
  rw [fAdd_fin hx hy]
  have hp := mag_pos h0
  unfold T
  rw [← hs]
  cases sg x
  · have e : sgn false (mag (rung x)) + sgn false (mag (rung y)) = ((mag (rung x) + mag (rung y) : Nat) : Int) := by unfold sgn; simp
    rw [e, if_neg (by omega), decide_eq_false (by omega), Int.natAbs_natCast]
  · have e : sgn true (mag (rung x)) + sgn true (mag (rung y)) = -((mag (rung x) + mag (rung y) : Nat) : Int) := by unfold sgn; simp; omega
    rw [e, if_neg (by omega), decide_eq_true (by omega), Int.natAbs_neg, Int.natAbs_natCast]
theorem fAdd_diff {x y : Nat} (hx : rung x < 9218868437227405312) (hy : rung y < 9218868437227405312) (hs : sg x ≠ sg y) (h0 : mag (rung y) < mag (rung x)) :
    fAdd x y = D.word (sg x) (R 0 (mag (rung x) - mag (rung y))) := by
  rw [fAdd_fin hx hy]
  unfold T
  have hs' : sg y = !(sg x) := by revert hs; cases sg x <;> cases sg y <;> simp
  rw [hs']
  cases sg x
  · have e : sgn false (mag (rung x)) + sgn (!false) (mag (rung y)) = ((mag (rung x) - mag (rung y) : Nat) : Int) := by unfold sgn; simp; omega
    rw [e, if_neg (by omega), decide_eq_false (by omega), Int.natAbs_natCast]
  · have e : sgn true (mag (rung x)) + sgn (!true) (mag (rung y)) = -((mag (rung x) - mag (rung y) : Nat) : Int) := by unfold sgn; simp; omega
    rw [e, if_neg (by omega), decide_eq_true (by omega), Int.natAbs_neg, Int.natAbs_natCast]
theorem fAdd_equal {x y : Nat} (hx : rung x < 9218868437227405312) (hy : rung y < 9218868437227405312) (hs : sg x ≠ sg y) (h0 : mag (rung x) = mag (rung y)) : fAdd x y = 0 := by
  rw [fAdd_fin hx hy]
  unfold T
  have hs' : sg y = !(sg x) := by revert hs; cases sg x <;> cases sg y <;> simp
  rw [hs', h0]
  have e : sgn (sg x) (mag (rung y)) + sgn (!(sg x)) (mag (rung y)) = 0 := by unfold sgn; cases sg x <;> simp <;> omega
  rw [e, if_pos rfl, Bool.and_not_self]; rfl
theorem fAdd_zero {x y : Nat} (hx : rung x = 0) (hy : rung y = 0) : fAdd x y = D.word (sg x && sg y) 0 := by
  rw [fAdd_fin (by omega) (by omega)]
  unfold T
  rw [hx, hy, mag_zero]
  have e : ∀ s, sgn s 0 = 0 := fun s => by unfold sgn; cases s <;> rfl
  rw [e, e, if_pos (by decide)]
theorem fAdd_right {x y : Nat} (hlt : y < 18446744073709551616) (hx : rung x = 0) (hy : rung y < 9218868437227405312) (h0 : rung y ≠ 0) : fAdd x y = y := by
  rw [fAdd_fin (by omega) hy]
  have hp := mag_pos h0
  unfold T
  rw [hx, mag_zero]
  have e : ∀ s, sgn s 0 = 0 := fun s => by unfold sgn; cases s <;> rfl
  rw [e, Int.zero_add]
  have hn : (sgn (sg y) (mag (rung y))).natAbs = mag (rung y) := by unfold sgn; split <;> simp
  have hd : decide (sgn (sg y) (mag (rung y)) < 0) = sg y := by
    unfold sgn; cases sg y
    · rw [if_neg (by simp)]; exact decide_eq_false (by omega)
    · rw [if_pos rfl]; exact decide_eq_true (by omega)
  rw [if_neg (by unfold sgn; split <;> omega), hn, hd, R_mag (by omega), word_self hlt]
theorem fAdd_left {x y : Nat} (hlt : x < 18446744073709551616) (hy : rung y = 0) (hx : rung x < 9218868437227405312) (h0 : rung x ≠ 0) : fAdd x y = x := by
  rw [add_comm]; exact fAdd_right hlt hy hx h0
theorem fAdd_infs {x y : Nat} (hx : rung x = 9218868437227405312) (hy : rung y = 9218868437227405312) (hs : sg x ≠ sg y) : fAdd x y = NaN := by
  unfold fAdd Format.add; rw [read_inf hx, read_inf hy]; unfold Datum.sum; dsimp only; rw [if_neg hs]; rfl
theorem fAdd_infs2 {x y : Nat} (hlt : x < 18446744073709551616) (hx : rung x = 9218868437227405312) (hy : rung y = 9218868437227405312) (hs : sg x = sg y) : fAdd x y = x := by
  unfold fAdd Format.add; rw [read_inf hx, read_inf hy]; unfold Datum.sum; dsimp only; rw [if_pos hs]
  show D.word (sg x) D.infRung = x
  rw [d_inf, ← hx, word_self hlt]
theorem fAdd_infl {x y : Nat} (hlt : x < 18446744073709551616) (hx : rung x = 9218868437227405312) (hy : rung y < 9218868437227405312) : fAdd x y = x := by
  obtain ⟨m, p, e, _⟩ := read_fin hy
  unfold fAdd Format.add; rw [read_inf hx, e]
  show D.word (sg x) D.infRung = x
  rw [d_inf, ← hx, word_self hlt]
theorem fAdd_infr {x y : Nat} (hlt : y < 18446744073709551616) (hy : rung y = 9218868437227405312) (hx : rung x < 9218868437227405312) : fAdd x y = y := by
  rw [add_comm]; exact fAdd_infl hlt hy hx
end Flo
