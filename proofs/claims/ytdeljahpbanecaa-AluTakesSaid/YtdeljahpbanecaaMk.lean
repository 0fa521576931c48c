import Derived.Test.YtdeljahpbanecaaMj
/- Whole numbers and numbers cut towards 0. -/
namespace Flo
open Ieee
set_option linter.unusedVariables false
set_option linter.unusedSimpArgs false

theorem toInt_small {x : Nat} (h : rung x < 4890909195324358656) : fToInt x = sgn (sg x) (tr x) := by
  unfold fToInt
  have hn : nanB x = false := by unfold nanB; apply decide_eq_false; unfold rung at h; omega
  rw [hn, if_neg (by simp)]
  rw [if_neg (by unfold sgn; split <;> omega), if_neg (by unfold sgn; split <;> omega)]
theorem toInt_big {x : Nat} (hn : nanB x = false) (h : 4890909195324358656 ≤ rung x) : fToInt x = if sg x then -9223372036854775808 else 9223372036854775807 := by
  unfold fToInt
  rw [hn, if_neg (by simp)]
  cases hs : sg x
  · rw [if_pos (by unfold sgn; simp; omega)]; rfl
  · rw [if_neg (by unfold sgn; simp; omega)]
    by_cases h1 : rung x = 4890909195324358656
    · rw [if_neg (by unfold sgn; simp; omega), tr_big h1]; rfl
    · rw [if_pos (by unfold sgn; simp; omega)]; rfl
theorem tr_val {x : Nat} (h : rung x < 9218868437227405312) : tr x = oM x * 2 ^ (oE x + 1126).toNat / 2 ^ (1126 : Int).toNat := by
  obtain ⟨k, hk⟩ : ∃ k : Nat, k = 1074 := ⟨_, rfl⟩
  unfold tr
  rw [oM_val h, U_eq hk, show (1126 : Int).toNat = k + 52 by omega, Nat.pow_add, show (4503599627370496 : Nat) = 2 ^ 52 from rfl, Nat.mul_div_mul_right _ _ (pow_pos' 52)]
theorem tr_shr {x : Nat} (h : rung x < 9218868437227405312) {d : Nat} (hE : oE x = -(d : Int)) : tr x = oM x / 2 ^ d := by
  have hb := oE_bounds h
  rw [tr_val h, hE]
  have e : (2 : Nat) ^ (1126 : Int).toNat = 2 ^ d * 2 ^ (-(d : Int) + 1126).toNat := by rw [← Nat.pow_add]; congr 1; omega
  rw [e, Nat.mul_div_mul_right _ _ (pow_pos' _)]
theorem tr_shl {x : Nat} (h : rung x < 9218868437227405312) {d : Nat} (hE : oE x = (d : Int)) : tr x = oM x * 2 ^ d := by
  rw [tr_val h, hE]
  have e : (2 : Nat) ^ ((d : Int) + 1126).toNat = 2 ^ d * 2 ^ (1126 : Int).toNat := by rw [← Nat.pow_add]; exact congrArg _ (by omega)
  rw [e, ← Nat.mul_assoc, Nat.mul_div_cancel _ (pow_pos' _)]
theorem rung_small_of_tr {x : Nat} (h : tr x < 9223372036854775808) : rung x < 4890909195324358656 :=
  Nat.lt_of_not_le fun h' => by have := tr_ge h'; omega
theorem far_small {x : Nat} (h : rung x < 9218868437227405312) (hE : oE x < -53) : tr x = 0 := by
  have hb := oE_bounds h
  obtain ⟨d, hd⟩ : ∃ d : Nat, oE x = -(d : Int) := ⟨(-oE x).toNat, by omega⟩
  rw [tr_shr h hd]
  refine Nat.div_eq_of_lt (Nat.lt_of_lt_of_le (oM_lt x) ?_)
  rw [show (9007199254740992 : Nat) = 2 ^ 53 from rfl]
  exact Nat.pow_le_pow_right (by omega) (by omega)
theorem far_big {x : Nat} (h : rung x < 9218868437227405312) (h0 : oM x ≠ 0) (hE : 10 < oE x) : 4890909195324358656 ≤ rung x := by
  refine Nat.le_of_not_lt fun h' => ?_
  have h1 := tr_lt h'
  have hb := oE_bounds h
  obtain ⟨d, hd⟩ : ∃ d : Nat, oE x = (d : Int) := ⟨(oE x).toNat, by omega⟩
  rw [tr_shl h hd] at h1
  have h2 : 4503599627370496 ≤ oM x := oM_ge (fun e => h0 (oM_zero e))
  have h3 : 2 ^ 11 ≤ 2 ^ d := Nat.pow_le_pow_right (by omega) (by omega)
  have h4 := Nat.mul_le_mul h2 h3
  omega
end Flo
