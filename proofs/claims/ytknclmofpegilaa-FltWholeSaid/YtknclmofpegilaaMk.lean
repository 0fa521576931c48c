/- Whole numbers and numbers cut towards 0. -/
import Derived.Test.YtknclmofpegilaaMj
namespace Flo
open Ieee
set_option linter.unusedVariables false
set_option linter.unusedSimpArgs false

/-- Every number of at most 53 digits is a word's. -/
theorem rep (e : Nat) : ∀ M : Nat, M < 9007199254740992 → e ≤ 2045 → ∃ r, r < 9218868437227405312 ∧ mag r = M * 2 ^ e := by
  induction e with
  | zero =>
    intro M hM _
    refine ⟨M, by omega, ?_⟩
    unfold mag
    by_cases h : M < 4503599627370496
    · rw [if_pos h]; simp
    · rw [if_neg h, show M / 4503599627370496 - 1 = 0 by omega]; simp; omega
  | succ e ih =>
    intro M hM he
    by_cases h : M < 4503599627370496
    · obtain ⟨r, h1, h2⟩ := ih (M * 2) (by omega) (by omega)
      exact ⟨r, h1, by rw [h2, Nat.pow_succ, Nat.mul_assoc, Nat.mul_comm 2]⟩
    · refine ⟨(e + 2) * 4503599627370496 + (M - 4503599627370496), by omega, ?_⟩
      unfold mag
      rw [if_neg (by omega), show ((e + 2) * 4503599627370496 + (M - 4503599627370496)) / 4503599627370496 - 1 = e + 1 by omega, show 4503599627370496 + ((e + 2) * 4503599627370496 + (M - 4503599627370496)) % 4503599627370496 = M by omega]

theorem word_rung (neg : Bool) {r : Nat} (h : r < 9223372036854775808) : rung (D.word neg r) = r ∧ sg (D.word neg r) = neg := by
  unfold Format.word rung sg; rw [d_sign]
  cases neg
  · rw [if_neg (by simp)]; exact ⟨by omega, by rw [beq_eq_false_iff_ne]; omega⟩
  · rw [if_pos rfl]; exact ⟨by omega, by rw [beq_iff_eq]; omega⟩

theorem toInt_small {x : Nat} (h : rung x < 4890909195324358656) : fToInt x = sgn (sg x) (tr x) := by
  unfold fToInt
  have hn : nanB x = false := by unfold nanB; apply decide_eq_false; unfold rung at h; omega
  rw [hn, if_neg (by simp)]
  rw [if_neg (by unfold sgn; split <;> omega), if_neg (by unfold sgn; split <;> omega)]
theorem toInt_big {x : Nat} (hn : nanB x = false) (h : 4890909195324358656 ≤ rung x) : fToInt x = if sg x then -9223372036854775808 else 9223372036854775807 := by
  unfold fToInt
  rw [hn, if_neg (by simp)]
  cases hs : sg x
  · rw [if_pos (by unfold sgn; simp; omega)]; rfl
  · rw [if_neg (by unfold sgn; simp; omega)]
    by_cases h1 : rung x = 4890909195324358656
    · rw [if_neg (by unfold sgn; simp; omega), tr_big h1]; rfl
    · rw [if_pos (by unfold sgn; simp; omega)]; rfl
theorem rung_lt_of_mag {r m : Nat} (h : mag r = m * U) (hm : m < 9223372036854775808) : r < 4890909195324358656 := by
  refine mag_lt_iff.1 ?_
  rw [h, mag_big]
  exact Nat.mul_lt_mul_of_pos_right hm U_pos
theorem toInt_exact (neg : Bool) {m r : Nat} (h : mag r = m * U) (hm : m < 9223372036854775808) : fToInt (D.word neg r) = sgn neg m := by
  have hr := rung_lt_of_mag h hm
  obtain ⟨h1, h2⟩ := word_rung neg (r := r) (by omega)
  rw [toInt_small (by rw [h1]; exact hr), h2]
  unfold tr
  rw [h1, h, Nat.mul_div_cancel _ U_pos]
theorem nearest_of_mag (neg : Bool) {m r : Nat} (h : mag r = m * U) (hr : r ≤ 9218868437227405312) : D.nearest neg m 0 = D.word neg r := by
  have e := nearest_R neg m 0 0 (by omega)
  obtain ⟨k, hk⟩ : ∃ k : Nat, k = 1074 := ⟨_, rfl⟩
  rw [U_eq hk] at h
  rw [e, show (0 + 1074 + ((0 : Nat) : Int)).toNat = k by omega, ← h, R_mag hr]
theorem rep_int {m : Nat} (hm : m < 9007199254740992) : ∃ r, r < 9218868437227405312 ∧ mag r = m * U := by
  obtain ⟨k, hk⟩ : ∃ k : Nat, k = 1074 := ⟨_, rfl⟩
  rw [U_eq hk]
  exact rep k m hm (by omega)
theorem sgn_abs (n : Int) : sgn (decide (n < 0)) n.natAbs = n := by
  unfold sgn
  by_cases h : n < 0
  · rw [decide_eq_true h, if_pos rfl]; omega
  · rw [decide_eq_false h, if_neg (by simp)]; omega
/-- A whole number of at most 53 digits becomes a number, and is cut to itself. -/
theorem int_back (n : Int) (h1 : -9007199254740992 < n) (h2 : n < 9007199254740992) : fToInt (D.nearest (decide (n < 0)) n.natAbs 0) = n := by
  obtain ⟨r, hr, hm⟩ := rep_int (m := n.natAbs) (by omega)
  rw [nearest_of_mag _ hm (by omega), toInt_exact _ hm (by omega), sgn_abs]

theorem tr_val {x : Nat} (h : rung x < 9218868437227405312) : tr x = oM x * 2 ^ (oE x + 1126).toNat / 2 ^ (1126 : Int).toNat := by
  obtain ⟨k, hk⟩ : ∃ k : Nat, k = 1074 := ⟨_, rfl⟩
  unfold tr
  rw [oM_val h, U_eq hk, show (1126 : Int).toNat = k + 52 by omega, Nat.pow_add, show (4503599627370496 : Nat) = 2 ^ 52 from rfl, Nat.mul_div_mul_right _ _ (pow_pos' 52)]
theorem tr_shr {x : Nat} (h : rung x < 9218868437227405312) {d : Nat} (hE : oE x = -(d : Int)) : tr x = oM x / 2 ^ d := by
  have hb := oE_bounds h
  rw [tr_val h, hE]
  have e : (2 : Nat) ^ (1126 : Int).toNat = 2 ^ d * 2 ^ (-(d : Int) + 1126).toNat := by rw [← Nat.pow_add]; congr 1; omega
  rw [e, Nat.mul_div_mul_right _ _ (pow_pos' _)]
theorem tr_shl {x : Nat} (h : rung x < 9218868437227405312) {d : Nat} (hE : oE x = (d : Int)) : tr x = oM x * 2 ^ d := by
  rw [tr_val h, hE]
  have e : (2 : Nat) ^ ((d : Int) + 1126).toNat = 2 ^ d * 2 ^ (1126 : Int).toNat := by rw [← Nat.pow_add]; exact congrArg _ (by omega)
  rw [e, ← Nat.mul_assoc, Nat.mul_div_cancel _ (pow_pos' _)]
theorem rung_small_of_tr {x : Nat} (h : tr x < 9223372036854775808) : rung x < 4890909195324358656 :=
  Nat.lt_of_not_le fun h' => by have := tr_ge h'; omega
theorem far_small {x : Nat} (h : rung x < 9218868437227405312) (hE : oE x < -53) : tr x = 0 := by
  have hb := oE_bounds h
  obtain ⟨d, hd⟩ : ∃ d : Nat, oE x = -(d : Int) := ⟨(-oE x).toNat, by omega⟩
  rw [tr_shr h hd]
  refine Nat.div_eq_of_lt (Nat.lt_of_lt_of_le (oM_lt x) ?_)
  rw [show (9007199254740992 : Nat) = 2 ^ 53 from rfl]
  exact Nat.pow_le_pow_right (by omega) (by omega)
theorem far_big {x : Nat} (h : rung x < 9218868437227405312) (h0 : oM x ≠ 0) (hE : 10 < oE x) : 4890909195324358656 ≤ rung x := by
  refine Nat.le_of_not_lt fun h' => ?_
  have h1 := tr_lt h'
  have hb := oE_bounds h
  obtain ⟨d, hd⟩ : ∃ d : Nat, oE x = (d : Int) := ⟨(oE x).toNat, by omega⟩
  rw [tr_shl h hd] at h1
  have h2 : 4503599627370496 ≤ oM x := oM_ge (fun e => h0 (oM_zero e))
  have h3 : 2 ^ 11 ≤ 2 ^ d := Nat.pow_le_pow_right (by omega) (by omega)
  have h4 := Nat.mul_le_mul h2 h3
  omega
end Flo
