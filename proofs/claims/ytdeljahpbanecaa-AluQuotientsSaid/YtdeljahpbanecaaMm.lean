import Derived.Test.YtdeljahpbanecaaMl
/- Sums. -/
namespace Flo
open Ieee
set_option linter.unusedVariables false
set_option linter.unusedSimpArgs false

theorem word_self {x : Nat} (h : x < 18446744073709551616) : D.word (sg x) (rung x) = x := by
  unfold Format.word sg rung; rw [d_sign]
  by_cases h1 : x < 9223372036854775808
  · rw [if_neg (by rw [beq_iff_eq]; omega)]; omega
  · rw [if_pos (by rw [beq_iff_eq]; omega)]; omega
theorem sgn_mul (s : Bool) (a b : Nat) : sgn s a * (b : Int) = sgn s (a * b) := by
  unfold sgn; split <;> simp [Int.neg_mul]
/-- The sum of two numbers, in units of the least one. -/
def T (x y : Nat) : Int := sgn (sg x) (mag (rung x)) + sgn (sg y) (mag (rung y))
theorem add_fin {x y : Nat} (hx : rung x < 9218868437227405312) (hy : rung y < 9218868437227405312) :
    D.add x y = some (if T x y = 0 then D.word (sg x && sg y) 0 else D.word (decide (T x y < 0)) (R 0 (T x y).natAbs)) := by
  obtain ⟨m, p, e1, hp, _, _, hv⟩ := read_fin hx
  obtain ⟨n, q, e2, hq, _, _, hw⟩ := read_fin hy
  unfold Format.add
  rw [e1, e2]
  unfold Datum.sum
  dsimp only [Option.map]
  rw [signed_eq, signed_eq]
  have hT : (sgn (sg x) (m * 2 ^ (p - min p q).toNat) + sgn (sg y) (n * 2 ^ (q - min p q).toNat)) * ((2 ^ (min p q + 1074).toNat : Nat) : Int) = T x y := by
    rw [Int.add_mul, sgn_mul, sgn_mul, Nat.mul_assoc, Nat.mul_assoc, ← Nat.pow_add, ← Nat.pow_add]
    unfold T
    rw [← hv, ← hw, show (p - min p q).toNat + (min p q + 1074).toNat = (p + 1074).toNat by omega, show (q - min p q).toNat + (min p q + 1074).toNat = (q + 1074).toNat by omega]
  have hP := pow_pos' (min p q + 1074).toNat
  generalize sgn (sg x) (m * 2 ^ (p - min p q).toNat) + sgn (sg y) (n * 2 ^ (q - min p q).toNat) = t at hT ⊢
  congr 1
  show D.nearest (if t = 0 then (sg x && sg y) else decide (t < 0)) t.natAbs (min p q) = _
  rw [nearest_R _ _ _ 0 (by omega), show (min p q + 1074 + ((0 : Nat) : Int)).toNat = (min p q + 1074).toNat by omega]
  have ha : t.natAbs * 2 ^ (min p q + 1074).toNat = (T x y).natAbs := by rw [← hT, Int.natAbs_mul, Int.natAbs_natCast]
  rw [ha]
  generalize 2 ^ (min p q + 1074).toNat = P at hT hP
  by_cases h0 : t = 0
  · have h1 : T x y = 0 := by rw [← hT, h0, Int.zero_mul]
    rw [if_pos h0, if_pos h1, h1]; rw [show (0 : Int).natAbs = 0 from rfl, R_zero]
  · have h1 : T x y ≠ 0 := by rw [← hT]; exact Int.mul_ne_zero h0 (by omega)
    rw [if_neg h0, if_neg h1]
    congr 1
    rw [decide_eq_decide, ← hT]
    constructor
    · intro h; exact Int.mul_neg_of_neg_of_pos h (by omega)
    · intro h
      refine Int.lt_of_not_ge fun h' => ?_
      have := Int.mul_nonneg h' (show (0 : Int) ≤ (P : Int) by omega)
      omega
theorem same_val (s : Bool) {a b d : Nat} (ha : rung a < 9218868437227405312) (hb : rung b < 9218868437227405312) (h0 : oM a ≠ 0) (hd : oE a - oE b = (d : Int)) :
    D.nearest s (oM a * 512 + ro (oM b * 512) d) (oE a - 9) = D.word s (R 0 (mag (rung a) + mag (rung b))) := by
  have b1 := oE_bounds ha
  have b2 := oE_bounds hb
  have v1 := oM_val ha
  have v2 := oM_val hb
  have hA : 4503599627370496 ≤ oM a := oM_ge (fun e => h0 (oM_zero e))
  rw [nearest_R s _ _ 61 (by omega), ro_add (by omega), show (oE a - 9 + 1074 + ((61 : Nat) : Int)).toNat = (oE b + 1126).toNat + d by omega]
  rw [R_ro 61 _ (.inr (by rw [Nat.le_div_iff_mul_le (pow_pos' d)]; exact Nat.le_trans (Nat.mul_le_mul_right _ (by omega : 2 ^ 54 ≤ oM a * 512)) (Nat.le_add_right ..)))]
  have e : (oM a * 512 * 2 ^ d + oM b * 512) * 2 ^ (oE b + 1126).toNat = (mag (rung a) + mag (rung b)) * 2 ^ 61 := by
    rw [show (oE a + 1126).toNat = d + (oE b + 1126).toNat by omega, Nat.pow_add] at v1
    rw [Nat.add_mul, Nat.add_mul, Nat.mul_right_comm (oM b), v2, Nat.mul_assoc (oM a * 512), Nat.mul_right_comm (oM a), v1, show (2 : Nat) ^ 61 = 4503599627370496 * 512 from rfl, Nat.mul_assoc, Nat.mul_assoc]
  rw [e, show (61 : Nat) = 0 + 61 from rfl, R_scale]
theorem diff_val (s : Bool) {a b d : Nat} (ha : rung a < 9218868437227405312) (hb : rung b < 9218868437227405312) (h0 : oM a ≠ 0) (hd : oE a - oE b = (d : Int)) (hle : oM b * 512 ≤ oM a * 512 * 2 ^ d) :
    D.nearest s (oM a * 512 - ro (oM b * 512) d) (oE a - 9) = D.word s (R 0 (mag (rung a) - mag (rung b))) := by
  have b1 := oE_bounds ha
  have b2 := oE_bounds hb
  have v1 := oM_val ha
  have v2 := oM_val hb
  have hA : 4503599627370496 ≤ oM a := oM_ge (fun e => h0 (oM_zero e))
  have hB := oM_lt b
  rw [nearest_R s _ _ 61 (by omega), ro_sub (by omega) hle, show (oE a - 9 + 1074 + ((61 : Nat) : Int)).toNat = (oE b + 1126).toNat + d by omega]
  have hpre : (oM a * 512 * 2 ^ d - oM b * 512) % 2 ^ d = 0 ∨ 2 ^ 54 ≤ (oM a * 512 * 2 ^ d - oM b * 512) / 2 ^ d := by
    by_cases h9 : d ≤ 9
    · left
      have e9 : 2 ^ d * 2 ^ (9 - d) = 512 := by
        have h : 2 ^ (d + (9 - d)) = 2 ^ 9 := congrArg _ (by omega)
        rw [← Nat.pow_add, h]
      have e8 : oM b * 512 = 2 ^ d * (oM b * 2 ^ (9 - d)) := by rw [Nat.mul_left_comm (2 ^ d) (oM b) (2 ^ (9 - d)), e9]
      have e : oM a * 512 * 2 ^ d - oM b * 512 = 2 ^ d * (oM a * 512 - oM b * 2 ^ (9 - d)) := by
        rw [Nat.mul_sub, Nat.mul_comm (2 ^ d) (oM a * 512), ← e8]
      rw [e, Nat.mul_mod_right]
    · right
      rw [Nat.le_div_iff_mul_le (pow_pos' d)]
      have h10 : 2 ^ 10 ≤ 2 ^ d := Nat.pow_le_pow_right (by omega) (by omega)
      have hA1 : 2305843009213693952 ≤ oM a * 512 := by omega
      have hA2 := Nat.mul_le_mul_right (2 ^ d) hA1
      have hB2 : oM b * 512 < 4611686018427387904 := by omega
      clear hle hA hB hA1 v1 v2
      generalize oM a * 512 * 2 ^ d = X at hA2 ⊢
      generalize oM b * 512 = Y at hB2 ⊢
      have h10' : 1024 ≤ 2 ^ d := h10
      clear h10
      generalize 2 ^ d = P at hA2 h10' ⊢
      omega
  rw [R_ro 61 _ hpre]
  have e : (oM a * 512 * 2 ^ d - oM b * 512) * 2 ^ (oE b + 1126).toNat = (mag (rung a) - mag (rung b)) * 2 ^ 61 := by
    rw [show (oE a + 1126).toNat = d + (oE b + 1126).toNat by omega, Nat.pow_add] at v1
    rw [Nat.sub_mul, Nat.sub_mul, Nat.mul_right_comm (oM b), v2, Nat.mul_assoc (oM a * 512), Nat.mul_right_comm (oM a), v1, show (2 : Nat) ^ 61 = 4503599627370496 * 512 from rfl, Nat.mul_assoc, Nat.mul_assoc]
  rw [e, show (61 : Nat) = 0 + 61 from rfl, R_scale]
/-- Which of two numbers is the greater one: first by the place, then by the digits. -/
theorem mag_of_place {a b d : Nat} (ha : rung a < 9218868437227405312) (hb : rung b < 9218868437227405312) (h0 : oM a ≠ 0) (hd : oE a - oE b = (d : Int)) :
    (mag (rung b) < mag (rung a) ↔ oM b < oM a * 2 ^ d) ∧ (mag (rung b) = mag (rung a) ↔ oM b = oM a * 2 ^ d) := by
  have b1 := oE_bounds ha
  have b2 := oE_bounds hb
  have v1 := oM_val ha
  have v2 := oM_val hb
  rw [show (oE a + 1126).toNat = d + (oE b + 1126).toNat by omega, Nat.pow_add, ← Nat.mul_assoc] at v1
  have hp := pow_pos' (oE b + 1126).toNat
  generalize 2 ^ (oE b + 1126).toNat = P at *
  constructor
  · rw [← Nat.mul_lt_mul_right (a := 4503599627370496) (by omega), ← v1, ← v2, Nat.mul_lt_mul_right hp]
  · rw [← Nat.mul_left_inj (a := 4503599627370496) (by omega), ← v1, ← v2, Nat.mul_left_inj (by omega)]
theorem lt_of_place {a b d : Nat} (h0 : oM a ≠ 0) (hd : 1 ≤ d) : oM b < oM a * 2 ^ d := by
  have hA : 4503599627370496 ≤ oM a := oM_ge (fun e => h0 (oM_zero e))
  have hB := oM_lt b
  have h1 : 2 ^ 1 ≤ 2 ^ d := Nat.pow_le_pow_right (by omega) hd
  have := Nat.mul_le_mul hA h1
  omega
theorem ro_le (n d : Nat) : ro n d ≤ n / 2 ^ d + 1 := by unfold ro; split <;> omega
theorem ro_far {n d : Nat} (h0 : n ≠ 0) (h : n < 2 ^ d) : ro n d = 1 := by
  unfold ro; rw [Nat.mod_eq_of_lt h, if_neg h0, Nat.div_eq_of_lt h]
theorem ro_zero (n : Nat) : ro n 0 = n := by unfold ro; simp [Nat.mod_one]
theorem sum_comm (a b : Datum) : a.sum b = b.sum a := by
  cases a <;> cases b <;> simp only [Datum.sum]
  · rename_i s m i t n j
    rw [Int.min_comm j i, Int.add_comm (signed t n _), Bool.and_comm t s]
  · rename_i s t
    by_cases h : s = t
    · subst h; rfl
    · rw [if_neg h, if_neg (fun e => h e.symm)]
theorem add_comm (x y : Nat) : fAdd x y = fAdd y x := by
  unfold fAdd Format.add; rw [sum_comm]
end Flo
