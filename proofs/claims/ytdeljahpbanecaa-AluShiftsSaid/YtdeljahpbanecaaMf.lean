import Derived.Test.YtdeljahpbanecaaMe
import Derived.Laws.FloatArith
/- Numbers cut towards 0. -/
namespace Flo
open Ieee
set_option linter.unusedVariables false
set_option linter.unusedSimpArgs false

/-- How many of the least numbers make 1. -/
def U : Nat := 2 ^ 1074
theorem U_eq {k : Nat} (h : k = 1074) : U = 2 ^ k := by subst h; rfl
theorem U_pos : 0 < U := by
  obtain ⟨k, hk⟩ : ∃ k, k = 1074 := ⟨_, rfl⟩
  rw [U_eq hk]; exact pow_pos' k
/-- The number cut towards 0, without its sign. -/
def tr (x : Nat) : Nat := mag (rung x) / U
theorem toInt_num (s : Bool) (m : Nat) (p : Int) (hp : -1074 ≤ p) : (Datum.number s m p).toInt .zero = some (sgn s (m * 2 ^ (p + 1074).toNat / U)) := by
  unfold Datum.toInt Datum.integral
  dsimp only
  rw [cut_zero, signed_eq, Nat.pow_zero, Nat.mul_one, Nat.shiftLeft_eq]
  congr 2
  obtain ⟨k, hk⟩ : ∃ k : Nat, k = 1074 := ⟨_, rfl⟩
  rw [U_eq hk]
  by_cases h : 0 ≤ p
  · rw [show (-p).toNat = 0 by omega, Nat.pow_zero, Nat.div_one, show (p + 1074).toNat = p.toNat + k by omega, Nat.pow_add, ← Nat.mul_assoc, Nat.mul_div_cancel _ (pow_pos' k)]
  · rw [show p.toNat = 0 by omega, Nat.pow_zero, Nat.mul_one]
    have e : 2 ^ k = 2 ^ (-p).toNat * 2 ^ (p + 1074).toNat := by rw [← Nat.pow_add]; congr 1; omega
    rw [e, Nat.mul_div_mul_right _ _ (pow_pos' _)]
theorem toInt_fin {x : Nat} (h : rung x < 9218868437227405312) : (D.read x).toInt .zero = some (sgn (sg x) (tr x)) := by
  obtain ⟨m, p, e, hp, _, _, hv⟩ := read_fin h
  rw [e, toInt_num _ _ _ hp, hv]; rfl
theorem mag_big : mag 4890909195324358656 = 9223372036854775808 * U := by
  obtain ⟨k, hk⟩ : ∃ k : Nat, k = 1074 := ⟨_, rfl⟩
  rw [U_eq hk]
  unfold mag
  rw [if_neg (by omega), show 4890909195324358656 / 4503599627370496 - 1 = 11 + k by omega, show 4890909195324358656 % 4503599627370496 = 0 by omega, Nat.add_zero, Nat.pow_add, ← Nat.mul_assoc]
theorem tr_lt {x : Nat} (h : rung x < 4890909195324358656) : tr x < 9223372036854775808 := by
  unfold tr
  rw [Nat.div_lt_iff_lt_mul U_pos, ← mag_big]; exact mag_lt h
theorem tr_big {x : Nat} (h : rung x = 4890909195324358656) : tr x = 9223372036854775808 := by
  unfold tr; rw [h, mag_big, Nat.mul_div_cancel _ U_pos]
theorem tr_ge {x : Nat} (h : 4890909195324358656 ≤ rung x) : 9223372036854775808 ≤ tr x := by
  unfold tr
  rw [Nat.le_div_iff_mul_le U_pos, ← mag_big]; exact mag_le h
/-- What the program makes of a number: cut towards 0, never beyond the bounds. -/
def fToInt (x : Nat) : Int :=
  if nanB x then 0 else if sgn (sg x) (rung x) ≥ 4890909195324358656 then 9223372036854775807
  else if sgn (sg x) (rung x) < -4890909195324358656 then -9223372036854775808 else sgn (sg x) (tr x)
theorem order_big {x : Nat} (hx : nanB x = false) : D.order x 4890909195324358656 = some (compare (sgn (sg x) (rung x)) 4890909195324358656) := order_rank hx rfl
theorem order_sbig {x : Nat} (hx : nanB x = false) : D.order x 14114281232179134464 = some (compare (sgn (sg x) (rung x)) (-4890909195324358656)) := order_rank hx rfl
theorem ge_test (x : Nat) (hx : nanB x = false) : (D.order x 4890909195324358656 == some .gt || D.order x 4890909195324358656 == some .eq) = decide (sgn (sg x) (rung x) ≥ 4890909195324358656) := by
  rw [order_big hx]
  generalize sgn (sg x) (rung x) = v
  rcases Int.lt_trichotomy v 4890909195324358656 with h | h | h
  · rw [Int.compare_eq_lt.2 h]; symm; apply decide_eq_false; omega
  · rw [Int.compare_eq_eq.2 h]; symm; apply decide_eq_true; omega
  · rw [Int.compare_eq_gt.2 h]; symm; apply decide_eq_true; omega
theorem lt_test (x : Nat) (hx : nanB x = false) : (D.order x 14114281232179134464 == some .lt) = decide (sgn (sg x) (rung x) < -4890909195324358656) := by
  rw [order_sbig hx]
  generalize sgn (sg x) (rung x) = v
  rcases Int.lt_trichotomy v (-4890909195324358656) with h | h | h
  · rw [Int.compare_eq_lt.2 h]; symm; apply decide_eq_true; omega
  · rw [Int.compare_eq_eq.2 h]; symm; apply decide_eq_false; omega
  · rw [Int.compare_eq_gt.2 h]; symm; apply decide_eq_false; omega
theorem toInt_val (x : Nat) (h1 : ¬ sgn (sg x) (rung x) ≥ 4890909195324358656) (h2 : ¬ sgn (sg x) (rung x) < -4890909195324358656) :
    Go.floatToIntVal .f64 x .i64 = some (sgn (sg x) (tr x)) := by
  have hr : rung x ≤ 4890909195324358656 := by unfold sgn at h1 h2; split at h1 <;> simp_all <;> omega
  have hd : (Go.FloatKind.f64.decode x).toInt .zero = some (sgn (sg x) (tr x)) := toInt_fin (by omega)
  unfold Go.floatToIntVal
  rw [hd]
  have hb : (-9223372036854775808 : Int) ≤ sgn (sg x) (tr x) ∧ sgn (sg x) (tr x) ≤ 9223372036854775807 := by
    rcases Nat.lt_or_eq_of_le hr with h | h
    · have := tr_lt h
      unfold sgn; split <;> omega
    · have := tr_big h
      unfold sgn at h1 h2 ⊢
      rw [this]
      split at h1 <;> simp_all
  exact if_pos hb
end Flo
