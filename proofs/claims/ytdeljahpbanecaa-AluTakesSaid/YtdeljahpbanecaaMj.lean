import Derived.Test.YtdeljahpbanecaaMi
/- Orders, as the document's answer has them. -/
namespace Flo
open Ieee
set_option linter.unusedVariables false
set_option linter.unusedSimpArgs false

def rk (x : Nat) : Int := sgn (sg x) (rung x)
def rLess (x y : Nat) : Bool := !nanB x && !nanB y && decide (rk x < rk y)
def rEqual (x y : Nat) : Bool := !nanB x && !nanB y && decide (rk x = rk y)
theorem order_less (x y : Nat) : (D.order x y == some .lt) = rLess x y := by
  unfold rLess
  rcases hx : nanB x with _ | _
  · rcases hy : nanB y with _ | _
    · rw [order_rank hx hy]
      show (some (compare (rk x) (rk y)) == some .lt) = _
      generalize rk x = a
      generalize rk y = b
      rcases Int.lt_trichotomy a b with h | h | h
      · rw [Int.compare_eq_lt.2 h, decide_eq_true h]; rfl
      · rw [Int.compare_eq_eq.2 h, decide_eq_false (by omega)]; rfl
      · rw [Int.compare_eq_gt.2 h, decide_eq_false (by omega)]; rfl
    · rw [order_nan_right hy]; rfl
  · rw [order_nan_left hx]; rfl
theorem order_equal (x y : Nat) : (D.order x y == some .eq) = rEqual x y := by
  unfold rEqual
  rcases hx : nanB x with _ | _
  · rcases hy : nanB y with _ | _
    · rw [order_rank hx hy]
      show (some (compare (rk x) (rk y)) == some .eq) = _
      generalize rk x = a
      generalize rk y = b
      rcases Int.lt_trichotomy a b with h | h | h
      · rw [Int.compare_eq_lt.2 h, decide_eq_false (by omega)]; rfl
      · rw [Int.compare_eq_eq.2 h, decide_eq_true h]; rfl
      · rw [Int.compare_eq_gt.2 h, decide_eq_false (by omega)]; rfl
    · rw [order_nan_right hy]; rfl
  · rw [order_nan_left hx]; rfl
def rMin (x y : Nat) : Nat := if nanB x || nanB y then NaN else if rLess y x || (rEqual x y && (y / 9223372036854775808 == 1)) then y else x
def rMax (x y : Nat) : Nat := if nanB x || nanB y then NaN else if rLess x y || (rEqual x y && (y / 9223372036854775808 == 0)) then y else x
theorem rk_zero {x y : Nat} (hx : x < 18446744073709551616) (hy : y < 18446744073709551616) (h : rk x = rk y) : x = y ∨ (rung x = 0 ∧ rung y = 0) := by
  have hx' : x = (if sg x then 9223372036854775808 else 0) + rung x := by unfold sg rung; split <;> rename_i h <;> simp at h <;> omega
  have hy' : y = (if sg y then 9223372036854775808 else 0) + rung y := by unfold sg rung; split <;> rename_i h <;> simp at h <;> omega
  unfold rk sgn at h
  generalize rung x = p at *
  generalize rung y = q at *
  cases hs : sg x <;> cases ht : sg y <;> rw [hs, ht] at h <;> rw [hs] at hx' <;> rw [ht] at hy' <;> simp at h hx' hy' <;> omega
theorem min_eq {x y : Nat} (hx : x < 18446744073709551616) (hy : y < 18446744073709551616) : fMin x y = rMin x y := by
  unfold fMin rMin
  rcases hn : (nanB x || nanB y) with _ | _
  · rw [if_neg Bool.false_ne_true, if_neg Bool.false_ne_true]
    have h1 : nanB x = false ∧ nanB y = false := by simpa using hn
    unfold below
    rw [order_equal, order_less]
    unfold rLess rEqual
    rw [h1.1, h1.2]
    simp only [Bool.not_false, Bool.true_and]
    rcases Int.lt_trichotomy (rk x) (rk y) with h | h | h
    · simp [h, show ¬ rk x = rk y by omega, show ¬ rk y < rk x by omega, show ¬ rk y = rk x by omega]
    · have hz := rk_zero hx hy h
      by_cases h2 : x = y
      · subst h2; simp
      · have hr : rung x = 0 ∧ rung y = 0 := by rcases hz with e | e; exact absurd e h2; exact e
        unfold rung at hr
        by_cases h3 : y < x
        · simp [h, h3]; omega
        · simp [h, h3]; omega
    · simp [h, show ¬ rk x = rk y by omega, show ¬ rk x < rk y by omega]
  · rfl
theorem max_eq {x y : Nat} (hx : x < 18446744073709551616) (hy : y < 18446744073709551616) : fMax x y = rMax x y := by
  unfold fMax rMax
  rcases hn : (nanB x || nanB y) with _ | _
  · rw [if_neg Bool.false_ne_true, if_neg Bool.false_ne_true]
    have h1 : nanB x = false ∧ nanB y = false := by simpa using hn
    unfold below
    rw [order_equal, order_less]
    unfold rLess rEqual
    rw [h1.1, h1.2]
    simp only [Bool.not_false, Bool.true_and]
    rcases Int.lt_trichotomy (rk x) (rk y) with h | h | h
    · simp [h, show ¬ rk x = rk y by omega, show ¬ rk y < rk x by omega, show ¬ rk y = rk x by omega]
    · have hz := rk_zero hx hy h
      by_cases h2 : x = y
      · subst h2; simp
      · have hr : rung x = 0 ∧ rung y = 0 := by rcases hz with e | e; exact absurd e h2; exact e
        unfold rung at hr
        by_cases h3 : y < x
        · simp [h, h3]; omega
        · simp [h, h3]; omega
    · simp [h, show ¬ rk x = rk y by omega, show ¬ rk x < rk y by omega]
  · rfl
end Flo
