import Derived.Test.YtdeljahpbanecaaMa
/- Classes and orders of double precision words, as plain functions. -/
namespace Flo
open Ieee
set_option linter.unusedVariables false
set_option linter.unusedSimpArgs false

def clsXF (X F : Nat) : Nat := if X = 2047 then (if F = 0 then 3 else 4) else if X = 0 then (if F = 0 then 0 else 1) else 2
def cls (a : Nat) : Nat := clsXF (a / 4503599627370496 % 2048) (a % 4503599627370496)
theorem cls_nan (a : Nat) : (cls a == 4) = nanB a := by
  unfold cls clsXF nanB
  by_cases h1 : a / 4503599627370496 % 2048 = 2047
  · rw [if_pos h1]
    by_cases h2 : a % 4503599627370496 = 0
    · rw [if_pos h2]; symm; apply decide_eq_false; omega
    · rw [if_neg h2]; symm; apply decide_eq_true; omega
  · rw [if_neg h1]
    have : ¬ 9218868437227405312 < a % 9223372036854775808 := by omega
    rw [decide_eq_false this]
    by_cases h2 : a / 4503599627370496 % 2048 = 0 <;> by_cases h3 : a % 4503599627370496 = 0 <;> simp [h2, h3]
/-- a lies below b, -0 below 0. -/
def below (a b : Nat) : Bool := if D.order a b == some .eq then decide (b < a) else D.order a b == some .lt
def fMin (a b : Nat) : Nat := if nanB a || nanB b then NaN else if below a b then a else b
def fMax (a b : Nat) : Nat := if nanB a || nanB b then NaN else if below a b then b else a
end Flo
