import Derived.Test.YtdeljahpbanecaaMh
/- Signs. -/
namespace Flo
open Ieee
set_option linter.unusedVariables false
set_option linter.unusedSimpArgs false

theorem xor_low {c : Nat} (h : c < 9223372036854775808) : c ^^^ 9223372036854775808 = 9223372036854775808 + c := by
  apply Nat.eq_of_testBit_eq
  intro i
  rw [Nat.testBit_xor, show (9223372036854775808 : Nat) = 2 ^ 63 from rfl, Nat.testBit_two_pow]
  rcases Nat.lt_trichotomy i 63 with h1 | h1 | h1
  · rw [Nat.testBit_two_pow_add_gt h1, decide_eq_false (by omega), Bool.xor_false]
  · subst h1; rw [Nat.testBit_two_pow_add_eq]; simp
  · have e1 : c.testBit i = false := Nat.testBit_lt_two_pow (Nat.lt_of_lt_of_le h (Nat.pow_le_pow_right (n := 2) (by omega) (by omega : 63 ≤ i)))
    have e2 : (2 ^ 63 + c).testBit i = false := by
      refine Nat.testBit_lt_two_pow (Nat.lt_of_lt_of_le (?_ : 2 ^ 63 + c < 2 ^ 64) (Nat.pow_le_pow_right (by omega) (by omega)))
      omega
    rw [e1, e2]; simp; omega
theorem xor_high {c : Nat} (h : c < 9223372036854775808) : (9223372036854775808 + c) ^^^ 9223372036854775808 = c := by
  rw [← xor_low h, Nat.xor_assoc, Nat.xor_self, Nat.xor_zero]
theorem neg_word {b : Nat} (h : b < 18446744073709551616) : b ^^^ 9223372036854775808 < 18446744073709551616 ∧ rung (b ^^^ 9223372036854775808) = rung b ∧ sg (b ^^^ 9223372036854775808) = !(sg b) := by
  by_cases h1 : b < 9223372036854775808
  · rw [xor_low h1]
    have e1 : sg b = false := by unfold sg; rw [beq_eq_false_iff_ne]; omega
    have e2 : sg (9223372036854775808 + b) = true := by unfold sg; rw [beq_iff_eq]; omega
    refine ⟨by omega, by unfold rung; omega, by rw [e1, e2]; rfl⟩
  · obtain ⟨c, rfl⟩ : ∃ c, b = 9223372036854775808 + c := ⟨b - 9223372036854775808, by omega⟩
    rw [xor_high (by omega)]
    have e1 : sg c = false := by unfold sg; rw [beq_eq_false_iff_ne]; omega
    have e2 : sg (9223372036854775808 + c) = true := by unfold sg; rw [beq_iff_eq]; omega
    refine ⟨by omega, by unfold rung; omega, by rw [e1, e2]; rfl⟩
theorem read_rs (x : Nat) : D.read x =
    if rung x < 4503599627370496 then .number (sg x) (rung x) (-1074)
    else if rung x < 9218868437227405312 then .number (sg x) (4503599627370496 + rung x % 4503599627370496) (-1074 + (rung x / 4503599627370496 - 1 : Nat))
    else if rung x = 9218868437227405312 then .infinity (sg x) else .nan (sg x) (rung x - 9218868437227405312) := read_eq x
theorem read_neg {b : Nat} (h : b < 18446744073709551616) : D.read (b ^^^ 9223372036854775808) = (D.read b).opposite := by
  obtain ⟨_, h2, h3⟩ := neg_word h
  rw [read_rs, h2, h3, read_rs b]
  split
  · rfl
  · split
    · rfl
    · split <;> rfl
theorem sub_neg {a b : Nat} (h : b < 18446744073709551616) : fSub a b = fAdd a (b ^^^ 9223372036854775808) := by
  unfold fSub fAdd Format.sub Format.add
  rw [read_neg h]
theorem nan_bad {a b : Nat} (h : nanB a = true ∨ nanB b = true) : fAdd a b = NaN ∧ fSub a b = NaN ∧ fMul a b = NaN ∧ fDiv a b = NaN ∧ fMin a b = NaN ∧ fMax a b = NaN := by
  have hm : (nanB a || nanB b) = true := by rcases h with h | h <;> rw [h] <;> simp
  refine ⟨?_, ?_, ?_, ?_, by unfold fMin; rw [if_pos hm], by unfold fMax; rw [if_pos hm]⟩
  all_goals
    first | unfold fAdd Format.add | unfold fSub Format.sub | unfold fMul Format.mul | unfold fDiv Format.div
    rcases h with h | h
    · obtain ⟨s, t, e⟩ := read_nan h
      rw [e]; rfl
    · obtain ⟨s, t, e⟩ := read_nan h
      rw [e]; cases D.read a <;> rfl
end Flo
