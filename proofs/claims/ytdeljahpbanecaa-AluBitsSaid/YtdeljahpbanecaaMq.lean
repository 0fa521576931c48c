import Derived.Test.YtdeljahpbanecaaMp
/- The quotient's digits, one by one. -/
namespace Flo
open Ieee
set_option linter.unusedVariables false
set_option linter.unusedSimpArgs false

def DivInv (A B k q r : Nat) : Prop := A * 2 ^ k = 2 * q * B + r ∧ r < 2 * B ∧ q < 2 ^ k
theorem divInv_zero {A B : Nat} (h : A < 2 * B) : DivInv A B 0 0 A := ⟨by simp, h, by simp⟩
theorem divInv_yes {A B k q r : Nat} (h : DivInv A B k q r) (hr : B ≤ r) : DivInv A B (k + 1) (q * 2 + 1) ((r - B) * 2) := by
  obtain ⟨h1, h2, h3⟩ := h
  refine ⟨?_, by omega, by rw [Nat.pow_succ]; omega⟩
  rw [Nat.pow_succ, ← Nat.mul_assoc, h1]
  rw [show 2 * (q * 2 + 1) * B = 2 * (2 * q * B) + 2 * B by rw [Nat.mul_add, Nat.add_mul, Nat.mul_comm q 2, Nat.mul_assoc 2 (2 * q) B]]
  omega
theorem divInv_no {A B k q r : Nat} (h : DivInv A B k q r) (hr : ¬ B ≤ r) : DivInv A B (k + 1) (q * 2) (r * 2) := by
  obtain ⟨h1, h2, h3⟩ := h
  refine ⟨?_, by omega, by rw [Nat.pow_succ]; omega⟩
  rw [Nat.pow_succ, ← Nat.mul_assoc, h1]
  rw [show 2 * (q * 2) * B = 2 * (2 * q * B) by rw [Nat.mul_comm q 2, Nat.mul_assoc 2 (2 * q) B]]
  omega
theorem divInv_last {A B q r n : Nat} (h : DivInv A B (n + 1) q r) (hB : 0 < B) : roq (A * 2 ^ n) B = if r = 0 then q else q / 2 * 2 + 1 := by
  obtain ⟨h1, h2, h3⟩ := h
  have e1 : A * 2 ^ (n + 1) = 2 * (A * 2 ^ n) := by rw [Nat.pow_succ, ← Nat.mul_assoc, Nat.mul_comm]
  rw [e1, Nat.mul_assoc] at h1
  have hr : r % 2 = 0 := by omega
  have h4 : A * 2 ^ n = B * q + r / 2 := by rw [Nat.mul_comm B q]; omega
  have hl : r / 2 < B := by omega
  unfold roq
  rw [h4, Nat.mul_add_mod, Nat.mod_eq_of_lt hl, Nat.mul_add_div hB, Nat.div_eq_of_lt hl, Nat.add_zero]
  by_cases h0 : r = 0
  · rw [if_pos h0, if_pos (by omega)]
  · rw [if_neg h0, if_neg (by omega)]
theorem divInv_end {A B q r : Nat} (h : DivInv A B 57 q r) (hB : 0 < B) : roq (A * 2 ^ 56) B = if r = 0 then q else q / 2 * 2 + 1 := divInv_last (n := 56) h hB
theorem divInv_bd {A B k q r : Nat} (h : DivInv A B k q r) (hk : k ≤ 57) (hB : B < 9007199254740992) : q < 144115188075855872 ∧ r < 18014398509481984 := by
  obtain ⟨h1, h2, h3⟩ := h
  have : 2 ^ k ≤ 2 ^ 57 := Nat.pow_le_pow_right (by omega) hk
  exact ⟨Nat.lt_of_lt_of_le h3 this, by omega⟩
end Flo
