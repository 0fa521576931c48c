import Derived.Test.YtdeljahpbanecaaMf
/- Numbers as the document's answer takes them apart: 53 bits, the first of them 1, and a place. -/
namespace Flo
open Ieee
set_option linter.unusedVariables false
set_option linter.unusedSimpArgs false

/-- The digits, and the place of the last one, as the word has them. -/
def sigm (b : Nat) : Nat := if rung b < 4503599627370496 then rung b else 4503599627370496 + rung b % 4503599627370496
def plc (b : Nat) : Int := if rung b < 4503599627370496 then -1074 else (rung b / 4503599627370496 : Nat) - 1075
def shf (b : Nat) : Nat := if sigm b = 0 then 0 else 52 - (sigm b).log2
def oM (b : Nat) : Nat := sigm b * 2 ^ shf b
def oE (b : Nat) : Int := plc b - shf b
def OfInv (m M j : Nat) : Prop := M = m * 2 ^ j ∧ (m ≠ 0 → j + m.log2 ≤ 52) ∧ (m = 0 → j = 0) ∧ j ≤ 52 ∧ M < 9007199254740992
theorem sigm_lt (b : Nat) : sigm b < 9007199254740992 := by unfold sigm; split <;> omega
theorem ofInv_zero (b : Nat) : OfInv (sigm b) (sigm b) 0 := by
  refine ⟨by simp, fun h => ?_, fun _ => rfl, by omega, sigm_lt b⟩
  have : (sigm b).log2 < 53 := (Nat.log2_lt h).2 (sigm_lt b)
  omega
theorem ofInv_step {m M j : Nat} (h : OfInv m M j) (h0 : M ≠ 0) (h1 : M < 4503599627370496) : OfInv m (M * 2) (j + 1) := by
  obtain ⟨h2, h3, h4, h5, h6⟩ := h
  have hm : m ≠ 0 := by intro e; rw [h2, e, Nat.zero_mul] at h0; exact h0 rfl
  have hl : m.log2 + j < 52 := by
    rw [← log2_mul_pow hm j, ← h2]; exact (Nat.log2_lt h0).2 h1
  exact ⟨by rw [h2, Nat.pow_succ, Nat.mul_assoc], fun _ => by omega, fun e => absurd e hm, by omega, by omega⟩
theorem ofInv_end {b M j : Nat} (h : OfInv (sigm b) M j) (h0 : M = 0 ∨ 4503599627370496 ≤ M) : M = oM b ∧ j = shf b := by
  obtain ⟨h2, h3, h4, h5, h6⟩ := h
  have hj : j = shf b := by
    unfold shf
    by_cases hm : sigm b = 0
    · rw [if_pos hm]; exact h4 hm
    · rw [if_neg hm]
      have hM : M ≠ 0 := by rw [h2]; exact Nat.mul_ne_zero hm (by have := pow_pos' j; omega)
      have h7 : 52 ≤ M.log2 := (Nat.le_log2 hM).2 (by omega)
      rw [h2, log2_mul_pow hm] at h7
      have := h3 hm
      omega
  exact ⟨by rw [h2, hj]; rfl, hj⟩
theorem oM_lt (b : Nat) : oM b < 9007199254740992 := by
  unfold oM shf
  split
  · simp; exact sigm_lt b
  · rename_i h
    have h1 := lt_log2 (sigm b)
    have : (sigm b).log2 < 53 := (Nat.log2_lt h).2 (sigm_lt b)
    have h2 : (2:Nat) ^ ((sigm b).log2 + 1) * 2 ^ (52 - (sigm b).log2) = 9007199254740992 := by
      rw [← Nat.pow_add, show (sigm b).log2 + 1 + (52 - (sigm b).log2) = 53 by omega]
    rw [← h2]
    exact Nat.mul_lt_mul_of_pos_right h1 (pow_pos' _)
theorem sigm_zero (b : Nat) : sigm b = 0 ↔ rung b = 0 := by unfold sigm; split <;> omega
theorem oM_zero {b : Nat} (h : rung b = 0) : oM b = 0 := by unfold oM; rw [(sigm_zero b).2 h, Nat.zero_mul]
theorem oM_ge {b : Nat} (h : rung b ≠ 0) : 4503599627370496 ≤ oM b := by
  have h0 : sigm b ≠ 0 := fun e => h ((sigm_zero b).1 e)
  unfold oM shf
  rw [if_neg h0]
  have h1 := log2_le h0
  have : (sigm b).log2 < 53 := (Nat.log2_lt h0).2 (sigm_lt b)
  have h2 : (2:Nat) ^ ((sigm b).log2) * 2 ^ (52 - (sigm b).log2) = 4503599627370496 := by
    rw [← Nat.pow_add, show (sigm b).log2 + (52 - (sigm b).log2) = 52 by omega]
  rw [← h2]
  exact Nat.mul_le_mul_right _ h1
theorem oM_eq_zero (b : Nat) : oM b = 0 ↔ rung b = 0 := by
  constructor
  · intro h; refine Decidable.byContradiction fun h0 => ?_
    have := oM_ge h0; omega
  · exact oM_zero
theorem shf_le (b : Nat) : shf b ≤ 52 := by unfold shf; split <;> omega
theorem oE_bounds {b : Nat} (h : rung b < 9218868437227405312) : -1126 ≤ oE b ∧ oE b ≤ 971 := by
  have h1 := shf_le b
  unfold oE plc; split <;> omega
/-- The same number, in units of the least one by 2^52. -/
theorem oM_val {b : Nat} (h : rung b < 9218868437227405312) : oM b * 2 ^ (oE b + 1126).toNat = mag (rung b) * 4503599627370496 := by
  have h1 := shf_le b
  have hp : -1074 ≤ plc b := by unfold plc; split <;> omega
  have hm : mag (rung b) = sigm b * 2 ^ (plc b + 1074).toNat := by
    unfold mag sigm plc
    by_cases h2 : rung b < 4503599627370496
    · rw [if_pos h2, if_pos h2, if_pos h2]; simp
    · rw [if_neg h2, if_neg h2, if_neg h2]; congr 2; omega
  unfold oM
  rw [hm, show (4503599627370496 : Nat) = 2 ^ 52 from rfl, Nat.mul_assoc, Nat.mul_assoc, ← Nat.pow_add, ← Nat.pow_add]
  congr 2
  unfold oE; omega
end Flo
