import Derived.Test.YtdeljahpbanecaaMr
/- The root's digits, one by one. -/
namespace Flo
open Ieee
set_option linter.unusedVariables false
set_option linter.unusedSimpArgs false

/-- The first digits, in base 4, of A: k of them, beginning with the 27th before the point. -/
def pre (A k : Nat) : Nat := if k ≤ 27 then A / 2 ^ (2 * (27 - k)) else A * 2 ^ (2 * (k - 27))
def SqInv (A k root rest : Nat) : Prop := pre A k = root * root + rest ∧ rest ≤ 2 * root ∧ root < 2 ^ k
theorem sqInv_zero {A : Nat} (h : A < 18014398509481984) : SqInv A 0 0 0 := by
  refine ⟨?_, by omega, by simp⟩
  unfold pre; rw [if_pos (by omega)]
  exact Nat.div_eq_of_lt h
theorem pre_low {A k : Nat} (h : k ≤ 26) : pre A (k + 1) = 4 * pre A k + A / 2 ^ (2 * (26 - k)) % 4 := by
  unfold pre
  rw [if_pos (by omega), if_pos (by omega)]
  have e : 2 ^ (2 * (27 - k)) = 2 ^ (2 * (26 - k)) * 4 := by
    rw [show 2 * (27 - k) = 2 * (26 - k) + 2 by omega, Nat.pow_add]
  rw [e, ← Nat.div_div_eq_div_mul, show 27 - (k + 1) = 26 - k by omega]
  omega
theorem pre_high {A k : Nat} (h : 27 ≤ k) : pre A (k + 1) = 4 * pre A k := by
  unfold pre
  rw [if_neg (by omega)]
  by_cases h1 : k = 27
  · subst h1; rw [if_pos (by omega)]; simp; omega
  · rw [if_neg (by omega), show 2 * (k + 1 - 27) = 2 * (k - 27) + 2 by omega, Nat.pow_add, ← Nat.mul_assoc]; omega
theorem sq_yes {A k root rest two : Nat} (h : SqInv A k root rest) (hp : pre A (k + 1) = 4 * pre A k + two) (h2 : two < 4) (hr : root * 4 + 1 ≤ rest * 4 + two) :
    SqInv A (k + 1) (root * 2 + 1) (rest * 4 + two - (root * 4 + 1)) := by
  obtain ⟨a, b, c⟩ := h
  have e : (root * 2 + 1) * (root * 2 + 1) = 4 * (root * root) + (root * 4 + 1) := by
    rw [Nat.add_mul, Nat.mul_add, Nat.mul_mul_mul_comm]; omega
  exact ⟨by rw [hp, a, e]; omega, by omega, by rw [Nat.pow_succ]; omega⟩
theorem sq_no {A k root rest two : Nat} (h : SqInv A k root rest) (hp : pre A (k + 1) = 4 * pre A k + two) (h2 : two < 4) (hr : ¬ root * 4 + 1 ≤ rest * 4 + two) :
    SqInv A (k + 1) (root * 2) (rest * 4 + two) := by
  obtain ⟨a, b, c⟩ := h
  have e : (root * 2) * (root * 2) = 4 * (root * root) := by rw [Nat.mul_mul_mul_comm]; omega
  exact ⟨by rw [hp, a, e]; omega, by omega, by rw [Nat.pow_succ]; omega⟩
theorem sq_bd {A k root rest : Nat} (h : SqInv A k root rest) (hk : k ≤ 58) : root < 288230376151711744 ∧ rest < 576460752303423488 := by
  obtain ⟨a, b, c⟩ := h
  have : 2 ^ k ≤ 2 ^ 58 := Nat.pow_le_pow_right (by omega) hk
  exact ⟨Nat.lt_of_lt_of_le c this, by have := Nat.lt_of_lt_of_le c this; omega⟩
theorem sq_end {A root rest : Nat} (h : SqInv A 58 root rest) : IsRoot (A * 2 ^ 62) root ∧ ros (A * 2 ^ 62) root = if rest = 0 then root * 2 else root * 2 + 1 := by
  obtain ⟨a, b, c⟩ := h
  have ep : pre A 58 = A * 2 ^ 62 := rfl
  rw [ep] at a
  refine ⟨⟨by omega, ?_⟩, ?_⟩
  · rw [a, Nat.add_mul, Nat.mul_add]; omega
  · unfold ros
    by_cases h0 : rest = 0
    · have e : root * root = A * 2 ^ 62 := by omega
      rw [if_pos h0, bne_eq_false_iff_eq.2 e]
      show 2 * root + 0 = _
      omega
    · have e : root * root ≠ A * 2 ^ 62 := by omega
      rw [if_neg h0, bne_iff_ne.2 e]
      show 2 * root + 1 = _
      omega
end Flo
