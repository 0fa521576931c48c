import Derived.Test.YtdeljahpbanecaaMg
/- Rounding as the document's answer does it, digit by digit. -/
namespace Flo
open Ieee
set_option linter.unusedVariables false
set_option linter.unusedSimpArgs false

/-- The digits that are kept, of m, where d are dropped (or, below 0, added). -/
def kept (m : Nat) (d : Int) : Nat := rne (m * 2 ^ (-d).toNat) d.toNat
theorem kept_neg (m : Nat) {d : Int} (h : d ≤ 0) : kept m d = m * 2 ^ (-d).toNat := by
  unfold kept; rw [show d.toNat = 0 by omega, rne_zero]
theorem kept_pos (m : Nat) {d : Int} (h : 0 ≤ d) : kept m d = rne m d.toNat := by
  unfold kept; rw [show (-d).toNat = 0 by omega, Nat.pow_zero, Nat.mul_one]
theorem nearest_kept (neg : Bool) (m : Nat) (e d : Int) (hm : m ≠ 0) (hd : max ((sz m : Int) - 53) (-1074 - e) = d) :
    D.nearest neg m e = D.word neg (min ((e + d + 1074).toNat * 4503599627370496 + kept m d) 9218868437227405312) := by
  unfold Format.nearest
  rw [if_neg hm]
  dsimp only
  rw [d_least, d_bin, d_inf, cut_even]
  have hs : sz m = m.log2 + 1 := by unfold sz; rw [if_neg hm]
  rw [hs] at hd
  show D.word neg (min ((max (e + (m.log2 : Int) - (52 : Nat)) (-1074) - -1074).toNat * 4503599627370496 + rne (m <<< (e - max (e + (m.log2 : Int) - (52 : Nat)) (-1074)).toNat) (max (e + (m.log2 : Int) - (52 : Nat)) (-1074) - e).toNat) 9218868437227405312) = _
  have hl : max (e + (m.log2 : Int) - (52 : Nat)) (-1074) = e + d := by omega
  rw [hl, Nat.shiftLeft_eq]
  unfold kept
  rw [show (e + d - -1074).toNat = (e + d + 1074).toNat by omega, show (e - (e + d)).toNat = (-d).toNat by omega, show (e + d - e).toNat = d.toNat by omega]
theorem kept_le (m : Nat) (e d : Int) (hm : m ≠ 0) (hd : max ((sz m : Int) - 53) (-1074 - e) = d) : kept m d ≤ 9007199254740992 := by
  have hs : sz m = m.log2 + 1 := by unfold sz; rw [if_neg hm]
  rw [hs] at hd
  have h1 := lt_log2 m
  by_cases h : 0 ≤ d
  · rw [kept_pos m h]
    have h2 := rne_hi m d.toNat
    have h3 : m / 2 ^ d.toNat < 2 ^ 53 := by
      rw [Nat.div_lt_iff_lt_mul (pow_pos' _), ← Nat.pow_add]
      exact Nat.lt_of_lt_of_le h1 (Nat.pow_le_pow_right (by omega) (by omega))
    omega
  · rw [kept_neg m (by omega)]
    have h2 : m * 2 ^ (-d).toNat < 2 ^ (m.log2 + 1) * 2 ^ (-d).toNat := Nat.mul_lt_mul_of_pos_right h1 (pow_pos' _)
    rw [← Nat.pow_add] at h2
    have h3 : 2 ^ (m.log2 + 1 + (-d).toNat) ≤ 2 ^ 53 := Nat.pow_le_pow_right (by omega) (by omega)
    omega
theorem kept_ge (m : Nat) (e d : Int) (hm : m ≠ 0) (hd : max ((sz m : Int) - 53) (-1074 - e) = d) (he : e + d ≠ -1074) : 4503599627370496 ≤ kept m d := by
  have hs : sz m = m.log2 + 1 := by unfold sz; rw [if_neg hm]
  rw [hs] at hd
  have h1 := log2_le hm
  by_cases h : 0 ≤ d
  · rw [kept_pos m h]
    refine Nat.le_trans ?_ (rne_lo m d.toNat)
    rw [Nat.le_div_iff_mul_le (pow_pos' _), show (4503599627370496 : Nat) = 2 ^ 52 from rfl, ← Nat.pow_add]
    exact Nat.le_trans (Nat.pow_le_pow_right (by omega) (by omega)) h1
  · rw [kept_neg m (by omega)]
    refine Nat.le_trans ?_ (Nat.mul_le_mul_right _ h1)
    rw [← Nat.pow_add, show (4503599627370496 : Nat) = 2 ^ 52 from rfl]
    exact Nat.pow_le_pow_right (by omega) (by omega)
theorem kept_lt (m : Nat) (e d : Int) (hm : m ≠ 0) (hd : max ((sz m : Int) - 53) (-1074 - e) = d) : -1074 ≤ e + d := by omega
/-- What stands behind the digits: a carry, the bounds. -/
def tailR (k : Nat) (x : Int) : Nat :=
  if k = 9007199254740992 then (if x + 1 > 971 then 9218868437227405312 else (x + 1076).toNat * 4503599627370496)
  else if x > 971 then 9218868437227405312 else if k < 4503599627370496 then k else (x + 1075).toNat * 4503599627370496 + k % 4503599627370496
theorem tailR_eq {k : Nat} {x : Int} (h1 : k ≤ 9007199254740992) (h2 : x ≠ -1074 → 4503599627370496 ≤ k) (h3 : -1074 ≤ x) :
    min ((x + 1074).toNat * 4503599627370496 + k) 9218868437227405312 = tailR k x := by
  unfold tailR
  by_cases e1 : k = 9007199254740992
  · rw [if_pos e1]
    split <;> omega
  · rw [if_neg e1]
    split
    · have := h2 (by omega); omega
    · split
      · have : x = -1074 := Decidable.byContradiction fun h => by have := h2 h; omega
        omega
      · omega
theorem nearest_tail (neg : Bool) (m : Nat) (e d : Int) (hm : m ≠ 0) (hd : max ((sz m : Int) - 53) (-1074 - e) = d) :
    D.nearest neg m e = D.word neg (tailR (kept m d) (e + d)) := by
  rw [nearest_kept neg m e d hm hd, tailR_eq (kept_le m e d hm hd) (kept_ge m e d hm hd) (kept_lt m e d hm hd)]
theorem nearest_zero (neg : Bool) (e : Int) : D.nearest neg 0 e = D.word neg 0 := rfl
theorem nearest_far (neg : Bool) (m : Nat) (e d : Int) (hm : m ≠ 0) (h : m < 18446744073709551616) (hd : max ((sz m : Int) - 53) (-1074 - e) = d) (hf : 64 < d) : D.nearest neg m e = D.word neg 0 := by
  have h4 := sz_le h
  rw [nearest_kept neg m e d hm hd, kept_pos m (by omega)]
  have h1 : rne m d.toNat = 0 := by
    refine rne_zero_of_lt ?_
    have : 2 ^ 65 ≤ 2 ^ d.toNat := Nat.pow_le_pow_right (by omega) (by omega)
    omega
  rw [h1, show (e + d + 1074).toNat = 0 by omega]; rfl
end Flo
