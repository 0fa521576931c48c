import Derived.Test.YtdeljahpbanecaaMb
/- Rounding to nearest, even ones in the middle, over whole numbers: scale, order, what may be dropped. -/
namespace Flo
open Ieee
set_option linter.unusedVariables false
set_option linter.unusedSimpArgs false

theorem pow_pos' (n : Nat) : 0 < 2 ^ n := Nat.two_pow_pos n
/-- n by 2^d to the nearest, to even ones in the middle. -/
def rne (n d : Nat) : Nat := n / 2 ^ d + (decide (2 ^ d < 2 * (n % 2 ^ d)) || (decide (2 ^ d = 2 * (n % 2 ^ d)) && decide (n / 2 ^ d % 2 = 1))).toNat
theorem lt_log2 (n : Nat) : n < 2 ^ (n.log2 + 1) := Nat.lt_log2_self
theorem log2_le {n : Nat} (h : n ≠ 0) : 2 ^ n.log2 ≤ n := Nat.log2_self_le h
theorem rne_zero_of_lt {n d : Nat} (h : 2 * n < 2 ^ d) : rne n d = 0 := by
  unfold rne
  have h1 : n < 2 ^ d := by omega
  rw [Nat.div_eq_of_lt h1, Nat.mod_eq_of_lt h1]
  simp; omega
theorem cut_even (neg : Bool) (n d : Nat) : Toward.even.cut neg n d = rne n d := by
  unfold Toward.cut
  dsimp only
  by_cases h : d ≤ n.log2 + 2
  · rw [Nat.min_eq_left h, Nat.one_shiftLeft]
    unfold rne
    congr 2
  · rw [Nat.min_eq_right (by omega), Nat.one_shiftLeft]
    have h1 := lt_log2 n
    have h2 : 2 ^ (n.log2 + 2) ≤ 2 ^ d := Nat.pow_le_pow_right (by omega) (by omega)
    have h3 : 2 ^ (n.log2 + 2) = 2 * 2 ^ (n.log2 + 1) := by rw [Nat.pow_succ, Nat.mul_comm]
    have h4 : n < 2 ^ (n.log2 + 2) := by omega
    rw [rne_zero_of_lt (by omega), Nat.div_eq_of_lt h4, Nat.mod_eq_of_lt h4]
    simp; omega
theorem cut_zero (neg : Bool) (n d : Nat) : Toward.zero.cut neg n d = n / 2 ^ d := by
  unfold Toward.cut
  dsimp only
  by_cases h : d ≤ n.log2 + 2
  · rw [Nat.min_eq_left h, Nat.one_shiftLeft]; simp
  · rw [Nat.min_eq_right (by omega), Nat.one_shiftLeft]
    have h1 := lt_log2 n
    have h2 : 2 ^ (n.log2 + 2) ≤ 2 ^ d := Nat.pow_le_pow_right (by omega) (by omega)
    have h3 : 2 ^ (n.log2 + 2) = 2 * 2 ^ (n.log2 + 1) := by rw [Nat.pow_succ, Nat.mul_comm]
    rw [Nat.div_eq_of_lt (by omega), Nat.div_eq_of_lt (by omega)]; simp
theorem rne_scale (n d j : Nat) : rne (n * 2 ^ j) (d + j) = rne n d := by
  unfold rne
  have hj := pow_pos' j
  rw [Nat.pow_add, Nat.mul_div_mul_right _ _ hj, Nat.mul_mod_mul_right]
  have e1 : decide (2 ^ d * 2 ^ j < 2 * (n % 2 ^ d * 2 ^ j)) = decide (2 ^ d < 2 * (n % 2 ^ d)) := by
    rw [← Nat.mul_assoc]; exact decide_eq_decide.2 (Nat.mul_lt_mul_right hj)
  have e2 : decide (2 ^ d * 2 ^ j = 2 * (n % 2 ^ d * 2 ^ j)) = decide (2 ^ d = 2 * (n % 2 ^ d)) := by
    rw [← Nat.mul_assoc]; exact decide_eq_decide.2 (Nat.mul_left_inj (by omega))
  rw [e1, e2]
theorem rne_zero (n : Nat) : rne n 0 = n := by unfold rne; simp; omega
theorem rne_exact (n d : Nat) : rne (n * 2 ^ d) d = n := by
  have := rne_scale n 0 d; rw [Nat.zero_add, rne_zero] at this; exact this
theorem rne_lo (n d : Nat) : n / 2 ^ d ≤ rne n d := Nat.le_add_right ..
theorem rne_hi (n d : Nat) : rne n d ≤ n / 2 ^ d + 1 := by
  unfold rne; exact Nat.add_le_add_left (Bool.toNat_le _) _
/-- How many digits are dropped from N (in units of 2^-k of the least number). -/
def dr (k N : Nat) : Nat := max (N.log2 - 52) k
/-- The rung of N by 2^k, in units of the least number. -/
def R (k N : Nat) : Nat := min ((dr k N - k) * 4503599627370496 + rne N (dr k N)) 9218868437227405312
theorem log2_mul_pow {n : Nat} (h : n ≠ 0) (j : Nat) : (n * 2 ^ j).log2 = n.log2 + j := by
  have h1 := log2_le h
  have h2 := lt_log2 n
  have hj := pow_pos' j
  have h3 : n * 2 ^ j ≠ 0 := Nat.mul_ne_zero h (by omega)
  rw [Nat.log2_eq_iff h3]
  constructor
  · rw [Nat.pow_add]; exact Nat.mul_le_mul_right _ h1
  · rw [show n.log2 + j + 1 = n.log2 + 1 + j by omega, Nat.pow_add]; exact Nat.mul_lt_mul_of_pos_right h2 hj
theorem R_zero (k : Nat) : R k 0 = 0 := by
  unfold R dr
  have e : max (Nat.log2 0 - 52) k = k := by simp
  have := pow_pos' k
  rw [e, Nat.sub_self, rne_zero_of_lt (by omega)]; simp
theorem R_scale (k N j : Nat) : R (k + j) (N * 2 ^ j) = R k N := by
  by_cases h : N = 0
  · subst h; rw [Nat.zero_mul, R_zero, R_zero]
  · unfold R
    have e : dr (k + j) (N * 2 ^ j) = dr k N + j := by
      unfold dr; rw [log2_mul_pow h]; omega
    rw [e, rne_scale]
    congr 3; omega
/-- The number of a rung, in units of the least number. -/
def mag (r : Nat) : Nat := if r < 4503599627370496 then r else (4503599627370496 + r % 4503599627370496) * 2 ^ (r / 4503599627370496 - 1)
theorem R_mag {r : Nat} (h : r ≤ 9218868437227405312) : R 0 (mag r) = r := by
  unfold R mag
  by_cases h1 : r < 4503599627370496
  · rw [if_pos h1]
    have e : dr 0 r = 0 := by
      unfold dr
      have : r.log2 < 52 ∨ r = 0 := by
        by_cases h0 : r = 0
        · exact .inr h0
        · exact .inl ((Nat.log2_lt h0).2 h1)
      rcases this with h | h
      · omega
      · subst h; simp
    rw [e, rne_zero]; omega
  · rw [if_neg h1]
    have hM : 4503599627370496 + r % 4503599627370496 ≠ 0 := by omega
    have e : dr 0 ((4503599627370496 + r % 4503599627370496) * 2 ^ (r / 4503599627370496 - 1)) = r / 4503599627370496 - 1 := by
      unfold dr
      rw [log2_mul_pow hM]
      have : (4503599627370496 + r % 4503599627370496).log2 = 52 := by
        rw [Nat.log2_eq_iff hM]; omega
      omega
    rw [e, rne_exact]; omega
theorem mag_lt {r s : Nat} (h : r < s) : mag r < mag s := by
  unfold mag
  by_cases h1 : s < 4503599627370496
  · rw [if_pos h1, if_pos (by omega)]; exact h
  · rw [if_neg h1]
    have hp := pow_pos' (s / 4503599627370496 - 1)
    by_cases h2 : r < 4503599627370496
    · rw [if_pos h2]
      exact Nat.lt_of_lt_of_le (by omega : r < (4503599627370496 + s % 4503599627370496) * 1) (Nat.mul_le_mul_left _ hp)
    · rw [if_neg h2]
      by_cases h3 : r / 4503599627370496 = s / 4503599627370496
      · rw [h3]; exact Nat.mul_lt_mul_of_pos_right (by omega) hp
      · have h4 : r / 4503599627370496 - 1 + 1 ≤ s / 4503599627370496 - 1 := by omega
        have h5 : 2 ^ (r / 4503599627370496 - 1 + 1) ≤ 2 ^ (s / 4503599627370496 - 1) := Nat.pow_le_pow_right (by omega) h4
        refine Nat.lt_of_lt_of_le ?_ (Nat.mul_le_mul (by omega : 4503599627370496 ≤ _) h5)
        rw [Nat.pow_succ, Nat.mul_comm (2 ^ _) 2, ← Nat.mul_assoc]
        exact Nat.mul_lt_mul_of_pos_right (by omega) (pow_pos' _)
theorem mag_le {r s : Nat} (h : r ≤ s) : mag r ≤ mag s := by
  rcases Nat.lt_or_eq_of_le h with h | h
  · exact Nat.le_of_lt (mag_lt h)
  · rw [h]; exact Nat.le_refl _
theorem mag_lt_iff {r s : Nat} : mag r < mag s ↔ r < s :=
  ⟨fun h => Nat.lt_of_not_le fun h' => by have := mag_le h'; omega, mag_lt⟩
/-- The word nearest to a number, by its rung. -/
theorem nearest_R (neg : Bool) (m : Nat) (p : Int) (k : Nat) (h : -1074 - (k : Int) ≤ p) :
    D.nearest neg m p = D.word neg (R k (m * 2 ^ (p + 1074 + k).toNat)) := by
  unfold Format.nearest
  by_cases hm : m = 0
  · subst hm; rw [if_pos rfl, Nat.zero_mul, R_zero]
  · rw [if_neg hm]
    dsimp only
    rw [d_least, d_bin, d_inf, cut_even]
    show D.word neg (min ((max (p + (m.log2 : Int) - (52 : Nat)) (-1074) - -1074).toNat * 4503599627370496 + rne (m <<< (p - max (p + (m.log2 : Int) - (52 : Nat)) (-1074)).toNat) (max (p + (m.log2 : Int) - (52 : Nat)) (-1074) - p).toNat) 9218868437227405312) = _
    unfold R
    have hl := log2_mul_pow hm (p + 1074 + k).toNat
    have ed : (dr k (m * 2 ^ (p + 1074 + k).toNat) : Int) = max (p + (m.log2 : Int) - (52 : Nat)) (-1074) + 1074 + k := by
      unfold dr; rw [hl]; omega
    generalize max (p + (m.log2 : Int) - (52 : Nat)) (-1074) = last at ed
    have e1 : (last - -1074).toNat = dr k (m * 2 ^ (p + 1074 + k).toNat) - k := by omega
    rw [e1, Nat.shiftLeft_eq]
    congr 3
    generalize dr k (m * 2 ^ (p + 1074 + k).toNat) = d at ed
    by_cases hp : p ≤ last
    · rw [show (p - last).toNat = 0 by omega, Nat.pow_zero, Nat.mul_one]
      rw [show d = (last - p).toNat + (p + 1074 + k).toNat by omega, rne_scale]
    · rw [show (last - p).toNat = 0 by omega, rne_zero]
      rw [show (p + 1074 + (k : Int)).toNat = (p - last).toNat + d by omega, Nat.pow_add, ← Nat.mul_assoc, rne_exact]
end Flo
namespace Flo
/-- How many bits a number has. -/
def sz (m : Nat) : Nat := if m = 0 then 0 else m.log2 + 1
def SzInv (m x k : Nat) : Prop := x = m / 2 ^ k ∧ k ≤ sz m
theorem szInv_zero (m : Nat) : SzInv m m 0 := ⟨by simp, by omega⟩
theorem szInv_step {m x k : Nat} (h : SzInv m x k) (hx : x ≠ 0) : SzInv m (x / 2) (k + 1) := by
  obtain ⟨h1, h2⟩ := h
  refine ⟨by rw [h1, Nat.pow_succ, Nat.div_div_eq_div_mul], ?_⟩
  have h3 : 2 ^ k ≤ m := by
    refine Nat.le_of_not_lt fun h => hx ?_
    rw [h1, Nat.div_eq_of_lt h]
  have h4 : m ≠ 0 := by have := Nat.two_pow_pos k; omega
  unfold sz; rw [if_neg h4]
  have := (Nat.le_log2 h4).2 h3
  omega
theorem szInv_end {m k : Nat} (h : SzInv m 0 k) : k = sz m := by
  obtain ⟨h1, h2⟩ := h
  have h3 : m < 2 ^ k := by
    refine Nat.lt_of_not_le fun h => ?_
    have : 0 < m / 2 ^ k := Nat.div_pos h (Nat.two_pow_pos k)
    omega
  unfold sz at h2 ⊢
  split at h2
  · rw [if_pos (by assumption)]; omega
  · rename_i h4
    rw [if_neg h4]
    have := (Nat.log2_lt h4).2 h3
    omega
theorem sz_le {m : Nat} (h : m < 18446744073709551616) : sz m ≤ 64 := by
  unfold sz; split
  · omega
  · rename_i h4
    have : m.log2 < 64 := (Nat.log2_lt h4).2 h
    omega
end Flo
