/- Plain facts on double precision words: which words are no number, what the operations of Ieee hand back. -/
import Derived.Laws.FloatBits
import Derived.Laws.FloatArith
namespace Flo
open Ieee
set_option linter.unusedVariables false
set_option linter.unusedSimpArgs false

abbrev D : Format := Ieee.double
def NaN : Nat := 9221120237041090560
theorem d_sign : D.signWeight = 9223372036854775808 := rfl
theorem d_bin : D.binade = 4503599627370496 := rfl
theorem d_inf : D.infRung = 9218868437227405312 := rfl
theorem d_least : D.leastPlace = -1074 := rfl
/-- The word is no number. -/
def nanB (x : Nat) : Bool := decide (9218868437227405312 < x % 9223372036854775808)
theorem read_eq (x : Nat) : D.read x =
    if x % 9223372036854775808 < 4503599627370496 then .number (x / 9223372036854775808 % 2 == 1) (x % 9223372036854775808) (-1074)
    else if x % 9223372036854775808 < 9218868437227405312 then
      .number (x / 9223372036854775808 % 2 == 1) (4503599627370496 + x % 9223372036854775808 % 4503599627370496) (-1074 + (x % 9223372036854775808 / 4503599627370496 - 1 : Nat))
    else if x % 9223372036854775808 = 9218868437227405312 then .infinity (x / 9223372036854775808 % 2 == 1)
    else .nan (x / 9223372036854775808 % 2 == 1) (x % 9223372036854775808 - 9218868437227405312) := rfl
theorem read_nan {x : Nat} (h : nanB x = true) : ∃ s t, D.read x = .nan s t := by
  have h' : 9218868437227405312 < x % 9223372036854775808 := of_decide_eq_true h
  rw [read_eq, if_neg (by omega), if_neg (by omega), if_neg (by omega)]
  exact ⟨_, _, rfl⟩
theorem read_notnan {x : Nat} (h : nanB x = false) : (∃ s m e, D.read x = .number s m e) ∨ (∃ s, D.read x = .infinity s) := by
  have h' : ¬ 9218868437227405312 < x % 9223372036854775808 := of_decide_eq_false h
  rw [read_eq]
  split
  · exact .inl ⟨_, _, _, rfl⟩
  · split
    · exact .inl ⟨_, _, _, rfl⟩
    · rw [if_pos (by omega)]; exact .inr ⟨_, rfl⟩
theorem order_nan {x : Nat} (h : nanB x = true) : D.order x x = none := by
  obtain ⟨s, t, e⟩ := read_nan h
  unfold Format.order; rw [e]; rfl
theorem order_num {x : Nat} (h : nanB x = false) : D.order x x = some .eq := by
  unfold Format.order
  rcases read_notnan h with ⟨s, m, p, e⟩ | ⟨s, e⟩ <;> rw [e]
  · simp [Datum.order]
  · simp [Datum.order]
theorem order_nan_left {x y : Nat} (h : nanB x = true) : D.order x y = none := by
  obtain ⟨s, t, e⟩ := read_nan h
  unfold Format.order; rw [e]; rfl
theorem order_nan_right {x y : Nat} (h : nanB y = true) : D.order x y = none := by
  obtain ⟨s, t, e⟩ := read_nan h
  unfold Format.order; rw [e]; cases D.read x <;> rfl
theorem word_notnan (neg : Bool) {r : Nat} (h : r ≤ 9218868437227405312) : nanB (D.word neg r) = false := by
  unfold nanB Format.word; rw [d_sign]
  apply decide_eq_false
  cases neg
  · rw [if_neg (by simp)]; omega
  · rw [if_pos rfl]; omega
theorem nearest_notnan (neg : Bool) (m : Nat) (p : Int) : nanB (D.nearest neg m p) = false := by
  unfold Format.nearest
  dsimp only
  split
  · exact word_notnan _ (by omega)
  · exact word_notnan _ (Nat.le_trans (Nat.min_le_right ..) (Nat.le_of_eq d_inf))
def notNanD : Datum → Bool
  | .nan .. => false
  | _ => true
theorem write_notnan {d : Datum} (h : notNanD d = true) : nanB (D.write d) = false := by
  cases d with
  | number s m p => exact nearest_notnan ..
  | infinity s => exact word_notnan _ (Nat.le_of_eq d_inf)
  | nan s t => cases h
theorem sum_notnan {a b d : Datum} (h : a.sum b = some d) : notNanD d = true := by
  cases a <;> cases b <;> simp only [Datum.sum] at h <;> first | (cases h; rfl) | (split at h <;> cases h <;> rfl) | cases h
theorem product_notnan {a b d : Datum} (h : a.product b = some d) : notNanD d = true := by
  cases a <;> cases b <;> simp only [Datum.product] at h <;> first | (cases h; rfl) | (split at h <;> cases h <;> rfl) | cases h
theorem quotient_notnan {k : Nat} {a b d : Datum} (h : a.quotient k b = some d) : notNanD d = true := by
  cases a <;> cases b <;> simp only [Datum.quotient] at h <;> first | (cases h; rfl) | (split at h <;> first | (cases h <;> rfl) | (split at h <;> cases h <;> rfl)) | cases h
theorem root_notnan {k : Nat} {a d : Datum} (h : a.root k = some d) : notNanD d = true := by
  cases a <;> simp only [Datum.root] at h
  · split at h
    · cases h; rfl
    · split at h <;> cases h; rfl
  · split at h <;> cases h; rfl
  · cases h
theorem map_notnan {o : Option Datum} {r : Nat} (hh : ∀ d, o = some d → notNanD d = true) (h : o.map D.write = some r) : nanB r = false ∧ r < 18446744073709551616 := by
  refine ⟨?_, D.map_write_lt h⟩
  cases o with
  | none => cases h
  | some d => cases h; exact write_notnan (hh d rfl)
theorem add_notnan {x y r : Nat} (h : D.add x y = some r) : nanB r = false ∧ r < 18446744073709551616 := map_notnan (fun _ h => sum_notnan h) h
theorem sub_notnan {x y r : Nat} (h : D.sub x y = some r) : nanB r = false ∧ r < 18446744073709551616 := map_notnan (fun _ h => sum_notnan h) h
theorem mul_notnan {x y r : Nat} (h : D.mul x y = some r) : nanB r = false ∧ r < 18446744073709551616 := map_notnan (fun _ h => product_notnan h) h
theorem div_notnan {x y r : Nat} (h : D.div x y = some r) : nanB r = false ∧ r < 18446744073709551616 := map_notnan (fun _ h => quotient_notnan h) h
theorem sqrt_notnan {x r : Nat} (h : D.sqrt x = some r) : nanB r = false ∧ r < 18446744073709551616 := map_notnan (fun _ h => root_notnan h) h
/-- What the program hands back: the operation's word, or the one NaN. -/
def fin (o : Option Nat) : Nat := o.getD NaN
theorem fin_some (r : Nat) : fin (some r) = r := rfl
def fAdd (x y : Nat) : Nat := fin (D.add x y)
def fSub (x y : Nat) : Nat := fin (D.sub x y)
def fMul (x y : Nat) : Nat := fin (D.mul x y)
def fDiv (x y : Nat) : Nat := fin (D.div x y)
def fSqrt (x : Nat) : Nat := fin (D.sqrt x)
/-- A result of the program is a number, or it is NaN. -/
def Res (r : Nat) : Prop := r < 18446744073709551616 ∧ (nanB r = true → r = NaN)
theorem res_fin {o : Option Nat} (h : ∀ r, o = some r → nanB r = false ∧ r < 18446744073709551616) : Res (fin o) := by
  cases o with
  | none => exact ⟨by unfold fin NaN; simp, fun _ => rfl⟩
  | some r => exact ⟨(h r rfl).2, fun hn => by rw [fin_some, (h r rfl).1] at hn; cases hn⟩
theorem res_add (x y : Nat) : Res (fAdd x y) := res_fin fun _ => add_notnan
theorem res_mul (x y : Nat) : Res (fMul x y) := res_fin fun _ => mul_notnan
theorem res_div (x y : Nat) : Res (fDiv x y) := res_fin fun _ => div_notnan
theorem res_sqrt (x : Nat) : Res (fSqrt x) := res_fin fun _ => sqrt_notnan
theorem nan_cut (t : Nat) : nanB ((t % 2) * 2 ^ 63 + 0x7ff0000000000000 + 1 + (t / 2) % (2 ^ 52 - 1)) = true := by
  unfold nanB
  apply decide_eq_true
  have h : (t / 2) % (2 ^ 52 - 1) < 2 ^ 52 - 1 := Nat.mod_lt _ (by decide)
  generalize (t / 2) % (2 ^ 52 - 1) = c at h ⊢
  have h2 : t % 2 = 0 ∨ t % 2 = 1 := by omega
  rcases h2 with e | e <;> rw [e] <;> omega
end Flo
-- with Mb
namespace Flo
open Ieee
set_option linter.unusedVariables false
set_option linter.unusedSimpArgs false

def clsXF (X F : Nat) : Nat := if X = 2047 then (if F = 0 then 3 else 4) else if X = 0 then (if F = 0 then 0 else 1) else 2
def cls (a : Nat) : Nat := clsXF (a / 4503599627370496 % 2048) (a % 4503599627370496)
theorem cls_nan (a : Nat) : (cls a == 4) = nanB a := by
  unfold cls clsXF nanB
  by_cases h1 : a / 4503599627370496 % 2048 = 2047
  · rw [if_pos h1]
    by_cases h2 : a % 4503599627370496 = 0
    · rw [if_pos h2]; symm; apply decide_eq_false; omega
    · rw [if_neg h2]; symm; apply decide_eq_true; omega
  · rw [if_neg h1]
    have : ¬ 9218868437227405312 < a % 9223372036854775808 := by omega
    rw [decide_eq_false this]
    by_cases h2 : a / 4503599627370496 % 2048 = 0 <;> by_cases h3 : a % 4503599627370496 = 0 <;> simp [h2, h3]
/-- a lies below b, -0 below 0. -/
def below (a b : Nat) : Bool := if D.order a b == some .eq then decide (b < a) else D.order a b == some .lt
def fMin (a b : Nat) : Nat := if nanB a || nanB b then NaN else if below a b then a else b
def fMax (a b : Nat) : Nat := if nanB a || nanB b then NaN else if below a b then b else a
end Flo
-- with Md
namespace Flo
open Ieee
set_option linter.unusedVariables false
set_option linter.unusedSimpArgs false

theorem pow_pos' (n : Nat) : 0 < 2 ^ n := Nat.two_pow_pos n
/-- n by 2^d to the nearest, to even ones in the middle. -/
def rne (n d : Nat) : Nat := n / 2 ^ d + (decide (2 ^ d < 2 * (n % 2 ^ d)) || (decide (2 ^ d = 2 * (n % 2 ^ d)) && decide (n / 2 ^ d % 2 = 1))).toNat
theorem lt_log2 (n : Nat) : n < 2 ^ (n.log2 + 1) := Nat.lt_log2_self
theorem log2_le {n : Nat} (h : n ≠ 0) : 2 ^ n.log2 ≤ n := Nat.log2_self_le h
theorem rne_zero_of_lt {n d : Nat} (h : 2 * n < 2 ^ d) : rne n d = 0 := by
  unfold rne
  have h1 : n < 2 ^ d := by omega
  rw [Nat.div_eq_of_lt h1, Nat.mod_eq_of_lt h1]
  simp; omega
theorem cut_even (neg : Bool) (n d : Nat) : Toward.even.cut neg n d = rne n d := by
  unfold Toward.cut
  dsimp only
  by_cases h : d ≤ n.log2 + 2
  · rw [Nat.min_eq_left h, Nat.one_shiftLeft]
    unfold rne
    congr 2
  · rw [Nat.min_eq_right (by omega), Nat.one_shiftLeft]
    have h1 := lt_log2 n
    have h2 : 2 ^ (n.log2 + 2) ≤ 2 ^ d := Nat.pow_le_pow_right (by omega) (by omega)
    have h3 : 2 ^ (n.log2 + 2) = 2 * 2 ^ (n.log2 + 1) := by rw [Nat.pow_succ, Nat.mul_comm]
    have h4 : n < 2 ^ (n.log2 + 2) := by omega
    rw [rne_zero_of_lt (by omega), Nat.div_eq_of_lt h4, Nat.mod_eq_of_lt h4]
    simp; omega
theorem cut_zero (neg : Bool) (n d : Nat) : Toward.zero.cut neg n d = n / 2 ^ d := by
  unfold Toward.cut
  dsimp only
  by_cases h : d ≤ n.log2 + 2
  · rw [Nat.min_eq_left h, Nat.one_shiftLeft]; simp
  · rw [Nat.min_eq_right (by omega), Nat.one_shiftLeft]
    have h1 := lt_log2 n
    have h2 : 2 ^ (n.log2 + 2) ≤ 2 ^ d := Nat.pow_le_pow_right (by omega) (by omega)
    have h3 : 2 ^ (n.log2 + 2) = 2 * 2 ^ (n.log2 + 1) := by rw [Nat.pow_succ, Nat.mul_comm]
    rw [Nat.div_eq_of_lt (by omega), Nat.div_eq_of_lt (by omega)]; simp
theorem rne_scale (n d j : Nat) : rne (n * 2 ^ j) (d + j) = rne n d := by
  unfold rne
  have hj := pow_pos' j
  rw [Nat.pow_add, Nat.mul_div_mul_right _ _ hj, Nat.mul_mod_mul_right]
  have e1 : decide (2 ^ d * 2 ^ j < 2 * (n % 2 ^ d * 2 ^ j)) = decide (2 ^ d < 2 * (n % 2 ^ d)) := by
    rw [← Nat.mul_assoc]; exact decide_eq_decide.2 (Nat.mul_lt_mul_right hj)
  have e2 : decide (2 ^ d * 2 ^ j = 2 * (n % 2 ^ d * 2 ^ j)) = decide (2 ^ d = 2 * (n % 2 ^ d)) := by
    rw [← Nat.mul_assoc]; exact decide_eq_decide.2 (Nat.mul_left_inj (by omega))
  rw [e1, e2]
theorem rne_zero (n : Nat) : rne n 0 = n := by unfold rne; simp; omega
theorem rne_exact (n d : Nat) : rne (n * 2 ^ d) d = n := by
  have := rne_scale n 0 d; rw [Nat.zero_add, rne_zero] at this; exact this
theorem rne_lo (n d : Nat) : n / 2 ^ d ≤ rne n d := Nat.le_add_right ..
theorem rne_hi (n d : Nat) : rne n d ≤ n / 2 ^ d + 1 := by
  unfold rne; exact Nat.add_le_add_left (Bool.toNat_le _) _
/-- How many digits are dropped from N (in units of 2^-k of the least number). -/
def dr (k N : Nat) : Nat := max (N.log2 - 52) k
/-- The rung of N by 2^k, in units of the least number. -/
def R (k N : Nat) : Nat := min ((dr k N - k) * 4503599627370496 + rne N (dr k N)) 9218868437227405312
theorem log2_mul_pow {n : Nat} (h : n ≠ 0) (j : Nat) : (n * 2 ^ j).log2 = n.log2 + j := by
  have h1 := log2_le h
  have h2 := lt_log2 n
  have hj := pow_pos' j
  have h3 : n * 2 ^ j ≠ 0 := Nat.mul_ne_zero h (by omega)
  rw [Nat.log2_eq_iff h3]
  constructor
  · rw [Nat.pow_add]; exact Nat.mul_le_mul_right _ h1
  · rw [show n.log2 + j + 1 = n.log2 + 1 + j by omega, Nat.pow_add]; exact Nat.mul_lt_mul_of_pos_right h2 hj
theorem R_zero (k : Nat) : R k 0 = 0 := by
  unfold R dr
  have e : max (Nat.log2 0 - 52) k = k := by simp
  have := pow_pos' k
  rw [e, Nat.sub_self, rne_zero_of_lt (by omega)]; simp
theorem R_scale (k N j : Nat) : R (k + j) (N * 2 ^ j) = R k N := by
  by_cases h : N = 0
  · subst h; rw [Nat.zero_mul, R_zero, R_zero]
  · unfold R
    have e : dr (k + j) (N * 2 ^ j) = dr k N + j := by
      unfold dr; rw [log2_mul_pow h]; omega
    rw [e, rne_scale]
    congr 3; omega
/-- The number of a rung, in units of the least number. -/
def mag (r : Nat) : Nat := if r < 4503599627370496 then r else (4503599627370496 + r % 4503599627370496) * 2 ^ (r / 4503599627370496 - 1)
theorem R_mag {r : Nat} (h : r ≤ 9218868437227405312) : R 0 (mag r) = r := by
  unfold R mag
  by_cases h1 : r < 4503599627370496
  · rw [if_pos h1]
    have e : dr 0 r = 0 := by
      unfold dr
      have : r.log2 < 52 ∨ r = 0 := by
        by_cases h0 : r = 0
        · exact .inr h0
        · exact .inl ((Nat.log2_lt h0).2 h1)
      rcases this with h | h
      · omega
      · subst h; simp
    rw [e, rne_zero]; omega
  · rw [if_neg h1]
    have hM : 4503599627370496 + r % 4503599627370496 ≠ 0 := by omega
    have e : dr 0 ((4503599627370496 + r % 4503599627370496) * 2 ^ (r / 4503599627370496 - 1)) = r / 4503599627370496 - 1 := by
      unfold dr
      rw [log2_mul_pow hM]
      have : (4503599627370496 + r % 4503599627370496).log2 = 52 := by
        rw [Nat.log2_eq_iff hM]; omega
      omega
    rw [e, rne_exact]; omega
theorem mag_lt {r s : Nat} (h : r < s) : mag r < mag s := by
  unfold mag
  by_cases h1 : s < 4503599627370496
  · rw [if_pos h1, if_pos (by omega)]; exact h
  · rw [if_neg h1]
    have hp := pow_pos' (s / 4503599627370496 - 1)
    by_cases h2 : r < 4503599627370496
    · rw [if_pos h2]
      exact Nat.lt_of_lt_of_le (by omega : r < (4503599627370496 + s % 4503599627370496) * 1) (Nat.mul_le_mul_left _ hp)
    · rw [if_neg h2]
      by_cases h3 : r / 4503599627370496 = s / 4503599627370496
      · rw [h3]; exact Nat.mul_lt_mul_of_pos_right (by omega) hp
      · have h4 : r / 4503599627370496 - 1 + 1 ≤ s / 4503599627370496 - 1 := by omega
        have h5 : 2 ^ (r / 4503599627370496 - 1 + 1) ≤ 2 ^ (s / 4503599627370496 - 1) := Nat.pow_le_pow_right (by omega) h4
        refine Nat.lt_of_lt_of_le ?_ (Nat.mul_le_mul (by omega : 4503599627370496 ≤ _) h5)
        rw [Nat.pow_succ, Nat.mul_comm (2 ^ _) 2, ← Nat.mul_assoc]
        exact Nat.mul_lt_mul_of_pos_right (by omega) (pow_pos' _)
theorem mag_le {r s : Nat} (h : r ≤ s) : mag r ≤ mag s := by
  rcases Nat.lt_or_eq_of_le h with h | h
  · exact Nat.le_of_lt (mag_lt h)
  · rw [h]; exact Nat.le_refl _
theorem mag_lt_iff {r s : Nat} : mag r < mag s ↔ r < s :=
  ⟨fun h => Nat.lt_of_not_le fun h' => by have := mag_le h'; omega, mag_lt⟩
/-- The word nearest to a number, by its rung. -/
theorem nearest_R (neg : Bool) (m : Nat) (p : Int) (k : Nat) (h : -1074 - (k : Int) ≤ p) :
    D.nearest neg m p = D.word neg (R k (m * 2 ^ (p + 1074 + k).toNat)) := by
  unfold Format.nearest
  by_cases hm : m = 0
  · subst hm; rw [if_pos rfl, Nat.zero_mul, R_zero]
  · rw [if_neg hm]
    dsimp only
    rw [d_least, d_bin, d_inf, cut_even]
    show D.word neg (min ((max (p + (m.log2 : Int) - (52 : Nat)) (-1074) - -1074).toNat * 4503599627370496 + rne (m <<< (p - max (p + (m.log2 : Int) - (52 : Nat)) (-1074)).toNat) (max (p + (m.log2 : Int) - (52 : Nat)) (-1074) - p).toNat) 9218868437227405312) = _
    unfold R
    have hl := log2_mul_pow hm (p + 1074 + k).toNat
    have ed : (dr k (m * 2 ^ (p + 1074 + k).toNat) : Int) = max (p + (m.log2 : Int) - (52 : Nat)) (-1074) + 1074 + k := by
      unfold dr; rw [hl]; omega
    generalize max (p + (m.log2 : Int) - (52 : Nat)) (-1074) = last at ed
    have e1 : (last - -1074).toNat = dr k (m * 2 ^ (p + 1074 + k).toNat) - k := by omega
    rw [e1, Nat.shiftLeft_eq]
    congr 3
    generalize dr k (m * 2 ^ (p + 1074 + k).toNat) = d at ed
    by_cases hp : p ≤ last
    · rw [show (p - last).toNat = 0 by omega, Nat.pow_zero, Nat.mul_one]
      rw [show d = (last - p).toNat + (p + 1074 + k).toNat by omega, rne_scale]
    · rw [show (last - p).toNat = 0 by omega, rne_zero]
      rw [show (p + 1074 + (k : Int)).toNat = (p - last).toNat + d by omega, Nat.pow_add, ← Nat.mul_assoc, rne_exact]
end Flo
namespace Flo
/-- How many bits a number has. -/
def sz (m : Nat) : Nat := if m = 0 then 0 else m.log2 + 1
def SzInv (m x k : Nat) : Prop := x = m / 2 ^ k ∧ k ≤ sz m
theorem szInv_zero (m : Nat) : SzInv m m 0 := ⟨by simp, by omega⟩
theorem szInv_step {m x k : Nat} (h : SzInv m x k) (hx : x ≠ 0) : SzInv m (x / 2) (k + 1) := by
  obtain ⟨h1, h2⟩ := h
  refine ⟨by rw [h1, Nat.pow_succ, Nat.div_div_eq_div_mul], ?_⟩
  have h3 : 2 ^ k ≤ m := by
    refine Nat.le_of_not_lt fun h => hx ?_
    rw [h1, Nat.div_eq_of_lt h]
  have h4 : m ≠ 0 := by have := Nat.two_pow_pos k; omega
  unfold sz; rw [if_neg h4]
  have := (Nat.le_log2 h4).2 h3
  omega
theorem szInv_end {m k : Nat} (h : SzInv m 0 k) : k = sz m := by
  obtain ⟨h1, h2⟩ := h
  have h3 : m < 2 ^ k := by
    refine Nat.lt_of_not_le fun h => ?_
    have : 0 < m / 2 ^ k := Nat.div_pos h (Nat.two_pow_pos k)
    omega
  unfold sz at h2 ⊢
  split at h2
  · rw [if_pos (by assumption)]; omega
  · rename_i h4
    rw [if_neg h4]
    have := (Nat.log2_lt h4).2 h3
    omega
theorem sz_le {m : Nat} (h : m < 18446744073709551616) : sz m ≤ 64 := by
  unfold sz; split
  · omega
  · rename_i h4
    have : m.log2 < 64 := (Nat.log2_lt h4).2 h
    omega
end Flo
-- with Me
namespace Flo
open Ieee
set_option linter.unusedVariables false
set_option linter.unusedSimpArgs false

def sg (x : Nat) : Bool := x / 9223372036854775808 % 2 == 1
def rung (x : Nat) : Nat := x % 9223372036854775808
def sgn (s : Bool) (n : Nat) : Int := if s then -(n : Int) else n
theorem signed_eq (s : Bool) (m u : Nat) : signed s m u = sgn s (m * 2 ^ u) := by
  unfold signed sgn; rw [Nat.shiftLeft_eq]
theorem read_fin {x : Nat} (h : rung x < 9218868437227405312) : ∃ m p, D.read x = .number (sg x) m p ∧ -1074 ≤ p ∧ p ≤ 971 ∧ m < 9007199254740992 ∧ m * 2 ^ (p + 1074).toNat = mag (rung x) := by
  rw [read_eq]
  unfold rung at h ⊢
  unfold mag
  by_cases h1 : x % 9223372036854775808 < 4503599627370496
  · rw [if_pos h1, if_pos h1]
    exact ⟨_, _, rfl, by omega, by omega, by omega, by simp⟩
  · rw [if_neg h1, if_neg h1, if_pos h]
    refine ⟨_, _, rfl, by omega, by omega, by omega, ?_⟩
    congr 2; omega
theorem read_inf {x : Nat} (h : rung x = 9218868437227405312) : D.read x = .infinity (sg x) := by
  unfold rung at h
  rw [read_eq, if_neg (by omega), if_neg (by omega), if_pos h]; rfl
theorem notnan_le {x : Nat} (h : nanB x = false) : rung x ≤ 9218868437227405312 := by
  unfold nanB at h; have := of_decide_eq_false h; unfold rung; omega
theorem compare_congr {a b c d : Int} (h1 : a < b ↔ c < d) (h2 : a = b ↔ c = d) : compare a b = compare c d := by
  show compareOfLessAndEq a b = compareOfLessAndEq c d
  unfold compareOfLessAndEq
  by_cases x : a < b
  · rw [if_pos x, if_pos (h1.1 x)]
  · rw [if_neg x, if_neg (fun y => x (h1.2 y))]
    by_cases z : a = b
    · rw [if_pos z, if_pos (h2.1 z)]
    · rw [if_neg z, if_neg (fun y => z (h2.2 y))]
theorem sgn_mono {f : Nat → Nat} (hf : ∀ {a b}, a < b ↔ f a < f b) (h0 : f 0 = 0) (s t : Bool) (a b : Nat) :
    compare (sgn s (f a)) (sgn t (f b)) = compare (sgn s a) (sgn t b) := by
  have e : ∀ {a b}, a = b ↔ f a = f b := fun {a b} => ⟨fun h => by rw [h], fun h => by
    rcases Nat.lt_trichotomy a b with h1 | h1 | h1
    · have := hf.1 h1; omega
    · exact h1
    · have := hf.1 h1; omega⟩
  have l1 := @hf a b
  have l2 := @hf b a
  have l3 := @hf 0 a
  have l4 := @hf 0 b
  have l5 := @e a b
  rw [h0] at l3 l4
  cases s <;> cases t <;> (refine compare_congr ?_ ?_) <;> simp [sgn] <;> omega
theorem compare_scale (s t : Bool) (a b P : Nat) (hP : 0 < P) : compare (sgn s (a * P)) (sgn t (b * P)) = compare (sgn s a) (sgn t b) :=
  sgn_mono (f := fun x => x * P) (fun {_ _} => (Nat.mul_lt_mul_right hP).symm) (Nat.zero_mul _) s t a b
theorem mag_zero : mag 0 = 0 := rfl
theorem compare_mag (s t : Bool) (a b : Nat) : compare (sgn s (mag a)) (sgn t (mag b)) = compare (sgn s a) (sgn t b) :=
  sgn_mono (f := mag) (fun {_ _} => mag_lt_iff.symm) mag_zero s t a b
theorem compare_inf (s t : Bool) (n : Nat) (h : 0 < n) : compare (sgn s n) (sgn t n) = compare t.toNat s.toNat := by
  cases s <;> cases t <;> simp only [sgn, Bool.toNat_true, Bool.toNat_false, if_true, Bool.false_eq_true, if_false]
  · rw [Int.compare_eq_eq.2 rfl]; rfl
  · rw [Int.compare_eq_gt.2 (by omega)]; rfl
  · rw [Int.compare_eq_lt.2 (by omega)]; rfl
  · rw [Int.compare_eq_eq.2 rfl]; rfl
theorem compare_inf_left (s t : Bool) (n m : Nat) (h : m < n) : compare (sgn s n) (sgn t m) = if s then .lt else .gt := by
  cases s <;> cases t <;> simp only [sgn, if_true, Bool.false_eq_true, if_false]
  · exact Int.compare_eq_gt.2 (by omega)
  · exact Int.compare_eq_gt.2 (by omega)
  · exact Int.compare_eq_lt.2 (by omega)
  · exact Int.compare_eq_lt.2 (by omega)
theorem compare_inf_right (s t : Bool) (n m : Nat) (h : n < m) : compare (sgn s n) (sgn t m) = if t then .gt else .lt := by
  cases s <;> cases t <;> simp only [sgn, if_true, Bool.false_eq_true, if_false]
  · exact Int.compare_eq_lt.2 (by omega)
  · exact Int.compare_eq_gt.2 (by omega)
  · exact Int.compare_eq_lt.2 (by omega)
  · exact Int.compare_eq_gt.2 (by omega)
theorem order_rank {x y : Nat} (hx : nanB x = false) (hy : nanB y = false) : D.order x y = some (compare (sgn (sg x) (rung x)) (sgn (sg y) (rung y))) := by
  have hx' := notnan_le hx
  have hy' := notnan_le hy
  unfold Format.order
  by_cases h1 : rung x = 9218868437227405312
  · rw [read_inf h1, h1]
    by_cases h2 : rung y = 9218868437227405312
    · rw [read_inf h2, h2]
      unfold Datum.order
      rw [compare_inf _ _ _ (by omega)]
    · obtain ⟨m, p, e, _⟩ := read_fin (x := y) (by omega)
      rw [e]; unfold Datum.order
      have : rung y < 9218868437227405312 := by omega
      rw [compare_inf_left _ _ _ _ this]
  · obtain ⟨m, p, e, hp, hp2, hm, hv⟩ := read_fin (x := x) (by omega)
    rw [e]
    by_cases h2 : rung y = 9218868437227405312
    · rw [read_inf h2, h2]; unfold Datum.order
      have : rung x < 9218868437227405312 := by omega
      rw [compare_inf_right _ _ _ _ this]
    · obtain ⟨n, q, e2, hq, hq2, hn, hw⟩ := read_fin (x := y) (by omega)
      rw [e2]; unfold Datum.order
      dsimp only
      rw [signed_eq, signed_eq, ← compare_mag (sg x) (sg y) (rung x) (rung y), ← hv, ← hw]
      rw [← compare_scale _ _ _ _ (2 ^ (min p q + 1074).toNat) (pow_pos' _)]
      congr 3
      · rw [Nat.mul_assoc, ← Nat.pow_add]; congr 2; omega
      · rw [Nat.mul_assoc, ← Nat.pow_add]; congr 2; omega
end Flo
-- with Mf
namespace Flo
open Ieee
set_option linter.unusedVariables false
set_option linter.unusedSimpArgs false

/-- How many of the least numbers make 1. -/
def U : Nat := 2 ^ 1074
theorem U_eq {k : Nat} (h : k = 1074) : U = 2 ^ k := by subst h; rfl
theorem U_pos : 0 < U := by
  obtain ⟨k, hk⟩ : ∃ k, k = 1074 := ⟨_, rfl⟩
  rw [U_eq hk]; exact pow_pos' k
/-- The number cut towards 0, without its sign. -/
def tr (x : Nat) : Nat := mag (rung x) / U
theorem toInt_num (s : Bool) (m : Nat) (p : Int) (hp : -1074 ≤ p) : (Datum.number s m p).toInt .zero = some (sgn s (m * 2 ^ (p + 1074).toNat / U)) := by
  unfold Datum.toInt Datum.integral
  dsimp only
  rw [cut_zero, signed_eq, Nat.pow_zero, Nat.mul_one, Nat.shiftLeft_eq]
  congr 2
  obtain ⟨k, hk⟩ : ∃ k : Nat, k = 1074 := ⟨_, rfl⟩
  rw [U_eq hk]
  by_cases h : 0 ≤ p
  · rw [show (-p).toNat = 0 by omega, Nat.pow_zero, Nat.div_one, show (p + 1074).toNat = p.toNat + k by omega, Nat.pow_add, ← Nat.mul_assoc, Nat.mul_div_cancel _ (pow_pos' k)]
  · rw [show p.toNat = 0 by omega, Nat.pow_zero, Nat.mul_one]
    have e : 2 ^ k = 2 ^ (-p).toNat * 2 ^ (p + 1074).toNat := by rw [← Nat.pow_add]; congr 1; omega
    rw [e, Nat.mul_div_mul_right _ _ (pow_pos' _)]
theorem toInt_fin {x : Nat} (h : rung x < 9218868437227405312) : (D.read x).toInt .zero = some (sgn (sg x) (tr x)) := by
  obtain ⟨m, p, e, hp, _, _, hv⟩ := read_fin h
  rw [e, toInt_num _ _ _ hp, hv]; rfl
theorem mag_big : mag 4890909195324358656 = 9223372036854775808 * U := by
  obtain ⟨k, hk⟩ : ∃ k : Nat, k = 1074 := ⟨_, rfl⟩
  rw [U_eq hk]
  unfold mag
  rw [if_neg (by omega), show 4890909195324358656 / 4503599627370496 - 1 = 11 + k by omega, show 4890909195324358656 % 4503599627370496 = 0 by omega, Nat.add_zero, Nat.pow_add, ← Nat.mul_assoc]
theorem tr_lt {x : Nat} (h : rung x < 4890909195324358656) : tr x < 9223372036854775808 := by
  unfold tr
  rw [Nat.div_lt_iff_lt_mul U_pos, ← mag_big]; exact mag_lt h
theorem tr_big {x : Nat} (h : rung x = 4890909195324358656) : tr x = 9223372036854775808 := by
  unfold tr; rw [h, mag_big, Nat.mul_div_cancel _ U_pos]
theorem tr_ge {x : Nat} (h : 4890909195324358656 ≤ rung x) : 9223372036854775808 ≤ tr x := by
  unfold tr
  rw [Nat.le_div_iff_mul_le U_pos, ← mag_big]; exact mag_le h
/-- What the program makes of a number: cut towards 0, never beyond the bounds. -/
def fToInt (x : Nat) : Int :=
  if nanB x then 0 else if sgn (sg x) (rung x) ≥ 4890909195324358656 then 9223372036854775807
  else if sgn (sg x) (rung x) < -4890909195324358656 then -9223372036854775808 else sgn (sg x) (tr x)
theorem order_big {x : Nat} (hx : nanB x = false) : D.order x 4890909195324358656 = some (compare (sgn (sg x) (rung x)) 4890909195324358656) := order_rank hx rfl
theorem order_sbig {x : Nat} (hx : nanB x = false) : D.order x 14114281232179134464 = some (compare (sgn (sg x) (rung x)) (-4890909195324358656)) := order_rank hx rfl
theorem ge_test (x : Nat) (hx : nanB x = false) : (D.order x 4890909195324358656 == some .gt || D.order x 4890909195324358656 == some .eq) = decide (sgn (sg x) (rung x) ≥ 4890909195324358656) := by
  rw [order_big hx]
  generalize sgn (sg x) (rung x) = v
  rcases Int.lt_trichotomy v 4890909195324358656 with h | h | h
  · rw [Int.compare_eq_lt.2 h]; symm; apply decide_eq_false; omega
  · rw [Int.compare_eq_eq.2 h]; symm; apply decide_eq_true; omega
  · rw [Int.compare_eq_gt.2 h]; symm; apply decide_eq_true; omega
theorem lt_test (x : Nat) (hx : nanB x = false) : (D.order x 14114281232179134464 == some .lt) = decide (sgn (sg x) (rung x) < -4890909195324358656) := by
  rw [order_sbig hx]
  generalize sgn (sg x) (rung x) = v
  rcases Int.lt_trichotomy v (-4890909195324358656) with h | h | h
  · rw [Int.compare_eq_lt.2 h]; symm; apply decide_eq_true; omega
  · rw [Int.compare_eq_eq.2 h]; symm; apply decide_eq_false; omega
  · rw [Int.compare_eq_gt.2 h]; symm; apply decide_eq_false; omega
theorem toInt_val (x : Nat) (h1 : ¬ sgn (sg x) (rung x) ≥ 4890909195324358656) (h2 : ¬ sgn (sg x) (rung x) < -4890909195324358656) :
    Go.floatToIntVal .f64 x .i64 = some (sgn (sg x) (tr x)) := by
  have hr : rung x ≤ 4890909195324358656 := by unfold sgn at h1 h2; split at h1 <;> simp_all <;> omega
  have hd : (Go.FloatKind.f64.decode x).toInt .zero = some (sgn (sg x) (tr x)) := toInt_fin (by omega)
  unfold Go.floatToIntVal
  rw [hd]
  have hb : (-9223372036854775808 : Int) ≤ sgn (sg x) (tr x) ∧ sgn (sg x) (tr x) ≤ 9223372036854775807 := by
    rcases Nat.lt_or_eq_of_le hr with h | h
    · have := tr_lt h
      unfold sgn; split <;> omega
    · have := tr_big h
      unfold sgn at h1 h2 ⊢
      rw [this]
      split at h1 <;> simp_all
  exact if_pos hb
end Flo
-- with Mg
namespace Flo
open Ieee
set_option linter.unusedVariables false
set_option linter.unusedSimpArgs false

/-- The digits, and the place of the last one, as the word has them. -/
def sigm (b : Nat) : Nat := if rung b < 4503599627370496 then rung b else 4503599627370496 + rung b % 4503599627370496
def plc (b : Nat) : Int := if rung b < 4503599627370496 then -1074 else (rung b / 4503599627370496 : Nat) - 1075
def shf (b : Nat) : Nat := if sigm b = 0 then 0 else 52 - (sigm b).log2
def oM (b : Nat) : Nat := sigm b * 2 ^ shf b
def oE (b : Nat) : Int := plc b - shf b
def OfInv (m M j : Nat) : Prop := M = m * 2 ^ j ∧ (m ≠ 0 → j + m.log2 ≤ 52) ∧ (m = 0 → j = 0) ∧ j ≤ 52 ∧ M < 9007199254740992
theorem sigm_lt (b : Nat) : sigm b < 9007199254740992 := by unfold sigm; split <;> omega
theorem ofInv_zero (b : Nat) : OfInv (sigm b) (sigm b) 0 := by
  refine ⟨by simp, fun h => ?_, fun _ => rfl, by omega, sigm_lt b⟩
  have : (sigm b).log2 < 53 := (Nat.log2_lt h).2 (sigm_lt b)
  omega
theorem ofInv_step {m M j : Nat} (h : OfInv m M j) (h0 : M ≠ 0) (h1 : M < 4503599627370496) : OfInv m (M * 2) (j + 1) := by
  obtain ⟨h2, h3, h4, h5, h6⟩ := h
  have hm : m ≠ 0 := by intro e; rw [h2, e, Nat.zero_mul] at h0; exact h0 rfl
  have hl : m.log2 + j < 52 := by
    rw [← log2_mul_pow hm j, ← h2]; exact (Nat.log2_lt h0).2 h1
  exact ⟨by rw [h2, Nat.pow_succ, Nat.mul_assoc], fun _ => by omega, fun e => absurd e hm, by omega, by omega⟩
theorem ofInv_end {b M j : Nat} (h : OfInv (sigm b) M j) (h0 : M = 0 ∨ 4503599627370496 ≤ M) : M = oM b ∧ j = shf b := by
  obtain ⟨h2, h3, h4, h5, h6⟩ := h
  have hj : j = shf b := by
    unfold shf
    by_cases hm : sigm b = 0
    · rw [if_pos hm]; exact h4 hm
    · rw [if_neg hm]
      have hM : M ≠ 0 := by rw [h2]; exact Nat.mul_ne_zero hm (by have := pow_pos' j; omega)
      have h7 : 52 ≤ M.log2 := (Nat.le_log2 hM).2 (by omega)
      rw [h2, log2_mul_pow hm] at h7
      have := h3 hm
      omega
  exact ⟨by rw [h2, hj]; rfl, hj⟩
theorem oM_lt (b : Nat) : oM b < 9007199254740992 := by
  unfold oM shf
  split
  · simp; exact sigm_lt b
  · rename_i h
    have h1 := lt_log2 (sigm b)
    have : (sigm b).log2 < 53 := (Nat.log2_lt h).2 (sigm_lt b)
    have h2 : (2:Nat) ^ ((sigm b).log2 + 1) * 2 ^ (52 - (sigm b).log2) = 9007199254740992 := by
      rw [← Nat.pow_add, show (sigm b).log2 + 1 + (52 - (sigm b).log2) = 53 by omega]
    rw [← h2]
    exact Nat.mul_lt_mul_of_pos_right h1 (pow_pos' _)
theorem sigm_zero (b : Nat) : sigm b = 0 ↔ rung b = 0 := by unfold sigm; split <;> omega
theorem oM_zero {b : Nat} (h : rung b = 0) : oM b = 0 := by unfold oM; rw [(sigm_zero b).2 h, Nat.zero_mul]
theorem oM_ge {b : Nat} (h : rung b ≠ 0) : 4503599627370496 ≤ oM b := by
  have h0 : sigm b ≠ 0 := fun e => h ((sigm_zero b).1 e)
  unfold oM shf
  rw [if_neg h0]
  have h1 := log2_le h0
  have : (sigm b).log2 < 53 := (Nat.log2_lt h0).2 (sigm_lt b)
  have h2 : (2:Nat) ^ ((sigm b).log2) * 2 ^ (52 - (sigm b).log2) = 4503599627370496 := by
    rw [← Nat.pow_add, show (sigm b).log2 + (52 - (sigm b).log2) = 52 by omega]
  rw [← h2]
  exact Nat.mul_le_mul_right _ h1
theorem oM_eq_zero (b : Nat) : oM b = 0 ↔ rung b = 0 := by
  constructor
  · intro h; refine Decidable.byContradiction fun h0 => ?_
    have := oM_ge h0; omega
  · exact oM_zero
theorem shf_le (b : Nat) : shf b ≤ 52 := by unfold shf; split <;> omega
theorem oE_bounds {b : Nat} (h : rung b < 9218868437227405312) : -1126 ≤ oE b ∧ oE b ≤ 971 := by
  have h1 := shf_le b
  unfold oE plc; split <;> omega
/-- The same number, in units of the least one by 2^52. -/
theorem oM_val {b : Nat} (h : rung b < 9218868437227405312) : oM b * 2 ^ (oE b + 1126).toNat = mag (rung b) * 4503599627370496 := by
  have h1 := shf_le b
  have hp : -1074 ≤ plc b := by unfold plc; split <;> omega
  have hm : mag (rung b) = sigm b * 2 ^ (plc b + 1074).toNat := by
    unfold mag sigm plc
    by_cases h2 : rung b < 4503599627370496
    · rw [if_pos h2, if_pos h2, if_pos h2]; simp
    · rw [if_neg h2, if_neg h2, if_neg h2]; congr 2; omega
  unfold oM
  rw [hm, show (4503599627370496 : Nat) = 2 ^ 52 from rfl, Nat.mul_assoc, Nat.mul_assoc, ← Nat.pow_add, ← Nat.pow_add]
  congr 2
  unfold oE; omega
end Flo
-- with Mh
namespace Flo
open Ieee
set_option linter.unusedVariables false
set_option linter.unusedSimpArgs false

/-- The digits that are kept, of m, where d are dropped (or, below 0, added). -/
def kept (m : Nat) (d : Int) : Nat := rne (m * 2 ^ (-d).toNat) d.toNat
theorem kept_neg (m : Nat) {d : Int} (h : d ≤ 0) : kept m d = m * 2 ^ (-d).toNat := by
  unfold kept; rw [show d.toNat = 0 by omega, rne_zero]
theorem kept_pos (m : Nat) {d : Int} (h : 0 ≤ d) : kept m d = rne m d.toNat := by
  unfold kept; rw [show (-d).toNat = 0 by omega, Nat.pow_zero, Nat.mul_one]
theorem nearest_kept (neg : Bool) (m : Nat) (e d : Int) (hm : m ≠ 0) (hd : max ((sz m : Int) - 53) (-1074 - e) = d) :
    D.nearest neg m e = D.word neg (min ((e + d + 1074).toNat * 4503599627370496 + kept m d) 9218868437227405312) := by
  unfold Format.nearest
  rw [if_neg hm]
  dsimp only
  rw [d_least, d_bin, d_inf, cut_even]
  have hs : sz m = m.log2 + 1 := by unfold sz; rw [if_neg hm]
  rw [hs] at hd
  show D.word neg (min ((max (e + (m.log2 : Int) - (52 : Nat)) (-1074) - -1074).toNat * 4503599627370496 + rne (m <<< (e - max (e + (m.log2 : Int) - (52 : Nat)) (-1074)).toNat) (max (e + (m.log2 : Int) - (52 : Nat)) (-1074) - e).toNat) 9218868437227405312) = _
  have hl : max (e + (m.log2 : Int) - (52 : Nat)) (-1074) = e + d := by omega
  rw [hl, Nat.shiftLeft_eq]
  unfold kept
  rw [show (e + d - -1074).toNat = (e + d + 1074).toNat by omega, show (e - (e + d)).toNat = (-d).toNat by omega, show (e + d - e).toNat = d.toNat by omega]
theorem kept_le (m : Nat) (e d : Int) (hm : m ≠ 0) (hd : max ((sz m : Int) - 53) (-1074 - e) = d) : kept m d ≤ 9007199254740992 := by
  have hs : sz m = m.log2 + 1 := by unfold sz; rw [if_neg hm]
  rw [hs] at hd
  have h1 := lt_log2 m
  by_cases h : 0 ≤ d
  · rw [kept_pos m h]
    have h2 := rne_hi m d.toNat
    have h3 : m / 2 ^ d.toNat < 2 ^ 53 := by
      rw [Nat.div_lt_iff_lt_mul (pow_pos' _), ← Nat.pow_add]
      exact Nat.lt_of_lt_of_le h1 (Nat.pow_le_pow_right (by omega) (by omega))
    omega
  · rw [kept_neg m (by omega)]
    have h2 : m * 2 ^ (-d).toNat < 2 ^ (m.log2 + 1) * 2 ^ (-d).toNat := Nat.mul_lt_mul_of_pos_right h1 (pow_pos' _)
    rw [← Nat.pow_add] at h2
    have h3 : 2 ^ (m.log2 + 1 + (-d).toNat) ≤ 2 ^ 53 := Nat.pow_le_pow_right (by omega) (by omega)
    omega
theorem kept_ge (m : Nat) (e d : Int) (hm : m ≠ 0) (hd : max ((sz m : Int) - 53) (-1074 - e) = d) (he : e + d ≠ -1074) : 4503599627370496 ≤ kept m d := by
  have hs : sz m = m.log2 + 1 := by unfold sz; rw [if_neg hm]
  rw [hs] at hd
  have h1 := log2_le hm
  by_cases h : 0 ≤ d
  · rw [kept_pos m h]
    refine Nat.le_trans ?_ (rne_lo m d.toNat)
    rw [Nat.le_div_iff_mul_le (pow_pos' _), show (4503599627370496 : Nat) = 2 ^ 52 from rfl, ← Nat.pow_add]
    exact Nat.le_trans (Nat.pow_le_pow_right (by omega) (by omega)) h1
  · rw [kept_neg m (by omega)]
    refine Nat.le_trans ?_ (Nat.mul_le_mul_right _ h1)
    rw [← Nat.pow_add, show (4503599627370496 : Nat) = 2 ^ 52 from rfl]
    exact Nat.pow_le_pow_right (by omega) (by omega)
theorem kept_lt (m : Nat) (e d : Int) (hm : m ≠ 0) (hd : max ((sz m : Int) - 53) (-1074 - e) = d) : -1074 ≤ e + d := by omega
/-- What stands behind the digits: a carry, the bounds. -/
def tailR (k : Nat) (x : Int) : Nat :=
  if k = 9007199254740992 then (if x + 1 > 971 then 9218868437227405312 else (x + 1076).toNat * 4503599627370496)
  else if x > 971 then 9218868437227405312 else if k < 4503599627370496 then k else (x + 1075).toNat * 4503599627370496 + k % 4503599627370496
theorem tailR_eq {k : Nat} {x : Int} (h1 : k ≤ 9007199254740992) (h2 : x ≠ -1074 → 4503599627370496 ≤ k) (h3 : -1074 ≤ x) :
    min ((x + 1074).toNat * 4503599627370496 + k) 9218868437227405312 = tailR k x := by
  unfold tailR
  by_cases e1 : k = 9007199254740992
  · rw [if_pos e1]
    split <;> omega
  · rw [if_neg e1]
    split
    · have := h2 (by omega); omega
    · split
      · have : x = -1074 := Decidable.byContradiction fun h => by have := h2 h; omega
        omega
      · omega
theorem nearest_tail (neg : Bool) (m : Nat) (e d : Int) (hm : m ≠ 0) (hd : max ((sz m : Int) - 53) (-1074 - e) = d) :
    D.nearest neg m e = D.word neg (tailR (kept m d) (e + d)) := by
  rw [nearest_kept neg m e d hm hd, tailR_eq (kept_le m e d hm hd) (kept_ge m e d hm hd) (kept_lt m e d hm hd)]
theorem nearest_zero (neg : Bool) (e : Int) : D.nearest neg 0 e = D.word neg 0 := rfl
theorem nearest_far (neg : Bool) (m : Nat) (e d : Int) (hm : m ≠ 0) (h : m < 18446744073709551616) (hd : max ((sz m : Int) - 53) (-1074 - e) = d) (hf : 64 < d) : D.nearest neg m e = D.word neg 0 := by
  have h4 := sz_le h
  rw [nearest_kept neg m e d hm hd, kept_pos m (by omega)]
  have h1 : rne m d.toNat = 0 := by
    refine rne_zero_of_lt ?_
    have : 2 ^ 65 ≤ 2 ^ d.toNat := Nat.pow_le_pow_right (by omega) (by omega)
    omega
  rw [h1, show (e + d + 1074).toNat = 0 by omega]; rfl
end Flo
-- with Mi
namespace Flo
open Ieee
set_option linter.unusedVariables false
set_option linter.unusedSimpArgs false

theorem xor_low {c : Nat} (h : c < 9223372036854775808) : c ^^^ 9223372036854775808 = 9223372036854775808 + c := by
  apply Nat.eq_of_testBit_eq
  intro i
  rw [Nat.testBit_xor, show (9223372036854775808 : Nat) = 2 ^ 63 from rfl, Nat.testBit_two_pow]
  rcases Nat.lt_trichotomy i 63 with h1 | h1 | h1
  · rw [Nat.testBit_two_pow_add_gt h1, decide_eq_false (by omega), Bool.xor_false]
  · subst h1; rw [Nat.testBit_two_pow_add_eq]; simp
  · have e1 : c.testBit i = false := Nat.testBit_lt_two_pow (Nat.lt_of_lt_of_le h (Nat.pow_le_pow_right (n := 2) (by omega) (by omega : 63 ≤ i)))
    have e2 : (2 ^ 63 + c).testBit i = false := by
      refine Nat.testBit_lt_two_pow (Nat.lt_of_lt_of_le (?_ : 2 ^ 63 + c < 2 ^ 64) (Nat.pow_le_pow_right (by omega) (by omega)))
      omega
    rw [e1, e2]; simp; omega
theorem xor_high {c : Nat} (h : c < 9223372036854775808) : (9223372036854775808 + c) ^^^ 9223372036854775808 = c := by
  rw [← xor_low h, Nat.xor_assoc, Nat.xor_self, Nat.xor_zero]
theorem neg_word {b : Nat} (h : b < 18446744073709551616) : b ^^^ 9223372036854775808 < 18446744073709551616 ∧ rung (b ^^^ 9223372036854775808) = rung b ∧ sg (b ^^^ 9223372036854775808) = !(sg b) := by
  by_cases h1 : b < 9223372036854775808
  · rw [xor_low h1]
    have e1 : sg b = false := by unfold sg; rw [beq_eq_false_iff_ne]; omega
    have e2 : sg (9223372036854775808 + b) = true := by unfold sg; rw [beq_iff_eq]; omega
    refine ⟨by omega, by unfold rung; omega, by rw [e1, e2]; rfl⟩
  · obtain ⟨c, rfl⟩ : ∃ c, b = 9223372036854775808 + c := ⟨b - 9223372036854775808, by omega⟩
    rw [xor_high (by omega)]
    have e1 : sg c = false := by unfold sg; rw [beq_eq_false_iff_ne]; omega
    have e2 : sg (9223372036854775808 + c) = true := by unfold sg; rw [beq_iff_eq]; omega
    refine ⟨by omega, by unfold rung; omega, by rw [e1, e2]; rfl⟩
theorem read_rs (x : Nat) : D.read x =
    if rung x < 4503599627370496 then .number (sg x) (rung x) (-1074)
    else if rung x < 9218868437227405312 then .number (sg x) (4503599627370496 + rung x % 4503599627370496) (-1074 + (rung x / 4503599627370496 - 1 : Nat))
    else if rung x = 9218868437227405312 then .infinity (sg x) else .nan (sg x) (rung x - 9218868437227405312) := read_eq x
theorem read_neg {b : Nat} (h : b < 18446744073709551616) : D.read (b ^^^ 9223372036854775808) = (D.read b).opposite := by
  obtain ⟨_, h2, h3⟩ := neg_word h
  rw [read_rs, h2, h3, read_rs b]
  split
  · rfl
  · split
    · rfl
    · split <;> rfl
theorem sub_neg {a b : Nat} (h : b < 18446744073709551616) : fSub a b = fAdd a (b ^^^ 9223372036854775808) := by
  unfold fSub fAdd Format.sub Format.add
  rw [read_neg h]
theorem nan_bad {a b : Nat} (h : nanB a = true ∨ nanB b = true) : fAdd a b = NaN ∧ fSub a b = NaN ∧ fMul a b = NaN ∧ fDiv a b = NaN ∧ fMin a b = NaN ∧ fMax a b = NaN := by
  have hm : (nanB a || nanB b) = true := by rcases h with h | h <;> rw [h] <;> simp
  refine ⟨?_, ?_, ?_, ?_, by unfold fMin; rw [if_pos hm], by unfold fMax; rw [if_pos hm]⟩
  all_goals
    first | unfold fAdd Format.add | unfold fSub Format.sub | unfold fMul Format.mul | unfold fDiv Format.div
    rcases h with h | h
    · obtain ⟨s, t, e⟩ := read_nan h
      rw [e]; rfl
    · obtain ⟨s, t, e⟩ := read_nan h
      rw [e]; cases D.read a <;> rfl
end Flo
-- with Mj
namespace Flo
open Ieee
set_option linter.unusedVariables false
set_option linter.unusedSimpArgs false

def rk (x : Nat) : Int := sgn (sg x) (rung x)
def rLess (x y : Nat) : Bool := !nanB x && !nanB y && decide (rk x < rk y)
def rEqual (x y : Nat) : Bool := !nanB x && !nanB y && decide (rk x = rk y)
theorem order_less (x y : Nat) : (D.order x y == some .lt) = rLess x y := by
  unfold rLess
  rcases hx : nanB x with _ | _
  · rcases hy : nanB y with _ | _
    · rw [order_rank hx hy]
      show (some (compare (rk x) (rk y)) == some .lt) = _
      generalize rk x = a
      generalize rk y = b
      rcases Int.lt_trichotomy a b with h | h | h
      · rw [Int.compare_eq_lt.2 h, decide_eq_true h]; rfl
      · rw [Int.compare_eq_eq.2 h, decide_eq_false (by omega)]; rfl
      · rw [Int.compare_eq_gt.2 h, decide_eq_false (by omega)]; rfl
    · rw [order_nan_right hy]; rfl
  · rw [order_nan_left hx]; rfl
theorem order_equal (x y : Nat) : (D.order x y == some .eq) = rEqual x y := by
  unfold rEqual
  rcases hx : nanB x with _ | _
  · rcases hy : nanB y with _ | _
    · rw [order_rank hx hy]
      show (some (compare (rk x) (rk y)) == some .eq) = _
      generalize rk x = a
      generalize rk y = b
      rcases Int.lt_trichotomy a b with h | h | h
      · rw [Int.compare_eq_lt.2 h, decide_eq_false (by omega)]; rfl
      · rw [Int.compare_eq_eq.2 h, decide_eq_true h]; rfl
      · rw [Int.compare_eq_gt.2 h, decide_eq_false (by omega)]; rfl
    · rw [order_nan_right hy]; rfl
  · rw [order_nan_left hx]; rfl
def rMin (x y : Nat) : Nat := if nanB x || nanB y then NaN else if rLess y x || (rEqual x y && (y / 9223372036854775808 == 1)) then y else x
def rMax (x y : Nat) : Nat := if nanB x || nanB y then NaN else if rLess x y || (rEqual x y && (y / 9223372036854775808 == 0)) then y else x
theorem rk_zero {x y : Nat} (hx : x < 18446744073709551616) (hy : y < 18446744073709551616) (h : rk x = rk y) : x = y ∨ (rung x = 0 ∧ rung y = 0) := by
  have hx' : x = (if sg x then 9223372036854775808 else 0) + rung x := by unfold sg rung; split <;> rename_i h <;> simp at h <;> omega
  have hy' : y = (if sg y then 9223372036854775808 else 0) + rung y := by unfold sg rung; split <;> rename_i h <;> simp at h <;> omega
  unfold rk sgn at h
  generalize rung x = p at *
  generalize rung y = q at *
  cases hs : sg x <;> cases ht : sg y <;> rw [hs, ht] at h <;> rw [hs] at hx' <;> rw [ht] at hy' <;> simp at h hx' hy' <;> omega
theorem min_eq {x y : Nat} (hx : x < 18446744073709551616) (hy : y < 18446744073709551616) : fMin x y = rMin x y := by
  unfold fMin rMin
  rcases hn : (nanB x || nanB y) with _ | _
  · rw [if_neg Bool.false_ne_true, if_neg Bool.false_ne_true]
    have h1 : nanB x = false ∧ nanB y = false := by simpa using hn
    unfold below
    rw [order_equal, order_less]
    unfold rLess rEqual
    rw [h1.1, h1.2]
    simp only [Bool.not_false, Bool.true_and]
    rcases Int.lt_trichotomy (rk x) (rk y) with h | h | h
    · simp [h, show ¬ rk x = rk y by omega, show ¬ rk y < rk x by omega, show ¬ rk y = rk x by omega]
    · have hz := rk_zero hx hy h
      by_cases h2 : x = y
      · subst h2; simp
      · have hr : rung x = 0 ∧ rung y = 0 := by rcases hz with e | e; exact absurd e h2; exact e
        unfold rung at hr
        by_cases h3 : y < x
        · simp [h, h3]; omega
        · simp [h, h3]; omega
    · simp [h, show ¬ rk x = rk y by omega, show ¬ rk x < rk y by omega]
  · rfl
theorem max_eq {x y : Nat} (hx : x < 18446744073709551616) (hy : y < 18446744073709551616) : fMax x y = rMax x y := by
  unfold fMax rMax
  rcases hn : (nanB x || nanB y) with _ | _
  · rw [if_neg Bool.false_ne_true, if_neg Bool.false_ne_true]
    have h1 : nanB x = false ∧ nanB y = false := by simpa using hn
    unfold below
    rw [order_equal, order_less]
    unfold rLess rEqual
    rw [h1.1, h1.2]
    simp only [Bool.not_false, Bool.true_and]
    rcases Int.lt_trichotomy (rk x) (rk y) with h | h | h
    · simp [h, show ¬ rk x = rk y by omega, show ¬ rk y < rk x by omega, show ¬ rk y = rk x by omega]
    · have hz := rk_zero hx hy h
      by_cases h2 : x = y
      · subst h2; simp
      · have hr : rung x = 0 ∧ rung y = 0 := by rcases hz with e | e; exact absurd e h2; exact e
        unfold rung at hr
        by_cases h3 : y < x
        · simp [h, h3]; omega
        · simp [h, h3]; omega
    · simp [h, show ¬ rk x = rk y by omega, show ¬ rk x < rk y by omega]
  · rfl
end Flo
-- with Mk
namespace Flo
open Ieee
set_option linter.unusedVariables false
set_option linter.unusedSimpArgs false

theorem toInt_small {x : Nat} (h : rung x < 4890909195324358656) : fToInt x = sgn (sg x) (tr x) := by
  unfold fToInt
  have hn : nanB x = false := by unfold nanB; apply decide_eq_false; unfold rung at h; omega
  rw [hn, if_neg (by simp)]
  rw [if_neg (by unfold sgn; split <;> omega), if_neg (by unfold sgn; split <;> omega)]
theorem toInt_big {x : Nat} (hn : nanB x = false) (h : 4890909195324358656 ≤ rung x) : fToInt x = if sg x then -9223372036854775808 else 9223372036854775807 := by
  unfold fToInt
  rw [hn, if_neg (by simp)]
  cases hs : sg x
  · rw [if_pos (by unfold sgn; simp; omega)]; rfl
  · rw [if_neg (by unfold sgn; simp; omega)]
    by_cases h1 : rung x = 4890909195324358656
    · rw [if_neg (by unfold sgn; simp; omega), tr_big h1]; rfl
    · rw [if_pos (by unfold sgn; simp; omega)]; rfl
theorem tr_val {x : Nat} (h : rung x < 9218868437227405312) : tr x = oM x * 2 ^ (oE x + 1126).toNat / 2 ^ (1126 : Int).toNat := by
  obtain ⟨k, hk⟩ : ∃ k : Nat, k = 1074 := ⟨_, rfl⟩
  unfold tr
  rw [oM_val h, U_eq hk, show (1126 : Int).toNat = k + 52 by omega, Nat.pow_add, show (4503599627370496 : Nat) = 2 ^ 52 from rfl, Nat.mul_div_mul_right _ _ (pow_pos' 52)]
theorem tr_shr {x : Nat} (h : rung x < 9218868437227405312) {d : Nat} (hE : oE x = -(d : Int)) : tr x = oM x / 2 ^ d := by
  have hb := oE_bounds h
  rw [tr_val h, hE]
  have e : (2 : Nat) ^ (1126 : Int).toNat = 2 ^ d * 2 ^ (-(d : Int) + 1126).toNat := by rw [← Nat.pow_add]; congr 1; omega
  rw [e, Nat.mul_div_mul_right _ _ (pow_pos' _)]
theorem tr_shl {x : Nat} (h : rung x < 9218868437227405312) {d : Nat} (hE : oE x = (d : Int)) : tr x = oM x * 2 ^ d := by
  rw [tr_val h, hE]
  have e : (2 : Nat) ^ ((d : Int) + 1126).toNat = 2 ^ d * 2 ^ (1126 : Int).toNat := by rw [← Nat.pow_add]; exact congrArg _ (by omega)
  rw [e, ← Nat.mul_assoc, Nat.mul_div_cancel _ (pow_pos' _)]
theorem rung_small_of_tr {x : Nat} (h : tr x < 9223372036854775808) : rung x < 4890909195324358656 :=
  Nat.lt_of_not_le fun h' => by have := tr_ge h'; omega
theorem far_small {x : Nat} (h : rung x < 9218868437227405312) (hE : oE x < -53) : tr x = 0 := by
  have hb := oE_bounds h
  obtain ⟨d, hd⟩ : ∃ d : Nat, oE x = -(d : Int) := ⟨(-oE x).toNat, by omega⟩
  rw [tr_shr h hd]
  refine Nat.div_eq_of_lt (Nat.lt_of_lt_of_le (oM_lt x) ?_)
  rw [show (9007199254740992 : Nat) = 2 ^ 53 from rfl]
  exact Nat.pow_le_pow_right (by omega) (by omega)
theorem far_big {x : Nat} (h : rung x < 9218868437227405312) (h0 : oM x ≠ 0) (hE : 10 < oE x) : 4890909195324358656 ≤ rung x := by
  refine Nat.le_of_not_lt fun h' => ?_
  have h1 := tr_lt h'
  have hb := oE_bounds h
  obtain ⟨d, hd⟩ : ∃ d : Nat, oE x = (d : Int) := ⟨(oE x).toNat, by omega⟩
  rw [tr_shl h hd] at h1
  have h2 : 4503599627370496 ≤ oM x := oM_ge (fun e => h0 (oM_zero e))
  have h3 : 2 ^ 11 ≤ 2 ^ d := Nat.pow_le_pow_right (by omega) (by omega)
  have h4 := Nat.mul_le_mul h2 h3
  omega
end Flo
-- with Ml
namespace Flo
open Ieee
set_option linter.unusedVariables false
set_option linter.unusedSimpArgs false

/-- n by 2^d, the last digit 1 if anything was dropped. -/
def ro (n d : Nat) : Nat := if n % 2 ^ d = 0 then n / 2 ^ d else n / 2 ^ d / 2 * 2 + 1
theorem or_one (q : Nat) : q ||| 1 = q / 2 * 2 + 1 := by
  have h : q / 2 * 2 ||| 1 = q / 2 * 2 + 1 := by
    rw [show q / 2 * 2 = 2 ^ 1 * (q / 2) by omega, ← Nat.two_pow_add_eq_or_of_lt (by omega)]
  rcases (by omega : q % 2 = 0 ∨ q % 2 = 1) with e | e
  · rw [show q / 2 * 2 = q by omega] at h ⊢; exact h
  · have e2 : q = q / 2 * 2 ||| 1 := by rw [h]; omega
    rw [← h]
    conv => lhs; rw [e2]
    rw [Nat.or_assoc, Nat.or_self]
theorem rne_ro {n d e : Nat} (he : 2 ≤ e) : rne (ro n d) e = rne n (e + d) := by
  obtain ⟨k, rfl⟩ : ∃ k, e = k + 2 := ⟨e - 2, by omega⟩
  have hP := pow_pos' d
  have hk := pow_pos' k
  by_cases ht : n % 2 ^ d = 0
  · unfold ro; rw [if_pos ht]
    have e1 : n = n / 2 ^ d * 2 ^ d := by have := Nat.div_add_mod n (2 ^ d); rw [ht, Nat.add_zero, Nat.mul_comm] at this; exact this.symm
    conv => rhs; rw [e1]
    rw [rne_scale]
  · unfold ro; rw [if_neg ht]
    have hd := Nat.div_add_mod n (2 ^ d)
    have htl := Nat.mod_lt n hP
    have f1 : n / 2 ^ (k + 2 + d) = n / 2 ^ d / 2 ^ (k + 2) := by rw [Nat.div_div_eq_div_mul, ← Nat.pow_add, Nat.add_comm d]
    have f2 : n % 2 ^ (k + 2 + d) = n / 2 ^ d % 2 ^ (k + 2) * 2 ^ d + n % 2 ^ d := by
      rw [Nat.add_comm (k + 2) d, Nat.pow_add, Nat.mod_mul]
      rw [Nat.add_comm, Nat.mul_comm]
    have f3 : 2 ^ (k + 2 + d) = 2 ^ (k + 2) * 2 ^ d := Nat.pow_add ..
    unfold rne
    rw [f1, f2, f3]
    generalize n / 2 ^ d = q at *
    generalize n % 2 ^ d = t at *
    generalize 2 ^ d = P at *
    have f4 : 2 ^ (k + 2) = 2 * (2 * 2 ^ k) := by rw [Nat.pow_succ, Nat.pow_succ]; omega
    rw [f4]
    generalize 2 ^ k = h at *
    have f5 : (q / 2 * 2 + 1) / (2 * (2 * h)) = q / (2 * (2 * h)) := by
      have e : ∀ m, m / (2 * (2 * h)) = m / 2 / (2 * h) := fun m => (Nat.div_div_eq_div_mul ..).symm
      rw [e, e q, show (q / 2 * 2 + 1) / 2 = q / 2 by omega]
    have f6 : (q / 2 * 2 + 1) % (2 * (2 * h)) = q % (2 * (2 * h)) / 2 * 2 + 1 := by
      have a1 := Nat.mod_mul (x := q / 2 * 2 + 1) (a := 2) (b := 2 * h)
      have a2 := Nat.mod_mul (x := q) (a := 2) (b := 2 * h)
      rw [a1, a2, show (q / 2 * 2 + 1) / 2 = q / 2 by omega]
      omega
    rw [f5, f6]
    congr 2
    generalize q % (2 * (2 * h)) = r
    have g1 : decide (2 * (2 * h) < 2 * (r / 2 * 2 + 1)) = decide (2 * (2 * h) * P < 2 * (r * P + t)) := by
      rw [decide_eq_decide]
      constructor
      · intro hh
        have : 2 * h ≤ r := by omega
        have := Nat.mul_le_mul_right P this
        rw [Nat.mul_assoc]; omega
      · intro hh
        rw [Nat.mul_assoc] at hh
        have h1 : 2 * h * P < (r + 1) * P := by rw [Nat.add_mul, Nat.one_mul]; omega
        have h2 := Nat.lt_of_mul_lt_mul_right h1
        omega
    have g2 : decide (2 * (2 * h) = 2 * (r / 2 * 2 + 1)) = false := decide_eq_false (by omega)
    have g3 : decide (2 * (2 * h) * P = 2 * (r * P + t)) = false := by
      apply decide_eq_false
      intro hh
      rw [Nat.mul_assoc] at hh
      have h1 : 2 * h * P = r * P + t := by omega
      have h2 : r * P < 2 * h * P := by omega
      have h3 := Nat.lt_of_mul_lt_mul_right h2
      have h4 := Nat.mul_le_mul_right P (show r + 1 ≤ 2 * h by omega)
      rw [Nat.add_mul, Nat.one_mul] at h4
      omega
    rw [g1, g2, g3]
theorem ro_exact {n d : Nat} (h : n % 2 ^ d = 0) : ro n d * 2 ^ d = n := by
  unfold ro; rw [if_pos h]
  have := Nat.div_add_mod n (2 ^ d); rw [h, Nat.add_zero, Nat.mul_comm] at this; exact this
theorem ro_log2 {n d : Nat} (h : 2 ≤ n / 2 ^ d) : (ro n d).log2 + d = n.log2 := by
  have hn : n ≠ 0 := by intro e; subst e; simp at h
  have hq : n / 2 ^ d ≠ 0 := by omega
  have h1 : (n / 2 ^ d).log2 + d = n.log2 := by
    have a := log2_le hq
    have b := lt_log2 (n / 2 ^ d)
    rw [eq_comm, Nat.log2_eq_iff hn]
    constructor
    · rw [Nat.pow_add]; exact Nat.le_trans (Nat.mul_le_mul_right _ a) (Nat.div_mul_le_self _ _)
    · rw [show (n / 2 ^ d).log2 + d + 1 = (n / 2 ^ d).log2 + 1 + d by omega, Nat.pow_add]
      exact (Nat.div_lt_iff_lt_mul (pow_pos' d)).1 b
  rw [← h1]
  unfold ro
  split
  · rfl
  · generalize n / 2 ^ d = q at *
    congr 1
    have h2 : q / 2 * 2 + 1 ≠ 0 := by omega
    have a := log2_le hq
    have b := lt_log2 q
    rw [Nat.log2_eq_iff h2]
    have c : 1 ≤ q.log2 := (Nat.le_log2 hq).2 (by omega)
    obtain ⟨l, hl⟩ : ∃ l, q.log2 = l + 1 := ⟨q.log2 - 1, by omega⟩
    rw [hl] at a b ⊢
    rw [Nat.pow_succ] at a b ⊢
    constructor
    · omega
    · rw [Nat.pow_succ] at b ⊢; omega
/-- What is dropped with its mark left rounds as the whole does. -/
theorem R_ro (K u : Nat) {n d : Nat} (h : n % 2 ^ d = 0 ∨ 2 ^ 54 ≤ n / 2 ^ d) : R K (ro n d * 2 ^ (u + d)) = R K (n * 2 ^ u) := by
  by_cases h0 : n % 2 ^ d = 0
  · rw [Nat.add_comm u d, Nat.pow_add, ← Nat.mul_assoc, ro_exact h0]
  · have h1 : 2 ^ 54 ≤ n / 2 ^ d := by rcases h with h | h; exact absurd h h0; exact h
    have hn : n ≠ 0 := by intro e; subst e; simp at h1
    have hl := ro_log2 (n := n) (d := d) (by omega)
    have hr : ro n d ≠ 0 := by unfold ro; rw [if_neg h0]; omega
    have hl2 : 54 + d ≤ n.log2 := by
      rw [Nat.le_log2 hn, Nat.pow_add]
      exact Nat.le_trans (Nat.mul_le_mul_right _ h1) (Nat.div_mul_le_self _ _)
    unfold R
    have ed : dr K (ro n d * 2 ^ (u + d)) = dr K (n * 2 ^ u) := by
      unfold dr; rw [log2_mul_pow hr, log2_mul_pow hn]; omega
    rw [ed]
    have he : ∃ e, dr K (n * 2 ^ u) = e + d + u ∧ 2 ≤ e := by
      refine ⟨dr K (n * 2 ^ u) - d - u, ?_, ?_⟩ <;> (unfold dr; rw [log2_mul_pow hn]; omega)
    obtain ⟨e, he, he2⟩ := he
    rw [he, rne_scale, show e + d + u = e + (u + d) by omega, rne_scale, rne_ro he2]
theorem ro_add {A B d : Nat} (hA : A % 2 = 0) : A + ro B d = ro (A * 2 ^ d + B) d := by
  have hP := pow_pos' d
  unfold ro
  rw [Nat.mul_comm A, Nat.mul_add_mod, Nat.mul_add_div hP]
  split <;> omega
theorem ro_sub {A B d : Nat} (hA : A % 2 = 0) (h : B ≤ A * 2 ^ d) : A - ro B d = ro (A * 2 ^ d - B) d := by
  have hP := pow_pos' d
  have hB := Nat.div_add_mod B (2 ^ d)
  have ht := Nat.mod_lt B hP
  unfold ro
  by_cases h0 : B % 2 ^ d = 0
  · have e1 : A * 2 ^ d - B = 2 ^ d * (A - B / 2 ^ d) := by rw [Nat.mul_sub, Nat.mul_comm A]; omega
    rw [if_pos h0, e1, Nat.mul_mod_right, if_pos rfl, Nat.mul_div_cancel_left _ hP]
  · have hq : B / 2 ^ d < A := by
      rw [Nat.div_lt_iff_lt_mul hP]
      refine Nat.lt_of_le_of_ne h (fun e => h0 ?_)
      rw [e, Nat.mul_mod_left]
    obtain ⟨k, hk⟩ : ∃ k, A = B / 2 ^ d + 1 + k := ⟨A - B / 2 ^ d - 1, by omega⟩
    have e1 : A * 2 ^ d - B = 2 ^ d * k + (2 ^ d - B % 2 ^ d) := by
      have : A * 2 ^ d = 2 ^ d * (B / 2 ^ d) + 2 ^ d + 2 ^ d * k := by
        conv => lhs; rw [hk]
        rw [Nat.add_mul, Nat.add_mul, Nat.one_mul, Nat.mul_comm (B / 2 ^ d), Nat.mul_comm k]
      omega
    have e2 : 2 ^ d - B % 2 ^ d < 2 ^ d := by omega
    rw [if_neg h0, e1, Nat.mul_add_mod, Nat.mod_eq_of_lt e2, if_neg (by omega), Nat.mul_add_div hP, Nat.div_eq_of_lt e2]
    omega
end Flo
-- with Mm
namespace Flo
open Ieee
set_option linter.unusedVariables false
set_option linter.unusedSimpArgs false

theorem word_self {x : Nat} (h : x < 18446744073709551616) : D.word (sg x) (rung x) = x := by
  unfold Format.word sg rung; rw [d_sign]
  by_cases h1 : x < 9223372036854775808
  · rw [if_neg (by rw [beq_iff_eq]; omega)]; omega
  · rw [if_pos (by rw [beq_iff_eq]; omega)]; omega
theorem sgn_mul (s : Bool) (a b : Nat) : sgn s a * (b : Int) = sgn s (a * b) := by
  unfold sgn; split <;> simp [Int.neg_mul]
/-- The sum of two numbers, in units of the least one. -/
def T (x y : Nat) : Int := sgn (sg x) (mag (rung x)) + sgn (sg y) (mag (rung y))
theorem add_fin {x y : Nat} (hx : rung x < 9218868437227405312) (hy : rung y < 9218868437227405312) :
    D.add x y = some (if T x y = 0 then D.word (sg x && sg y) 0 else D.word (decide (T x y < 0)) (R 0 (T x y).natAbs)) := by
  obtain ⟨m, p, e1, hp, _, _, hv⟩ := read_fin hx
  obtain ⟨n, q, e2, hq, _, _, hw⟩ := read_fin hy
  unfold Format.add
  rw [e1, e2]
  unfold Datum.sum
  dsimp only [Option.map]
  rw [signed_eq, signed_eq]
  have hT : (sgn (sg x) (m * 2 ^ (p - min p q).toNat) + sgn (sg y) (n * 2 ^ (q - min p q).toNat)) * ((2 ^ (min p q + 1074).toNat : Nat) : Int) = T x y := by
    rw [Int.add_mul, sgn_mul, sgn_mul, Nat.mul_assoc, Nat.mul_assoc, ← Nat.pow_add, ← Nat.pow_add]
    unfold T
    rw [← hv, ← hw, show (p - min p q).toNat + (min p q + 1074).toNat = (p + 1074).toNat by omega, show (q - min p q).toNat + (min p q + 1074).toNat = (q + 1074).toNat by omega]
  have hP := pow_pos' (min p q + 1074).toNat
  generalize sgn (sg x) (m * 2 ^ (p - min p q).toNat) + sgn (sg y) (n * 2 ^ (q - min p q).toNat) = t at hT ⊢
  congr 1
  show D.nearest (if t = 0 then (sg x && sg y) else decide (t < 0)) t.natAbs (min p q) = _
  rw [nearest_R _ _ _ 0 (by omega), show (min p q + 1074 + ((0 : Nat) : Int)).toNat = (min p q + 1074).toNat by omega]
  have ha : t.natAbs * 2 ^ (min p q + 1074).toNat = (T x y).natAbs := by rw [← hT, Int.natAbs_mul, Int.natAbs_natCast]
  rw [ha]
  generalize 2 ^ (min p q + 1074).toNat = P at hT hP
  by_cases h0 : t = 0
  · have h1 : T x y = 0 := by rw [← hT, h0, Int.zero_mul]
    rw [if_pos h0, if_pos h1, h1]; rw [show (0 : Int).natAbs = 0 from rfl, R_zero]
  · have h1 : T x y ≠ 0 := by rw [← hT]; exact Int.mul_ne_zero h0 (by omega)
    rw [if_neg h0, if_neg h1]
    congr 1
    rw [decide_eq_decide, ← hT]
    constructor
    · intro h; exact Int.mul_neg_of_neg_of_pos h (by omega)
    · intro h
      refine Int.lt_of_not_ge fun h' => ?_
      have := Int.mul_nonneg h' (show (0 : Int) ≤ (P : Int) by omega)
      omega
theorem same_val (s : Bool) {a b d : Nat} (ha : rung a < 9218868437227405312) (hb : rung b < 9218868437227405312) (h0 : oM a ≠ 0) (hd : oE a - oE b = (d : Int)) :
    D.nearest s (oM a * 512 + ro (oM b * 512) d) (oE a - 9) = D.word s (R 0 (mag (rung a) + mag (rung b))) := by
  have b1 := oE_bounds ha
  have b2 := oE_bounds hb
  have v1 := oM_val ha
  have v2 := oM_val hb
  have hA : 4503599627370496 ≤ oM a := oM_ge (fun e => h0 (oM_zero e))
  rw [nearest_R s _ _ 61 (by omega), ro_add (by omega), show (oE a - 9 + 1074 + ((61 : Nat) : Int)).toNat = (oE b + 1126).toNat + d by omega]
  rw [R_ro 61 _ (.inr (by rw [Nat.le_div_iff_mul_le (pow_pos' d)]; exact Nat.le_trans (Nat.mul_le_mul_right _ (by omega : 2 ^ 54 ≤ oM a * 512)) (Nat.le_add_right ..)))]
  have e : (oM a * 512 * 2 ^ d + oM b * 512) * 2 ^ (oE b + 1126).toNat = (mag (rung a) + mag (rung b)) * 2 ^ 61 := by
    rw [show (oE a + 1126).toNat = d + (oE b + 1126).toNat by omega, Nat.pow_add] at v1
    rw [Nat.add_mul, Nat.add_mul, Nat.mul_right_comm (oM b), v2, Nat.mul_assoc (oM a * 512), Nat.mul_right_comm (oM a), v1, show (2 : Nat) ^ 61 = 4503599627370496 * 512 from rfl, Nat.mul_assoc, Nat.mul_assoc]
  rw [e, show (61 : Nat) = 0 + 61 from rfl, R_scale]
theorem diff_val (s : Bool) {a b d : Nat} (ha : rung a < 9218868437227405312) (hb : rung b < 9218868437227405312) (h0 : oM a ≠ 0) (hd : oE a - oE b = (d : Int)) (hle : oM b * 512 ≤ oM a * 512 * 2 ^ d) :
    D.nearest s (oM a * 512 - ro (oM b * 512) d) (oE a - 9) = D.word s (R 0 (mag (rung a) - mag (rung b))) := by
  have b1 := oE_bounds ha
  have b2 := oE_bounds hb
  have v1 := oM_val ha
  have v2 := oM_val hb
  have hA : 4503599627370496 ≤ oM a := oM_ge (fun e => h0 (oM_zero e))
  have hB := oM_lt b
  rw [nearest_R s _ _ 61 (by omega), ro_sub (by omega) hle, show (oE a - 9 + 1074 + ((61 : Nat) : Int)).toNat = (oE b + 1126).toNat + d by omega]
  have hpre : (oM a * 512 * 2 ^ d - oM b * 512) % 2 ^ d = 0 ∨ 2 ^ 54 ≤ (oM a * 512 * 2 ^ d - oM b * 512) / 2 ^ d := by
    by_cases h9 : d ≤ 9
    · left
      have e9 : 2 ^ d * 2 ^ (9 - d) = 512 := by
        have h : 2 ^ (d + (9 - d)) = 2 ^ 9 := congrArg _ (by omega)
        rw [← Nat.pow_add, h]
      have e8 : oM b * 512 = 2 ^ d * (oM b * 2 ^ (9 - d)) := by rw [Nat.mul_left_comm (2 ^ d) (oM b) (2 ^ (9 - d)), e9]
      have e : oM a * 512 * 2 ^ d - oM b * 512 = 2 ^ d * (oM a * 512 - oM b * 2 ^ (9 - d)) := by
        rw [Nat.mul_sub, Nat.mul_comm (2 ^ d) (oM a * 512), ← e8]
      rw [e, Nat.mul_mod_right]
    · right
      rw [Nat.le_div_iff_mul_le (pow_pos' d)]
      have h10 : 2 ^ 10 ≤ 2 ^ d := Nat.pow_le_pow_right (by omega) (by omega)
      have hA1 : 2305843009213693952 ≤ oM a * 512 := by omega
      have hA2 := Nat.mul_le_mul_right (2 ^ d) hA1
      have hB2 : oM b * 512 < 4611686018427387904 := by omega
      clear hle hA hB hA1 v1 v2
      generalize oM a * 512 * 2 ^ d = X at hA2 ⊢
      generalize oM b * 512 = Y at hB2 ⊢
      have h10' : 1024 ≤ 2 ^ d := h10
      clear h10
      generalize 2 ^ d = P at hA2 h10' ⊢
      omega
  rw [R_ro 61 _ hpre]
  have e : (oM a * 512 * 2 ^ d - oM b * 512) * 2 ^ (oE b + 1126).toNat = (mag (rung a) - mag (rung b)) * 2 ^ 61 := by
    rw [show (oE a + 1126).toNat = d + (oE b + 1126).toNat by omega, Nat.pow_add] at v1
    rw [Nat.sub_mul, Nat.sub_mul, Nat.mul_right_comm (oM b), v2, Nat.mul_assoc (oM a * 512), Nat.mul_right_comm (oM a), v1, show (2 : Nat) ^ 61 = 4503599627370496 * 512 from rfl, Nat.mul_assoc, Nat.mul_assoc]
  rw [e, show (61 : Nat) = 0 + 61 from rfl, R_scale]
/-- Which of two numbers is the greater one: first by the place, then by the digits. -/
theorem mag_of_place {a b d : Nat} (ha : rung a < 9218868437227405312) (hb : rung b < 9218868437227405312) (h0 : oM a ≠ 0) (hd : oE a - oE b = (d : Int)) :
    (mag (rung b) < mag (rung a) ↔ oM b < oM a * 2 ^ d) ∧ (mag (rung b) = mag (rung a) ↔ oM b = oM a * 2 ^ d) := by
  have b1 := oE_bounds ha
  have b2 := oE_bounds hb
  have v1 := oM_val ha
  have v2 := oM_val hb
  rw [show (oE a + 1126).toNat = d + (oE b + 1126).toNat by omega, Nat.pow_add, ← Nat.mul_assoc] at v1
  have hp := pow_pos' (oE b + 1126).toNat
  generalize 2 ^ (oE b + 1126).toNat = P at *
  constructor
  · rw [← Nat.mul_lt_mul_right (a := 4503599627370496) (by omega), ← v1, ← v2, Nat.mul_lt_mul_right hp]
  · rw [← Nat.mul_left_inj (a := 4503599627370496) (by omega), ← v1, ← v2, Nat.mul_left_inj (by omega)]
theorem lt_of_place {a b d : Nat} (h0 : oM a ≠ 0) (hd : 1 ≤ d) : oM b < oM a * 2 ^ d := by
  have hA : 4503599627370496 ≤ oM a := oM_ge (fun e => h0 (oM_zero e))
  have hB := oM_lt b
  have h1 : 2 ^ 1 ≤ 2 ^ d := Nat.pow_le_pow_right (by omega) hd
  have := Nat.mul_le_mul hA h1
  omega
theorem ro_le (n d : Nat) : ro n d ≤ n / 2 ^ d + 1 := by unfold ro; split <;> omega
theorem ro_far {n d : Nat} (h0 : n ≠ 0) (h : n < 2 ^ d) : ro n d = 1 := by
  unfold ro; rw [Nat.mod_eq_of_lt h, if_neg h0, Nat.div_eq_of_lt h]
theorem ro_zero (n : Nat) : ro n 0 = n := by unfold ro; simp [Nat.mod_one]
theorem sum_comm (a b : Datum) : a.sum b = b.sum a := by
  cases a <;> cases b <;> simp only [Datum.sum]
  · rename_i s m i t n j
    rw [Int.min_comm j i, Int.add_comm (signed t n _), Bool.and_comm t s]
  · rename_i s t
    by_cases h : s = t
    · subst h; rfl
    · rw [if_neg h, if_neg (fun e => h e.symm)]
theorem add_comm (x y : Nat) : fAdd x y = fAdd y x := by
  unfold fAdd Format.add; rw [sum_comm]
end Flo
-- with Mn
namespace Flo
open Ieee
set_option linter.unusedVariables false
set_option linter.unusedSimpArgs false

theorem mag_pos {r : Nat} (h : r ≠ 0) : 0 < mag r := by have := mag_lt (r := 0) (s := r) (by omega); rw [mag_zero] at this; exact this
theorem fAdd_fin {x y : Nat} (hx : rung x < 9218868437227405312) (hy : rung y < 9218868437227405312) :
    fAdd x y = if T x y = 0 then D.word (sg x && sg y) 0 else D.word (decide (T x y < 0)) (R 0 (T x y).natAbs) := by
  unfold fAdd; rw [add_fin hx hy]; rfl
theorem fAdd_same {x y : Nat} (hx : rung x < 9218868437227405312) (hy : rung y < 9218868437227405312) (hs : sg x = sg y) (h0 : rung x ≠ 0) :
    fAdd x y = D.word (sg x) (R 0 (mag (rung x) + mag (rung y))) := by
  rw [fAdd_fin hx hy]
  have hp := mag_pos h0
  unfold T
  rw [← hs]
  cases sg x
  · have e : sgn false (mag (rung x)) + sgn false (mag (rung y)) = ((mag (rung x) + mag (rung y) : Nat) : Int) := by unfold sgn; simp
    rw [e, if_neg (by omega), decide_eq_false (by omega), Int.natAbs_natCast]
  · have e : sgn true (mag (rung x)) + sgn true (mag (rung y)) = -((mag (rung x) + mag (rung y) : Nat) : Int) := by unfold sgn; simp; omega
    rw [e, if_neg (by omega), decide_eq_true (by omega), Int.natAbs_neg, Int.natAbs_natCast]
theorem fAdd_diff {x y : Nat} (hx : rung x < 9218868437227405312) (hy : rung y < 9218868437227405312) (hs : sg x ≠ sg y) (h0 : mag (rung y) < mag (rung x)) :
    fAdd x y = D.word (sg x) (R 0 (mag (rung x) - mag (rung y))) := by
  rw [fAdd_fin hx hy]
  unfold T
  have hs' : sg y = !(sg x) := by revert hs; cases sg x <;> cases sg y <;> simp
  rw [hs']
  cases sg x
  · have e : sgn false (mag (rung x)) + sgn (!false) (mag (rung y)) = ((mag (rung x) - mag (rung y) : Nat) : Int) := by unfold sgn; simp; omega
    rw [e, if_neg (by omega), decide_eq_false (by omega), Int.natAbs_natCast]
  · have e : sgn true (mag (rung x)) + sgn (!true) (mag (rung y)) = -((mag (rung x) - mag (rung y) : Nat) : Int) := by unfold sgn; simp; omega
    rw [e, if_neg (by omega), decide_eq_true (by omega), Int.natAbs_neg, Int.natAbs_natCast]
theorem fAdd_equal {x y : Nat} (hx : rung x < 9218868437227405312) (hy : rung y < 9218868437227405312) (hs : sg x ≠ sg y) (h0 : mag (rung x) = mag (rung y)) : fAdd x y = 0 := by
  rw [fAdd_fin hx hy]
  unfold T
  have hs' : sg y = !(sg x) := by revert hs; cases sg x <;> cases sg y <;> simp
  rw [hs', h0]
  have e : sgn (sg x) (mag (rung y)) + sgn (!(sg x)) (mag (rung y)) = 0 := by unfold sgn; cases sg x <;> simp <;> omega
  rw [e, if_pos rfl, Bool.and_not_self]; rfl
theorem fAdd_zero {x y : Nat} (hx : rung x = 0) (hy : rung y = 0) : fAdd x y = D.word (sg x && sg y) 0 := by
  rw [fAdd_fin (by omega) (by omega)]
  unfold T
  rw [hx, hy, mag_zero]
  have e : ∀ s, sgn s 0 = 0 := fun s => by unfold sgn; cases s <;> rfl
  rw [e, e, if_pos (by decide)]
theorem fAdd_right {x y : Nat} (hlt : y < 18446744073709551616) (hx : rung x = 0) (hy : rung y < 9218868437227405312) (h0 : rung y ≠ 0) : fAdd x y = y := by
  rw [fAdd_fin (by omega) hy]
  have hp := mag_pos h0
  unfold T
  rw [hx, mag_zero]
  have e : ∀ s, sgn s 0 = 0 := fun s => by unfold sgn; cases s <;> rfl
  rw [e, Int.zero_add]
  have hn : (sgn (sg y) (mag (rung y))).natAbs = mag (rung y) := by unfold sgn; split <;> simp
  have hd : decide (sgn (sg y) (mag (rung y)) < 0) = sg y := by
    unfold sgn; cases sg y
    · rw [if_neg (by simp)]; exact decide_eq_false (by omega)
    · rw [if_pos rfl]; exact decide_eq_true (by omega)
  rw [if_neg (by unfold sgn; split <;> omega), hn, hd, R_mag (by omega), word_self hlt]
theorem fAdd_left {x y : Nat} (hlt : x < 18446744073709551616) (hy : rung y = 0) (hx : rung x < 9218868437227405312) (h0 : rung x ≠ 0) : fAdd x y = x := by
  rw [add_comm]; exact fAdd_right hlt hy hx h0
theorem fAdd_infs {x y : Nat} (hx : rung x = 9218868437227405312) (hy : rung y = 9218868437227405312) (hs : sg x ≠ sg y) : fAdd x y = NaN := by
  unfold fAdd Format.add; rw [read_inf hx, read_inf hy]; unfold Datum.sum; dsimp only; rw [if_neg hs]; rfl
theorem fAdd_infs2 {x y : Nat} (hlt : x < 18446744073709551616) (hx : rung x = 9218868437227405312) (hy : rung y = 9218868437227405312) (hs : sg x = sg y) : fAdd x y = x := by
  unfold fAdd Format.add; rw [read_inf hx, read_inf hy]; unfold Datum.sum; dsimp only; rw [if_pos hs]
  show D.word (sg x) D.infRung = x
  rw [d_inf, ← hx, word_self hlt]
theorem fAdd_infl {x y : Nat} (hlt : x < 18446744073709551616) (hx : rung x = 9218868437227405312) (hy : rung y < 9218868437227405312) : fAdd x y = x := by
  obtain ⟨m, p, e, _⟩ := read_fin hy
  unfold fAdd Format.add; rw [read_inf hx, e]
  show D.word (sg x) D.infRung = x
  rw [d_inf, ← hx, word_self hlt]
theorem fAdd_infr {x y : Nat} (hlt : y < 18446744073709551616) (hy : rung y = 9218868437227405312) (hx : rung x < 9218868437227405312) : fAdd x y = y := by
  rw [add_comm]; exact fAdd_infl hlt hy hx
end Flo
-- with Mo
namespace Flo
open Ieee
set_option linter.unusedVariables false
set_option linter.unusedSimpArgs false

theorem xor_eq (s t : Bool) : (s ^^ t) = (s != t) := by cases s <;> cases t <;> rfl
/-- The exact product, in units of the least number's square. -/
theorem mul_fin {x y : Nat} (hx : rung x < 9218868437227405312) (hy : rung y < 9218868437227405312) :
    fMul x y = D.word (sg x != sg y) (R 1074 (mag (rung x) * mag (rung y))) := by
  obtain ⟨m, p, e1, hp, _, _, hv⟩ := read_fin hx
  obtain ⟨n, q, e2, hq, _, _, hw⟩ := read_fin hy
  unfold fMul Format.mul
  rw [e1, e2]
  show D.nearest (sg x ^^ sg y) (m * n) (p + q) = _
  rw [nearest_R _ _ _ 1074 (by omega), xor_eq, ← hv, ← hw]
  congr 2
  rw [show (p + q + 1074 + ((1074 : Nat) : Int)).toNat = (p + 1074).toNat + (q + 1074).toNat by omega, Nat.pow_add, Nat.mul_mul_mul_comm]
theorem mul_comm' (x y : Nat) : fMul x y = fMul y x := by
  unfold fMul Format.mul
  congr 2
  cases D.read x <;> cases D.read y <;> simp only [Datum.product]
  · rename_i s m i t n j
    rw [Nat.mul_comm n m, Int.add_comm j i, Bool.xor_comm t s]
  · rename_i s t
    rw [Bool.xor_comm s t]
  all_goals (first | done | (rename_i s m i t; rw [Bool.xor_comm s t]) | (rename_i s t; rw [Bool.xor_comm s t]))
theorem mul_val (s : Bool) {x y : Nat} (hx : rung x < 9218868437227405312) (hy : rung y < 9218868437227405312) (zx : rung x ≠ 0) (zy : rung y ≠ 0) :
    D.nearest s (ro (oM x * oM y) 44) (oE x + oE y + 44) = D.word s (R 1074 (mag (rung x) * mag (rung y))) := by
  have b1 := oE_bounds hx
  have b2 := oE_bounds hy
  have v1 := oM_val hx
  have v2 := oM_val hy
  have g1 := oM_ge zx
  have g2 := oM_ge zy
  rw [nearest_R s _ _ 1178 (by omega), show (oE x + oE y + 44 + 1074 + ((1178 : Nat) : Int)).toNat = (oE x + 1126).toNat + (oE y + 1126).toNat + 44 by omega]
  have hp : 2 ^ 54 ≤ oM x * oM y / 2 ^ 44 := by
    have h := Nat.mul_le_mul g1 g2
    rw [Nat.le_div_iff_mul_le (pow_pos' 44)]
    exact Nat.le_trans (by decide) h
  rw [R_ro 1178 _ (.inr hp), Nat.pow_add, Nat.mul_mul_mul_comm, v1, v2, Nat.mul_mul_mul_comm, show 4503599627370496 * 4503599627370496 = 2 ^ 104 from rfl, show (1178 : Nat) = 1074 + 104 from rfl, R_scale]
/-- The product digit by digit: two halves each. -/
theorem mul_split {a b : Nat} (ha : a < 9007199254740992) (hb : b < 9007199254740992) :
    let mid := a / 67108864 * (b % 67108864) + a % 67108864 * (b / 67108864)
    let low := a % 67108864 * (b % 67108864) + mid % 67108864 * 67108864
    let high := a / 67108864 * (b / 67108864) + mid / 67108864 + low / 4503599627370496
    mid < 18446744073709551616 ∧ low < 18446744073709551616 ∧ high < 72057594037927936 ∧ high * 4503599627370496 + low % 4503599627370496 = a * b := by
  intro mid low high
  have e1 := Nat.div_add_mod a 67108864
  have e2 := Nat.div_add_mod b 67108864
  have a0 : a % 67108864 ≤ 67108863 := by omega
  have b0 : b % 67108864 ≤ 67108863 := by omega
  have a1 : a / 67108864 ≤ 134217727 := by omega
  have b1 : b / 67108864 ≤ 134217727 := by omega
  have p1 := Nat.mul_le_mul a1 b0
  have p2 := Nat.mul_le_mul a0 b1
  have p3 := Nat.mul_le_mul a0 b0
  have p4 := Nat.mul_le_mul a1 b1
  have hab : a * b = (67108864 * (a / 67108864) + a % 67108864) * (67108864 * (b / 67108864) + b % 67108864) := by rw [e1, e2]
  rw [Nat.add_mul, Nat.mul_add, Nat.mul_add, Nat.mul_mul_mul_comm, Nat.mul_assoc 67108864 (a / 67108864) (b % 67108864), Nat.mul_left_comm (a % 67108864) 67108864 (b / 67108864)] at hab
  have hmid : mid = a / 67108864 * (b % 67108864) + a % 67108864 * (b / 67108864) := rfl
  have hlow : low = a % 67108864 * (b % 67108864) + mid % 67108864 * 67108864 := rfl
  have hhigh : high = a / 67108864 * (b / 67108864) + mid / 67108864 + low / 4503599627370496 := rfl
  clear_value high low mid
  generalize a / 67108864 * (b % 67108864) = u at *
  generalize a % 67108864 * (b / 67108864) = v at *
  generalize a % 67108864 * (b % 67108864) = t at *
  generalize a / 67108864 * (b / 67108864) = s at *
  clear e1 e2 a0 b0 a1 b1 ha hb
  omega
theorem ro44 (n : Nat) {high low : Nat} (hl : low < 4503599627370496) (h : high * 4503599627370496 + low = n) :
    ro n 44 = if low % 17592186044416 = 0 then high * 256 + low / 17592186044416 else (high * 256 + low / 17592186044416) / 2 * 2 + 1 := by
  unfold ro
  show (if n % 17592186044416 = 0 then n / 17592186044416 else n / 17592186044416 / 2 * 2 + 1) = _
  have e1 : n % 17592186044416 = low % 17592186044416 := by omega
  have e2 : n / 17592186044416 = high * 256 + low / 17592186044416 := by omega
  rw [e1, e2]
theorem bne_comm' (s t : Bool) : (s != t) = (t != s) := by cases s <;> cases t <;> rfl
theorem fMul_ii {x y : Nat} (hx : rung x = 9218868437227405312) (hy : rung y = 9218868437227405312) : fMul x y = D.word (sg x != sg y) 9218868437227405312 := by
  unfold fMul Format.mul; rw [read_inf hx, read_inf hy]
  show D.word (sg x ^^ sg y) D.infRung = _
  rw [d_inf, xor_eq]
theorem read_zero {y : Nat} (hy : rung y = 0) : D.read y = .number (sg y) 0 (-1074) := by
  rw [read_rs, hy, if_pos (by omega)]
theorem read_pos {y : Nat} (hy : rung y < 9218868437227405312) (h0 : rung y ≠ 0) : ∃ n q, D.read y = .number (sg y) n q ∧ n ≠ 0 := by
  obtain ⟨n, q, e, _, _, _, hv⟩ := read_fin hy
  refine ⟨n, q, e, fun h => ?_⟩
  have := mag_pos h0
  rw [h, Nat.zero_mul] at hv; omega
theorem fMul_iz {x y : Nat} (hx : rung x = 9218868437227405312) (hy : rung y = 0) : fMul x y = NaN := by
  unfold fMul Format.mul; rw [read_inf hx, read_zero hy]; rfl
theorem fMul_in {x y : Nat} (hx : rung x = 9218868437227405312) (hy : rung y < 9218868437227405312) (h0 : rung y ≠ 0) : fMul x y = D.word (sg x != sg y) 9218868437227405312 := by
  obtain ⟨n, q, e, hn⟩ := read_pos hy h0
  unfold fMul Format.mul; rw [read_inf hx, e]
  unfold Datum.product
  dsimp only
  rw [if_neg hn]
  show D.word (sg x ^^ sg y) D.infRung = _
  rw [d_inf, xor_eq]
end Flo
-- with Mp
namespace Flo
open Ieee
set_option linter.unusedVariables false
set_option linter.unusedSimpArgs false

/-- What is dropped with its mark left rounds as the whole does. -/
theorem nearest_ro (s : Bool) (p : Int) {n d : Nat} (h : n % 2 ^ d = 0 ∨ 2 ^ 54 ≤ n / 2 ^ d) : D.nearest s (ro n d) (p + d) = D.nearest s n p := by
  rw [nearest_R s (ro n d) (p + d) (-1074 - p).toNat (by omega), nearest_R s n p (-1074 - p).toNat (by omega)]
  rw [show (p + d + 1074 + ((-1074 - p).toNat : Int)).toNat = (p + 1074 + ((-1074 - p).toNat : Int)).toNat + d by omega, R_ro _ _ h]
/-- n by c, the last digit 1 if anything is left over. -/
def roq (n c : Nat) : Nat := if n % c = 0 then n / c else n / c / 2 * 2 + 1
theorem roq_ge {n c : Nat} (h : 2 ^ 54 ≤ n / c) : 2 ^ 54 ≤ roq n c := by unfold roq; split <;> omega
theorem roq_scale (n c k : Nat) (hk : 0 < k) : roq (n * k) (c * k) = roq n c := by
  unfold roq
  rw [Nat.mul_div_mul_right _ _ hk, Nat.mul_mod_mul_right]
  by_cases h : n % c = 0
  · rw [if_pos h, if_pos (by rw [h, Nat.zero_mul])]
  · rw [if_neg h, if_neg (Nat.mul_ne_zero h (by omega))]
theorem ro_roq (n c j : Nat) (hc : 0 < c) : ro (roq (n * 2 ^ j) c) j = roq n c := by
  have hj := pow_pos' j
  have hq : n * 2 ^ j / c / 2 ^ j = n / c := by
    rw [Nat.div_div_eq_div_mul, Nat.mul_div_mul_right _ _ hj]
  have hd := Nat.div_add_mod (n * 2 ^ j) c
  by_cases h0 : j = 0
  · subst h0; rw [ro_zero, Nat.pow_zero, Nat.mul_one]
  obtain ⟨k, rfl⟩ : ∃ k, j = k + 1 := ⟨j - 1, by omega⟩
  have hiff : n % c = 0 ↔ (n * 2 ^ (k + 1) % c = 0 ∧ n * 2 ^ (k + 1) / c % 2 ^ (k + 1) = 0) := by
    constructor
    · intro h
      have e : n = c * (n / c) := by have := Nat.div_add_mod n c; omega
      have e2 : n * 2 ^ (k + 1) = c * (n / c * 2 ^ (k + 1)) := by
        conv => lhs; rw [e]
        rw [Nat.mul_assoc]
      rw [e2]
      exact ⟨Nat.mul_mod_right _ _, by rw [Nat.mul_div_cancel_left _ hc, Nat.mul_mod_left]⟩
    · rintro ⟨h1, h2⟩
      have h3 := Nat.div_add_mod (n * 2 ^ (k + 1) / c) (2 ^ (k + 1))
      rw [h2, hq, Nat.add_zero] at h3
      rw [h1, Nat.add_zero, ← h3, ← Nat.mul_assoc, Nat.mul_comm c, Nat.mul_assoc, Nat.mul_comm (2 ^ (k + 1))] at hd
      have h4 := Nat.eq_of_mul_eq_mul_right hj hd
      rw [← h4]; exact Nat.mul_mod_right _ _
  unfold ro roq
  by_cases hr : n * 2 ^ (k + 1) % c = 0
  · rw [if_pos hr, hq]
    by_cases hm : n * 2 ^ (k + 1) / c % 2 ^ (k + 1) = 0
    · rw [if_pos hm, if_pos (hiff.2 ⟨hr, hm⟩)]
    · rw [if_neg hm, if_neg (fun e => hm (hiff.1 e).2)]
  · rw [if_neg hr]
    have hne : (n * 2 ^ (k + 1) / c / 2 * 2 + 1) % 2 ^ (k + 1) ≠ 0 := by
      intro e
      have h1 : 2 ∣ 2 ^ (k + 1) := ⟨2 ^ k, by rw [Nat.pow_succ, Nat.mul_comm]⟩
      have h2 := Nat.mod_mod_of_dvd (n * 2 ^ (k + 1) / c / 2 * 2 + 1) h1
      rw [e] at h2; omega
    have hdv : (n * 2 ^ (k + 1) / c / 2 * 2 + 1) / 2 ^ (k + 1) = n / c := by
      rw [← hq, Nat.pow_succ, Nat.mul_comm (2 ^ k) 2, ← Nat.div_div_eq_div_mul, ← Nat.div_div_eq_div_mul]
      congr 1; omega
    rw [if_neg hne, if_neg (fun e => hr (hiff.1 e).1), hdv]
theorem roq_two (n c : Nat) (hc : 0 < c) : 2 * (n / c) + (n % c != 0).toNat = roq (n * 2) c := by
  have hd := Nat.div_add_mod n c
  have hl := Nat.mod_lt n hc
  unfold roq
  by_cases h : n % c = 0
  · have e : n * 2 = c * (n / c * 2) := by
      rw [h, Nat.add_zero] at hd
      conv => lhs; rw [← hd]
      rw [Nat.mul_assoc]
    rw [h, e, Nat.mul_mod_right, if_pos rfl, Nat.mul_div_cancel_left _ hc]
    show 2 * (n / c) + 0 = _
    omega
  · have e : n * 2 = c * (n / c * 2) + n % c * 2 := by
      conv => lhs; rw [← hd]
      rw [Nat.add_mul, Nat.mul_assoc]
    have hb : (n % c != 0).toNat = 1 := by rw [bne_iff_ne.2 h]; rfl
    rw [hb, e, Nat.mul_add_mod, Nat.mul_add_div hc]
    generalize n / c = q
    generalize n % c = r at *
    by_cases h2 : r * 2 < c
    · rw [Nat.mod_eq_of_lt h2, Nat.div_eq_of_lt h2, if_neg (by omega)]; omega
    · have e3 : r * 2 / c = 1 := by rw [Nat.div_eq_iff hc]; omega
      rw [e3]; split <;> omega
/-- The quotient does not hang on how many digits were reckoned, if they are enough. -/
theorem quo_same (s : Bool) (m c K K' : Nat) (p : Int) (hc : 0 < c) (hK : K ≤ K') (h : 2 ^ 54 ≤ m * 2 ^ K / c) :
    D.nearest s (roq (m * 2 ^ K') c) (p - K') = D.nearest s (roq (m * 2 ^ K) c) (p - K) := by
  obtain ⟨j, rfl⟩ : ∃ j, K' = K + j := ⟨K' - K, by omega⟩
  have e : m * 2 ^ (K + j) = m * 2 ^ K * 2 ^ j := by rw [Nat.pow_add, Nat.mul_assoc]
  have h1 := ro_roq (m * 2 ^ K) c j hc
  rw [e]
  rw [← h1]
  have hN : roq (m * 2 ^ K * 2 ^ j) c % 2 ^ j = 0 ∨ 2 ^ 54 ≤ roq (m * 2 ^ K * 2 ^ j) c / 2 ^ j := by
    right
    have hq : m * 2 ^ K * 2 ^ j / c / 2 ^ j = m * 2 ^ K / c := by
      rw [Nat.div_div_eq_div_mul, Nat.mul_div_mul_right _ _ (pow_pos' j)]
    rw [← hq] at h
    by_cases h0 : j = 0
    · subst h0
      rw [Nat.pow_zero, Nat.div_one] at h ⊢
      exact roq_ge (by rw [Nat.mul_one] at h ⊢; exact h)
    · obtain ⟨k, rfl⟩ : ∃ k, j = k + 1 := ⟨j - 1, by omega⟩
      unfold roq
      split
      · exact h
      · have e2 : (2 : Nat) ^ (k + 1) = 2 * 2 ^ k := by rw [Nat.pow_succ, Nat.mul_comm]
        rw [e2, ← Nat.div_div_eq_div_mul] at h ⊢
        rw [show (m * 2 ^ K * (2 * 2 ^ k) / c / 2 * 2 + 1) / 2 = m * 2 ^ K * (2 * 2 ^ k) / c / 2 by omega]
        exact h
  have := nearest_ro s (p - ((K + j : Nat) : Int)) hN
  rw [← this]
  congr 1; omega
theorem div_fin {x y : Nat} (hx : rung x < 9218868437227405312) (hy : rung y < 9218868437227405312) (zx : rung x ≠ 0) (zy : rung y ≠ 0) :
    fDiv x y = D.nearest (sg x != sg y) (roq (oM x * 2 ^ 56) (oM y)) (oE x - oE y - 56) := by
  have gx := oM_ge zx
  have gy := oM_ge zy
  have lx := oM_lt x
  have ly := oM_lt y
  have sx := shf_le x
  have sy := shf_le y
  have nx : sigm x ≠ 0 := fun e => zx ((sigm_zero x).1 e)
  have ny : sigm y ≠ 0 := fun e => zy ((sigm_zero y).1 e)
  have rx : D.read x = .number (sg x) (sigm x) (plc x) := by
    rw [read_rs]; unfold sigm plc
    by_cases h : rung x < 4503599627370496
    · rw [if_pos h, if_pos h, if_pos h]
    · rw [if_neg h, if_neg h, if_neg h, if_pos hx]; congr 1; omega
  have ry : D.read y = .number (sg y) (sigm y) (plc y) := by
    rw [read_rs]; unfold sigm plc
    by_cases h : rung y < 4503599627370496
    · rw [if_pos h, if_pos h, if_pos h]
    · rw [if_neg h, if_neg h, if_neg h, if_pos hy]; congr 1; omega
  unfold fDiv Format.div
  rw [rx, ry]
  unfold Datum.quotient
  dsimp only
  rw [if_neg ny]
  show D.nearest (sg x ^^ sg y) (2 * (sigm x <<< (54 + (sigm y).log2 - (sigm x).log2) / sigm y) + (sigm x <<< (54 + (sigm y).log2 - (sigm x).log2) % sigm y != 0).toNat) (plc x - plc y - ((54 + (sigm y).log2 - (sigm x).log2 : Nat) : Int) - 1) = _
  have l1 : (sigm x).log2 < 53 := (Nat.log2_lt nx).2 (sigm_lt x)
  have l2 : (sigm y).log2 < 53 := (Nat.log2_lt ny).2 (sigm_lt y)
  obtain ⟨more, hmore⟩ : ∃ k, 54 + (sigm y).log2 - (sigm x).log2 = k := ⟨_, rfl⟩
  rw [hmore, xor_eq, Nat.shiftLeft_eq, roq_two _ _ (by omega)]
  have e1 : sigm x * 2 ^ more * 2 = sigm x * 2 ^ (more + 1) := by rw [Nat.pow_succ, Nat.mul_assoc]
  rw [e1]
  have hbig : 2 ^ 54 ≤ sigm x * 2 ^ (more + 1) / sigm y := by
    rw [Nat.le_div_iff_mul_le (by omega)]
    have a := log2_le nx
    have b := lt_log2 (sigm y)
    have c1 := Nat.mul_le_mul_right (2 ^ (more + 1)) a
    rw [← Nat.pow_add] at c1
    have c2 := Nat.mul_le_mul_left (2 ^ 54) (Nat.le_of_lt b)
    rw [← Nat.pow_add] at c2
    exact Nat.le_trans c2 (Nat.le_trans (Nat.pow_le_pow_right (by omega) (by omega)) c1)
  have href : roq (oM x * 2 ^ 56) (oM y) = roq (sigm x * 2 ^ (shf x + 56 - shf y)) (sigm y) := by
    unfold oM
    rw [Nat.mul_assoc, ← Nat.pow_add, ← roq_scale (sigm x * 2 ^ (shf x + 56 - shf y)) (sigm y) (2 ^ shf y) (pow_pos' _), Nat.mul_assoc, ← Nat.pow_add]
    congr 3; omega
  have hbig2 : 2 ^ 54 ≤ sigm x * 2 ^ (shf x + 56 - shf y) / sigm y := by
    have h1 : oM x * 2 ^ 56 / oM y = sigm x * 2 ^ (shf x + 56 - shf y) / sigm y := by
      unfold oM
      rw [Nat.mul_assoc, ← Nat.pow_add, ← Nat.mul_div_mul_right (sigm x * 2 ^ (shf x + 56 - shf y)) (sigm y) (pow_pos' (shf y)), Nat.mul_assoc, ← Nat.pow_add]
      congr 3; omega
    rw [← h1, Nat.le_div_iff_mul_le (by omega)]
    have h2 := Nat.mul_le_mul_right (2 ^ 56) gx
    have h3 := Nat.mul_le_mul_left (2 ^ 54) (Nat.le_of_lt ly)
    exact Nat.le_trans h3 (Nat.le_trans (by decide) h2)
  rw [href]
  have p2 : oE x - oE y - 56 = plc x - plc y - ((shf x + 56 - shf y : Nat) : Int) := by unfold oE; omega
  rw [p2, show plc x - plc y - (more : Int) - 1 = plc x - plc y - ((more + 1 : Nat) : Int) by omega]
  rcases Nat.le_total (more + 1) (shf x + 56 - shf y) with h | h
  · exact (quo_same _ _ _ _ _ _ (by omega) h hbig).symm
  · exact quo_same _ _ _ _ _ _ (by omega) h hbig2
end Flo
-- with Mq
namespace Flo
open Ieee
set_option linter.unusedVariables false
set_option linter.unusedSimpArgs false

def DivInv (A B k q r : Nat) : Prop := A * 2 ^ k = 2 * q * B + r ∧ r < 2 * B ∧ q < 2 ^ k
theorem divInv_zero {A B : Nat} (h : A < 2 * B) : DivInv A B 0 0 A := ⟨by simp, h, by simp⟩
theorem divInv_yes {A B k q r : Nat} (h : DivInv A B k q r) (hr : B ≤ r) : DivInv A B (k + 1) (q * 2 + 1) ((r - B) * 2) := by
  obtain ⟨h1, h2, h3⟩ := h
  refine ⟨?_, by omega, by rw [Nat.pow_succ]; omega⟩
  rw [Nat.pow_succ, ← Nat.mul_assoc, h1]
  rw [show 2 * (q * 2 + 1) * B = 2 * (2 * q * B) + 2 * B by rw [Nat.mul_add, Nat.add_mul, Nat.mul_comm q 2, Nat.mul_assoc 2 (2 * q) B]]
  omega
theorem divInv_no {A B k q r : Nat} (h : DivInv A B k q r) (hr : ¬ B ≤ r) : DivInv A B (k + 1) (q * 2) (r * 2) := by
  obtain ⟨h1, h2, h3⟩ := h
  refine ⟨?_, by omega, by rw [Nat.pow_succ]; omega⟩
  rw [Nat.pow_succ, ← Nat.mul_assoc, h1]
  rw [show 2 * (q * 2) * B = 2 * (2 * q * B) by rw [Nat.mul_comm q 2, Nat.mul_assoc 2 (2 * q) B]]
  omega
theorem divInv_last {A B q r n : Nat} (h : DivInv A B (n + 1) q r) (hB : 0 < B) : roq (A * 2 ^ n) B = if r = 0 then q else q / 2 * 2 + 1 := by
  obtain ⟨h1, h2, h3⟩ := h
  have e1 : A * 2 ^ (n + 1) = 2 * (A * 2 ^ n) := by rw [Nat.pow_succ, ← Nat.mul_assoc, Nat.mul_comm]
  rw [e1, Nat.mul_assoc] at h1
  have hr : r % 2 = 0 := by omega
  have h4 : A * 2 ^ n = B * q + r / 2 := by rw [Nat.mul_comm B q]; omega
  have hl : r / 2 < B := by omega
  unfold roq
  rw [h4, Nat.mul_add_mod, Nat.mod_eq_of_lt hl, Nat.mul_add_div hB, Nat.div_eq_of_lt hl, Nat.add_zero]
  by_cases h0 : r = 0
  · rw [if_pos h0, if_pos (by omega)]
  · rw [if_neg h0, if_neg (by omega)]
theorem divInv_end {A B q r : Nat} (h : DivInv A B 57 q r) (hB : 0 < B) : roq (A * 2 ^ 56) B = if r = 0 then q else q / 2 * 2 + 1 := divInv_last (n := 56) h hB
theorem divInv_bd {A B k q r : Nat} (h : DivInv A B k q r) (hk : k ≤ 57) (hB : B < 9007199254740992) : q < 144115188075855872 ∧ r < 18014398509481984 := by
  obtain ⟨h1, h2, h3⟩ := h
  have : 2 ^ k ≤ 2 ^ 57 := Nat.pow_le_pow_right (by omega) hk
  exact ⟨Nat.lt_of_lt_of_le h3 this, by omega⟩
end Flo
-- with Mr
namespace Flo
open Ieee
set_option linter.unusedVariables false
set_option linter.unusedSimpArgs false

theorem fDiv_ii {x y : Nat} (hx : rung x = 9218868437227405312) (hy : rung y = 9218868437227405312) : fDiv x y = NaN := by
  unfold fDiv Format.div; rw [read_inf hx, read_inf hy]; rfl
theorem fDiv_if {x y : Nat} (hx : rung x = 9218868437227405312) (hy : rung y < 9218868437227405312) : fDiv x y = D.word (sg x != sg y) 9218868437227405312 := by
  obtain ⟨n, q, e, _⟩ := read_fin hy
  unfold fDiv Format.div; rw [read_inf hx, e]
  show D.word (sg x ^^ sg y) D.infRung = _
  rw [d_inf, xor_eq]
theorem fDiv_fi {x y : Nat} (hx : rung x < 9218868437227405312) (hy : rung y = 9218868437227405312) : fDiv x y = D.word (sg x != sg y) 0 := by
  obtain ⟨n, q, e, _⟩ := read_fin hx
  unfold fDiv Format.div; rw [read_inf hy, e]
  show D.nearest (sg x ^^ sg y) 0 0 = _
  rw [xor_eq]; rfl
theorem fDiv_zz {x y : Nat} (hx : rung x = 0) (hy : rung y = 0) : fDiv x y = NaN := by
  unfold fDiv Format.div; rw [read_zero hx, read_zero hy]; rfl
theorem fDiv_fz {x y : Nat} (hx : rung x < 9218868437227405312) (h0 : rung x ≠ 0) (hy : rung y = 0) : fDiv x y = D.word (sg x != sg y) 9218868437227405312 := by
  obtain ⟨n, q, e, hn⟩ := read_pos hx h0
  unfold fDiv Format.div; rw [read_zero hy, e]
  unfold Datum.quotient
  dsimp only
  rw [if_pos rfl, if_neg hn]
  show D.word (sg x ^^ sg y) D.infRung = _
  rw [d_inf, xor_eq]
theorem fDiv_zf {x y : Nat} (hx : rung x = 0) (hy : rung y < 9218868437227405312) (h0 : rung y ≠ 0) : fDiv x y = D.word (sg x != sg y) 0 := by
  obtain ⟨n, q, e, hn⟩ := read_pos hy h0
  unfold fDiv Format.div; rw [read_zero hx, e]
  unfold Datum.quotient
  dsimp only
  rw [if_neg hn, Nat.zero_shiftLeft, Nat.zero_div, Nat.zero_mod]
  have hz : ∀ s p, fin (Option.map D.write (some (Datum.number s (2 * 0 + (0 != 0).toNat) p))) = D.word s 0 := fun s p => rfl
  rw [hz, xor_eq]
/-- The root of n, cut to a whole number. -/
def IsRoot (n w : Nat) : Prop := w * w ≤ n ∧ n < (w + 1) * (w + 1)
theorem isRoot_unique {n w v : Nat} (h : IsRoot n w) (k : IsRoot n v) : w = v := by
  rcases Nat.lt_trichotomy w v with c | c | c
  · have := Nat.mul_le_mul (show w + 1 ≤ v by omega) (show w + 1 ≤ v by omega)
    have h1 := h.2; have h2 := k.1; omega
  · exact c
  · have := Nat.mul_le_mul (show v + 1 ≤ w by omega) (show v + 1 ≤ w by omega)
    have h1 := k.2; have h2 := h.1; omega
theorem rootFrom_spec (n : Nat) : ∀ todo root, root * root ≤ n → n < (root + 2 ^ todo) * (root + 2 ^ todo) → IsRoot n (Datum.rootFrom n todo root) := by
  intro todo
  induction todo with
  | zero => intro root h1 h2; exact ⟨h1, h2⟩
  | succ t ih =>
    intro root h1 h2
    unfold Datum.rootFrom
    dsimp only
    rw [Nat.one_shiftLeft]
    split
    · rename_i h3
      refine ih _ h3 ?_
      rw [Nat.pow_succ] at h2
      rw [show root + 2 ^ t + 2 ^ t = root + 2 ^ t * 2 by omega]; exact h2
    · rename_i h3
      exact ih _ h1 (by omega)
theorem rootFrom_root (n : Nat) : IsRoot n (Datum.rootFrom n (n.log2 / 2 + 1) 0) := by
  refine rootFrom_spec n _ 0 (by omega) ?_
  rw [Nat.zero_add, ← Nat.pow_add]
  exact Nat.lt_of_lt_of_le (lt_log2 n) (Nat.pow_le_pow_right (by omega) (by omega))
/-- Twice the root, the last digit 1 if it is not whole. -/
def ros (n w : Nat) : Nat := 2 * w + (w * w != n).toNat
theorem ro_ros {n w w' j : Nat} (h : IsRoot n w) (h' : IsRoot (n * (2 ^ j * 2 ^ j)) w') : ro (ros (n * (2 ^ j * 2 ^ j)) w') j = ros n w := by
  have hj := pow_pos' j
  by_cases h0 : j = 0
  · subst h0
    rw [ro_zero]
    simp only [Nat.pow_zero, Nat.mul_one] at h' ⊢
    rw [isRoot_unique h h']
  obtain ⟨k, rfl⟩ : ∃ k, j = k + 1 := ⟨j - 1, by omega⟩
  have e2 : (2 : Nat) ^ (k + 1) = 2 * 2 ^ k := by rw [Nat.pow_succ, Nat.mul_comm]
  have hk := pow_pos' k
  by_cases hw : w * w = n
  · have hw' : w' = w * 2 ^ (k + 1) := by
      refine isRoot_unique h' ⟨?_, ?_⟩
      · rw [Nat.mul_mul_mul_comm, hw]; exact Nat.le_refl _
      · rw [← hw, ← Nat.mul_mul_mul_comm]
        generalize w * 2 ^ (k + 1) = u
        rw [Nat.add_mul, Nat.mul_add]; omega
    have hs : w' * w' = n * (2 ^ (k + 1) * 2 ^ (k + 1)) := by rw [hw', Nat.mul_mul_mul_comm, hw]
    unfold ros
    rw [bne_eq_false_iff_eq.2 hs, bne_eq_false_iff_eq.2 hw]
    show ro (2 * w' + 0) (k + 1) = 2 * w + 0
    simp only [Nat.add_zero]
    rw [hw']
    unfold ro
    rw [← Nat.mul_assoc, Nat.mul_mod_left, if_pos rfl, Nat.mul_div_cancel _ hj]
  · have hq : w' / 2 ^ (k + 1) = w := by
      have a1 : w * 2 ^ (k + 1) ≤ w' := by
        refine Nat.le_of_not_lt fun hc => ?_
        have := Nat.mul_le_mul (show w' + 1 ≤ w * 2 ^ (k + 1) by omega) (show w' + 1 ≤ w * 2 ^ (k + 1) by omega)
        rw [Nat.mul_mul_mul_comm w] at this
        have b := Nat.mul_le_mul_right (2 ^ (k + 1) * 2 ^ (k + 1)) h.1
        have c := h'.2
        omega
      have a2 : w' < (w + 1) * 2 ^ (k + 1) := by
        refine Nat.lt_of_not_le fun hc => ?_
        have := Nat.mul_le_mul hc hc
        rw [Nat.mul_mul_mul_comm (w + 1)] at this
        have b := Nat.mul_lt_mul_of_pos_right h.2 (Nat.mul_pos hj hj)
        have c := h'.1
        omega
      have a3 : w ≤ w' / 2 ^ (k + 1) := (Nat.le_div_iff_mul_le hj).2 a1
      have a4 : w' / 2 ^ (k + 1) < w + 1 := (Nat.div_lt_iff_lt_mul hj).2 a2
      omega
    have hw1 : (w * w != n).toNat = 1 := by rw [bne_iff_ne.2 hw]; rfl
    unfold ros
    rw [hw1]
    have hX : (2 * w' + (w' * w' != n * (2 ^ (k + 1) * 2 ^ (k + 1))).toNat) / 2 ^ (k + 1) = w' / 2 ^ k := by
      rw [e2, ← Nat.div_div_eq_div_mul]
      have := Bool.toNat_le (w' * w' != n * (2 * 2 ^ k * (2 * 2 ^ k)))
      congr 1; omega
    have hh : w' / 2 ^ k / 2 = w := by rw [Nat.div_div_eq_div_mul, Nat.mul_comm, ← e2]; exact hq
    unfold ro
    rw [hX]
    split
    · rename_i hm
      have hs : w' * w' = n * (2 ^ (k + 1) * 2 ^ (k + 1)) := by
        refine Decidable.byContradiction fun hne => ?_
        have h1 : (w' * w' != n * (2 ^ (k + 1) * 2 ^ (k + 1))).toNat = 1 := by rw [bne_iff_ne.2 hne]; rfl
        rw [h1] at hm
        have h2 : 2 ∣ 2 ^ (k + 1) := ⟨2 ^ k, e2⟩
        have h3 := Nat.mod_mod_of_dvd (2 * w' + 1) h2
        rw [hm] at h3; omega
      have h1 : (w' * w' != n * (2 ^ (k + 1) * 2 ^ (k + 1))).toNat = 0 := by rw [bne_eq_false_iff_eq.2 hs]; rfl
      rw [h1, Nat.add_zero] at hm hX
      have h2 := Nat.div_add_mod (2 * w') (2 ^ (k + 1))
      rw [hm, hX, Nat.add_zero, e2] at h2
      have h4 : w' = w' / 2 ^ k * 2 ^ k := by
        have : 2 * (2 ^ k * (w' / 2 ^ k)) = 2 * w' := by rw [← Nat.mul_assoc]; exact h2
        rw [Nat.mul_comm (2 ^ k)] at this; omega
      rcases (by omega : w' / 2 ^ k = 2 * w ∨ w' / 2 ^ k = 2 * w + 1) with c | c
      · exfalso
        rw [c] at h4
        rw [h4, e2, Nat.mul_mul_mul_comm, Nat.mul_mul_mul_comm 2 (2 ^ k)] at hs
        have h5 : 2 * w * (2 * w) = n * (2 * 2) := by
          exact Nat.eq_of_mul_eq_mul_right (Nat.mul_pos hk hk) (hs.trans (Nat.mul_assoc n (2 * 2) (2 ^ k * 2 ^ k)).symm)
        rw [Nat.mul_mul_mul_comm 2 w] at h5
        omega
      · exfalso
        rw [c] at h4
        rw [h4, e2, Nat.mul_mul_mul_comm, Nat.mul_mul_mul_comm 2 (2 ^ k)] at hs
        have h5 : (2 * w + 1) * (2 * w + 1) = n * (2 * 2) := by
          exact Nat.eq_of_mul_eq_mul_right (Nat.mul_pos hk hk) (hs.trans (Nat.mul_assoc n (2 * 2) (2 ^ k * 2 ^ k)).symm)
        have h6 : (2 * w + 1) * (2 * w + 1) = 2 * (w * (2 * w + 1)) + (2 * w + 1) := by rw [Nat.add_mul, Nat.one_mul, Nat.mul_assoc]
        omega
    · omega
theorem root_same (m K K' w w' : Nat) (i : Int) (hK : K ≤ K') (hp : ∃ j, K' = K + 2 * j) (h : IsRoot (m * 2 ^ K) w) (h' : IsRoot (m * 2 ^ K') w') (hb : 2 ^ 108 ≤ m * 2 ^ K) (he : (i - K) % 2 = 0) :
    D.nearest false (ros (m * 2 ^ K') w') ((i - K') / 2 - 1) = D.nearest false (ros (m * 2 ^ K) w) ((i - K) / 2 - 1) := by
  obtain ⟨j, rfl⟩ := hp
  have e : m * 2 ^ (K + 2 * j) = m * 2 ^ K * (2 ^ j * 2 ^ j) := by rw [← Nat.pow_add, Nat.mul_assoc, ← Nat.pow_add]; congr 2; omega
  rw [e] at h' ⊢
  have hr := ro_ros h h'
  have hw : 2 ^ 53 ≤ w := by
    refine Nat.le_of_not_lt fun hc => ?_
    have := Nat.mul_le_mul (show w + 1 ≤ 2 ^ 53 by omega) (show w + 1 ≤ 2 ^ 53 by omega)
    have h2 := h.2
    have h3 : (2 : Nat) ^ 53 * 2 ^ 53 ≤ 2 ^ 108 := by decide
    omega
  rw [← hr]
  have hN : ros (m * 2 ^ K * (2 ^ j * 2 ^ j)) w' % 2 ^ j = 0 ∨ 2 ^ 54 ≤ ros (m * 2 ^ K * (2 ^ j * 2 ^ j)) w' / 2 ^ j := by
    right
    have h1 : ros (m * 2 ^ K) w ≤ ros (m * 2 ^ K * (2 ^ j * 2 ^ j)) w' / 2 ^ j + 1 := by rw [← hr]; exact ro_le _ _
    have h2 : 2 * w ≤ ros (m * 2 ^ K) w := by unfold ros; omega
    have h3 : ∀ X : Nat, ro X j = ros (m * 2 ^ K) w → 2 * w ≤ X / 2 ^ j ∨ X / 2 ^ j + 1 = 2 * w + 1 ∨ X / 2 ^ j / 2 * 2 + 1 = 2 * w := fun X hX => by
      have : ros (m * 2 ^ K) w ≤ 2 * w + 1 := by unfold ros; have := Bool.toNat_le (w * w != m * 2 ^ K); omega
      unfold ro at hX; split at hX <;> omega
    rcases h3 _ hr with c | c | c <;> omega
  have := nearest_ro false ((i - ((K + 2 * j : Nat) : Int)) / 2 - 1) hN
  rw [← this]
  congr 1; omega
theorem sqrt_fin {x : Nat} {A : Nat} {E : Int} {w : Nat} (hx : rung x < 9218868437227405312) (zx : rung x ≠ 0) (hs : sg x = false)
    (hA : (oE x % 2 = 0 ∧ A = oM x ∧ E = oE x) ∨ (oE x % 2 ≠ 0 ∧ A = oM x * 2 ∧ E = oE x - 1)) (hw : IsRoot (A * 2 ^ 62) w) :
    fSqrt x = D.nearest false (ros (A * 2 ^ 62) w) (E / 2 - 32) := by
  have gx := oM_ge zx
  have lx := oM_lt x
  have sx := shf_le x
  have nx : sigm x ≠ 0 := fun e => zx ((sigm_zero x).1 e)
  have rx : D.read x = .number false (sigm x) (plc x) := by
    rw [read_rs, hs]; unfold sigm plc
    by_cases h : rung x < 4503599627370496
    · rw [if_pos h, if_pos h, if_pos h]
    · rw [if_neg h, if_neg h, if_neg h, if_pos hx]; congr 1; omega
  have l1 : (sigm x).log2 < 53 := (Nat.log2_lt nx).2 (sigm_lt x)
  obtain ⟨a, ha⟩ : ∃ a, 2 * 54 - (sigm x).log2 = a := ⟨_, rfl⟩
  obtain ⟨more, hmore⟩ : ∃ k, a + ((plc x - (a : Int)) % 2).toNat = k := ⟨_, rfl⟩
  have hsq : fSqrt x = D.nearest false (ros (sigm x * 2 ^ more) (Datum.rootFrom (sigm x * 2 ^ more) ((sigm x * 2 ^ more).log2 / 2 + 1) 0)) ((plc x - (more : Int)) / 2 - 1) := by
    unfold fSqrt Format.sqrt
    rw [rx]
    unfold Datum.root
    dsimp only
    rw [if_neg nx, if_neg (by simp)]
    show D.nearest false (2 * Datum.rootFrom (sigm x <<< (2 * 54 - (sigm x).log2 + ((plc x - ((2 * 54 - (sigm x).log2 : Nat) : Int)) % 2).toNat)) ((sigm x <<< (2 * 54 - (sigm x).log2 + ((plc x - ((2 * 54 - (sigm x).log2 : Nat) : Int)) % 2).toNat)).log2 / 2 + 1) 0 + (Datum.rootFrom (sigm x <<< (2 * 54 - (sigm x).log2 + ((plc x - ((2 * 54 - (sigm x).log2 : Nat) : Int)) % 2).toNat)) ((sigm x <<< (2 * 54 - (sigm x).log2 + ((plc x - ((2 * 54 - (sigm x).log2 : Nat) : Int)) % 2).toNat)).log2 / 2 + 1) 0 * Datum.rootFrom (sigm x <<< (2 * 54 - (sigm x).log2 + ((plc x - ((2 * 54 - (sigm x).log2 : Nat) : Int)) % 2).toNat)) ((sigm x <<< (2 * 54 - (sigm x).log2 + ((plc x - ((2 * 54 - (sigm x).log2 : Nat) : Int)) % 2).toNat)).log2 / 2 + 1) 0 != sigm x <<< (2 * 54 - (sigm x).log2 + ((plc x - ((2 * 54 - (sigm x).log2 : Nat) : Int)) % 2).toNat)).toNat) ((plc x - ((2 * 54 - (sigm x).log2 + ((plc x - ((2 * 54 - (sigm x).log2 : Nat) : Int)) % 2).toNat : Nat) : Int)) / 2 - 1) = _
    rw [ha, hmore, Nat.shiftLeft_eq]; rfl
  have hroot := rootFrom_root (sigm x * 2 ^ more)
  rw [hsq]
  generalize Datum.rootFrom (sigm x * 2 ^ more) ((sigm x * 2 ^ more).log2 / 2 + 1) 0 = v at hroot ⊢
  have hb1 : 2 ^ 108 ≤ sigm x * 2 ^ more := by
    have h1 := Nat.mul_le_mul_right (2 ^ more) (log2_le nx)
    rw [← Nat.pow_add] at h1
    exact Nat.le_trans (Nat.pow_le_pow_right (by omega) (by omega)) h1
  obtain ⟨o, ho⟩ : ∃ o : Nat, o ≤ 1 ∧ A = oM x * 2 ^ o ∧ E = oE x - o ∧ E % 2 = 0 := by
    rcases hA with ⟨h1, h2, h3⟩ | ⟨h1, h2, h3⟩
    · exact ⟨0, by omega, by rw [h2]; simp, by omega, by omega⟩
    · exact ⟨1, by omega, by rw [h2], by omega, by omega⟩
  obtain ⟨o1, o2, o3, o4⟩ := ho
  have hA2 : A * 2 ^ 62 = sigm x * 2 ^ (shf x + o + 62) := by
    rw [o2]; unfold oM; rw [Nat.mul_assoc, Nat.mul_assoc, ← Nat.pow_add, ← Nat.pow_add]; congr 2 <;> omega
  rw [hA2] at hw ⊢
  have hb2 : 2 ^ 108 ≤ sigm x * 2 ^ (shf x + o + 62) := by
    rw [← hA2, o2]
    have h1 := Nat.mul_le_mul gx (Nat.mul_le_mul (pow_pos' o) (Nat.le_refl (2 ^ 62)))
    rw [← Nat.mul_assoc (oM x)] at h1
    exact Nat.le_trans (by decide) h1
  have hE : E / 2 - 32 = (plc x - ((shf x + o + 62 : Nat) : Int)) / 2 - 1 := by unfold oE at o3; omega
  have hpar : (plc x - ((shf x + o + 62 : Nat) : Int)) % 2 = 0 := by unfold oE at o3; omega
  have hpar2 : (plc x - (more : Int)) % 2 = 0 := by omega
  rw [hE]
  rcases Nat.le_total more (shf x + o + 62) with h | h
  · exact (root_same _ _ _ _ _ _ h ⟨(shf x + o + 62 - more) / 2, by omega⟩ hroot hw hb1 hpar2).symm
  · exact root_same _ _ _ _ _ _ h ⟨(more - (shf x + o + 62)) / 2, by omega⟩ hw hroot hb2 hpar
end Flo
-- with Ms
namespace Flo
open Ieee
set_option linter.unusedVariables false
set_option linter.unusedSimpArgs false

/-- The first digits, in base 4, of A: k of them, beginning with the 27th before the point. -/
def pre (A k : Nat) : Nat := if k ≤ 27 then A / 2 ^ (2 * (27 - k)) else A * 2 ^ (2 * (k - 27))
def SqInv (A k root rest : Nat) : Prop := pre A k = root * root + rest ∧ rest ≤ 2 * root ∧ root < 2 ^ k
theorem sqInv_zero {A : Nat} (h : A < 18014398509481984) : SqInv A 0 0 0 := by
  refine ⟨?_, by omega, by simp⟩
  unfold pre; rw [if_pos (by omega)]
  exact Nat.div_eq_of_lt h
theorem pre_low {A k : Nat} (h : k ≤ 26) : pre A (k + 1) = 4 * pre A k + A / 2 ^ (2 * (26 - k)) % 4 := by
  unfold pre
  rw [if_pos (by omega), if_pos (by omega)]
  have e : 2 ^ (2 * (27 - k)) = 2 ^ (2 * (26 - k)) * 4 := by
    rw [show 2 * (27 - k) = 2 * (26 - k) + 2 by omega, Nat.pow_add]
  rw [e, ← Nat.div_div_eq_div_mul, show 27 - (k + 1) = 26 - k by omega]
  omega
theorem pre_high {A k : Nat} (h : 27 ≤ k) : pre A (k + 1) = 4 * pre A k := by
  unfold pre
  rw [if_neg (by omega)]
  by_cases h1 : k = 27
  · subst h1; rw [if_pos (by omega)]; simp; omega
  · rw [if_neg (by omega), show 2 * (k + 1 - 27) = 2 * (k - 27) + 2 by omega, Nat.pow_add, ← Nat.mul_assoc]; omega
theorem sq_yes {A k root rest two : Nat} (h : SqInv A k root rest) (hp : pre A (k + 1) = 4 * pre A k + two) (h2 : two < 4) (hr : root * 4 + 1 ≤ rest * 4 + two) :
    SqInv A (k + 1) (root * 2 + 1) (rest * 4 + two - (root * 4 + 1)) := by
  obtain ⟨a, b, c⟩ := h
  have e : (root * 2 + 1) * (root * 2 + 1) = 4 * (root * root) + (root * 4 + 1) := by
    rw [Nat.add_mul, Nat.mul_add, Nat.mul_mul_mul_comm]; omega
  exact ⟨by rw [hp, a, e]; omega, by omega, by rw [Nat.pow_succ]; omega⟩
theorem sq_no {A k root rest two : Nat} (h : SqInv A k root rest) (hp : pre A (k + 1) = 4 * pre A k + two) (h2 : two < 4) (hr : ¬ root * 4 + 1 ≤ rest * 4 + two) :
    SqInv A (k + 1) (root * 2) (rest * 4 + two) := by
  obtain ⟨a, b, c⟩ := h
  have e : (root * 2) * (root * 2) = 4 * (root * root) := by rw [Nat.mul_mul_mul_comm]; omega
  exact ⟨by rw [hp, a, e]; omega, by omega, by rw [Nat.pow_succ]; omega⟩
theorem sq_bd {A k root rest : Nat} (h : SqInv A k root rest) (hk : k ≤ 58) : root < 288230376151711744 ∧ rest < 576460752303423488 := by
  obtain ⟨a, b, c⟩ := h
  have : 2 ^ k ≤ 2 ^ 58 := Nat.pow_le_pow_right (by omega) hk
  exact ⟨Nat.lt_of_lt_of_le c this, by have := Nat.lt_of_lt_of_le c this; omega⟩
theorem sq_end {A root rest : Nat} (h : SqInv A 58 root rest) : IsRoot (A * 2 ^ 62) root ∧ ros (A * 2 ^ 62) root = if rest = 0 then root * 2 else root * 2 + 1 := by
  obtain ⟨a, b, c⟩ := h
  have ep : pre A 58 = A * 2 ^ 62 := rfl
  rw [ep] at a
  refine ⟨⟨by omega, ?_⟩, ?_⟩
  · rw [a, Nat.add_mul, Nat.mul_add]; omega
  · unfold ros
    by_cases h0 : rest = 0
    · have e : root * root = A * 2 ^ 62 := by omega
      rw [if_pos h0, bne_eq_false_iff_eq.2 e]
      show 2 * root + 0 = _
      omega
    · have e : root * root ≠ A * 2 ^ 62 := by omega
      rw [if_neg h0, bne_iff_ne.2 e]
      show 2 * root + 1 = _
      omega
end Flo
-- with Mt
namespace Flo
open Ieee
set_option linter.unusedVariables false
set_option linter.unusedSimpArgs false

theorem fSqrt_nan {x : Nat} (h : nanB x = true) : fSqrt x = NaN := by
  obtain ⟨s, t, e⟩ := read_nan h
  unfold fSqrt Format.sqrt; rw [e]; rfl
theorem fSqrt_inf {x : Nat} (hlt : x < 18446744073709551616) (hx : rung x = 9218868437227405312) (hs : sg x = false) : fSqrt x = x := by
  unfold fSqrt Format.sqrt; rw [read_inf hx, hs]
  show D.word false D.infRung = x
  rw [d_inf, ← hs, ← hx, word_self hlt]
theorem fSqrt_minf {x : Nat} (hx : rung x = 9218868437227405312) (hs : sg x = true) : fSqrt x = NaN := by
  unfold fSqrt Format.sqrt; rw [read_inf hx, hs]; rfl
theorem fSqrt_zero {x : Nat} (hlt : x < 18446744073709551616) (hx : rung x = 0) : fSqrt x = x := by
  unfold fSqrt Format.sqrt; rw [read_zero hx]
  show D.nearest (sg x) 0 (-1074) = x
  rw [nearest_zero, ← hx, word_self hlt]
theorem fSqrt_minus {x : Nat} (hx : rung x < 9218868437227405312) (h0 : rung x ≠ 0) (hs : sg x = true) : fSqrt x = NaN := by
  obtain ⟨n, q, e, hn⟩ := read_pos hx h0
  unfold fSqrt Format.sqrt; rw [e, hs]
  unfold Datum.root
  dsimp only
  rw [if_neg hn, if_pos rfl]; rfl
end Flo
