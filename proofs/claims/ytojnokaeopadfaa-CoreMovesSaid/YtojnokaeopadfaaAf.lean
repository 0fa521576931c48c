import Derived.Test.YtojnokaeopadfaaAa
import Derived.Test.YtojnokaeopadfaaAb
import Derived.Test.YtojnokaeopadfaaAc
import Derived.Test.YtojnokaeopadfaaAd
import Derived.Test.YtojnokaeopadfaaAe
import Derived.Test.YtojnokaeopadfaaMa
namespace Go.Proofs.Ytojnokaeopadfaa
open Go.RowKit
set_option linter.unusedVariables false
set_option linter.unusedSimpArgs false

theorem bit_or_one (q : Nat) (h : q < 18446744073709551616) : bits .or .u64 (q : Int) 1 = ((q / 2 * 2 + 1 : Nat) : Int) := by
  refine (u64_or_nat q 1 h (by omega)).trans ?_
  rw [Flo.or_one]
theorem low_bits (B d : Nat) (hB : B < 18446744073709551616) (hd : d ≤ 62) : bits .and .u64 (B : Int) (IntKind.u64.wrap (((2 ^ d : Nat) : Int) - 1)) = ((B % 2 ^ d : Nat) : Int) := by
  have p1 : 2 ^ d ≤ 2 ^ 62 := Nat.pow_le_pow_right (by omega) hd
  have p2 := Nat.two_pow_pos d
  have e1 : ((2 ^ d : Nat) : Int) - 1 = ((2 ^ d - 1 : Nat) : Int) := by omega
  rw [e1, wrap_u64_nat _ (by omega), u64_and_nat B (2 ^ d - 1) hB (by omega), Nat.and_two_pow_sub_one_eq_mod]
theorem pow_wrap (d : Nat) (hd : d ≤ 62) : IntKind.u64.wrap (2 ^ d) = ((2 ^ d : Nat) : Int) := by
  have p1 : 2 ^ d ≤ 2 ^ 62 := Nat.pow_le_pow_right (by omega) hd
  rw [int_pow]; exact wrap_u64_nat _ (by omega)
theorem mul512 (M : Nat) (h : M < 9007199254740992) : IntKind.u64.wrap ((M : Int) * 512) = ((M * 512 : Nat) : Int) := by
  rw [IntKind.wrap_u64]; omega
theorem wrap_add (A b : Nat) (hA : A < 4611686018427387904) (hb : b ≤ 4611686018427387904) : IntKind.u64.wrap ((A : Int) + b) = ((A + b : Nat) : Int) := by
  rw [IntKind.wrap_u64]; omega
theorem wrap_sub (A b : Nat) (hA : A < 4611686018427387904) (hb : b ≤ A) : IntKind.u64.wrap ((A : Int) - b) = ((A - b : Nat) : Int) := by
  rw [IntKind.wrap_u64]; omega
theorem bne_true {l : Nat} (h : l ≠ 0) : ((l : Int) != 0) = true := by simpa using h
theorem bne_false {l : Nat} (h : l = 0) : ((l : Int) != 0) = false := by subst h; rfl
theorem beq_false_nat {a b : Nat} (h : a ≠ b) : ((a : Int) == b) = false := by rw [beq_eq_false_iff_ne]; omega
theorem radd_i_same (x y Mx My d : Nat) (Ex Ey : Int) (sx sy : Bool) (w : World) (b1 : -1200 ≤ Ex) (b2 : Ex ≤ 1000) (b3 : -1200 ≤ Ey) (b4 : Ey ≤ 1000)
    (H1 : Hid (OfC x 102 sx Mx Ex)) (H2 : Hid (OfC y 102 sy My Ey)) (m1 : Mx < 9007199254740992) (m2 : My < 9007199254740992) (n1 : Mx ≠ 0) (n2 : My ≠ 0)
    (ho : Ey < Ex) (hd : Ex - Ey = (d : Int)) (hd1 : 1 ≤ d) (hs : sx = sy) (hge : 4503599627370496 ≤ Mx) :
    Calls Try.prog 42 #[.int .u64 x, .int .u64 y] w fun e w' => e = .returned (.int .u64 (Ieee.double.nearest sx (Mx * 512 + Flo.ro (My * 512) d) (Ex - 9) : Nat)) ∧ Grown w w' := by
  have z1 : ((Mx : Int) == 0) = false := by rw [beq_eq_false_iff_ne]; omega
  have z2 : ((My : Int) == 0) = false := by rw [beq_eq_false_iff_ne]; omega
  have hA := mul512 Mx m1
  have hB := mul512 My m2
  have hro := Flo.ro_le (My * 512) d
  have hq : My * 512 / 2 ^ d ≤ My * 512 / 2 ^ 1 := Nat.div_le_div_left (Nat.pow_le_pow_right (by omega) hd1) (by omega)
  have hR := fun w => round_any sx (Mx * 512 + Flo.ro (My * 512) d) (Ex - 9) w (by omega) (by omega) (by omega)
  have HR := Lib.hid hR
  clear hR
  by_cases c1 : 62 < d
  · have e : Flo.ro (My * 512) d = 1 := by
      refine Flo.ro_far (by omega) (Nat.lt_of_lt_of_le (by omega : My * 512 < 2 ^ 62) (Nat.pow_le_pow_right (by omega) (by omega)))
    rw [e] at HR ⊢
    exact radd_i_far_same d x y Mx My (Mx * 512) (My * 512) (Mx * 512 + 1) Ex Ey sx sy w b1 b2 b3 b4 H1 H2 z1 z2 ho hA hB hd hd1 c1 hs (wrap_add (Mx * 512) 1 (by omega) (by omega)) _ HR
  · have c2 : d ≤ 62 := by omega
    have hl := low_bits (My * 512) d (by omega) c2
    have hqq : ((My * 512 : Nat) : Int) / 2 ^ d = ((My * 512 / 2 ^ d : Nat) : Int) := by rw [int_pow]; rfl
    by_cases c3 : My * 512 % 2 ^ d = 0
    · have e : Flo.ro (My * 512) d = My * 512 / 2 ^ d := by unfold Flo.ro; rw [if_pos c3]
      rw [e] at HR ⊢
      exact radd_i_even_same (2 ^ d) _ _ d x y Mx My (Mx * 512) (My * 512) (Mx * 512 + My * 512 / 2 ^ d) Ex Ey sx sy w b1 b2 b3 b4 H1 H2 z1 z2 ho hA hB hd hd1 c2 (pow_wrap d c2) hl hqq (bne_false c3) hs (wrap_add (Mx * 512) _ (by omega) (by omega)) _ HR
    · have e : Flo.ro (My * 512) d = My * 512 / 2 ^ d / 2 * 2 + 1 := by unfold Flo.ro; rw [if_neg c3]
      rw [e] at HR ⊢
      exact radd_i_odd_same _ (2 ^ d) _ _ d x y Mx My (Mx * 512) (My * 512) (Mx * 512 + (My * 512 / 2 ^ d / 2 * 2 + 1)) Ex Ey sx sy w b1 b2 b3 b4 H1 H2 z1 z2 ho hA hB hd hd1 c2 (pow_wrap d c2) hl hqq (bne_true c3) (bit_or_one _ (by omega)) hs (wrap_add (Mx * 512) _ (by omega) (by omega)) _ HR
theorem radd_i_diff (x y Mx My d : Nat) (Ex Ey : Int) (sx sy : Bool) (w : World) (b1 : -1200 ≤ Ex) (b2 : Ex ≤ 1000) (b3 : -1200 ≤ Ey) (b4 : Ey ≤ 1000)
    (H1 : Hid (OfC x 102 sx Mx Ex)) (H2 : Hid (OfC y 102 sy My Ey)) (m1 : Mx < 9007199254740992) (m2 : My < 9007199254740992) (n1 : Mx ≠ 0) (n2 : My ≠ 0)
    (ho : Ey < Ex) (hd : Ex - Ey = (d : Int)) (hd1 : 1 ≤ d) (hs : (sx == sy) = false) (hge : 4503599627370496 ≤ Mx) :
    Calls Try.prog 42 #[.int .u64 x, .int .u64 y] w fun e w' => e = .returned (.int .u64 (Ieee.double.nearest sx (Mx * 512 - Flo.ro (My * 512) d) (Ex - 9) : Nat)) ∧ Grown w w' := by
  have z1 : ((Mx : Int) == 0) = false := by rw [beq_eq_false_iff_ne]; omega
  have z2 : ((My : Int) == 0) = false := by rw [beq_eq_false_iff_ne]; omega
  have hA := mul512 Mx m1
  have hB := mul512 My m2
  have hro := Flo.ro_le (My * 512) d
  have hq : My * 512 / 2 ^ d ≤ My * 512 / 2 ^ 1 := Nat.div_le_div_left (Nat.pow_le_pow_right (by omega) hd1) (by omega)
  have hR := fun w => round_any sx (Mx * 512 - Flo.ro (My * 512) d) (Ex - 9) w (by omega) (by omega) (by omega)
  have HR := Lib.hid hR
  clear hR
  by_cases c1 : 62 < d
  · have e : Flo.ro (My * 512) d = 1 := by
      refine Flo.ro_far (by omega) (Nat.lt_of_lt_of_le (by omega : My * 512 < 2 ^ 62) (Nat.pow_le_pow_right (by omega) (by omega)))
    rw [e] at HR ⊢
    exact radd_i_far_diff d x y Mx My (Mx * 512) (My * 512) (Mx * 512 - 1) Ex Ey sx sy w b1 b2 b3 b4 H1 H2 z1 z2 ho hA hB hd hd1 c1 hs (beq_false_nat (b := 1) (by omega)) (wrap_sub (Mx * 512) 1 (by omega) (by omega)) _ HR
  · have c2 : d ≤ 62 := by omega
    have hl := low_bits (My * 512) d (by omega) c2
    have hqq : ((My * 512 : Nat) : Int) / 2 ^ d = ((My * 512 / 2 ^ d : Nat) : Int) := by rw [int_pow]; rfl
    by_cases c3 : My * 512 % 2 ^ d = 0
    · have e : Flo.ro (My * 512) d = My * 512 / 2 ^ d := by unfold Flo.ro; rw [if_pos c3]
      rw [e] at HR ⊢
      exact radd_i_even_diff (2 ^ d) _ _ d x y Mx My (Mx * 512) (My * 512) (Mx * 512 - My * 512 / 2 ^ d) Ex Ey sx sy w b1 b2 b3 b4 H1 H2 z1 z2 ho hA hB hd hd1 c2 (pow_wrap d c2) hl hqq (bne_false c3) hs (beq_false_nat (by omega)) (wrap_sub (Mx * 512) _ (by omega) (by omega)) _ HR
    · have e : Flo.ro (My * 512) d = My * 512 / 2 ^ d / 2 * 2 + 1 := by unfold Flo.ro; rw [if_neg c3]
      rw [e] at HR ⊢
      exact radd_i_odd_diff _ (2 ^ d) _ _ d x y Mx My (Mx * 512) (My * 512) (Mx * 512 - (My * 512 / 2 ^ d / 2 * 2 + 1)) Ex Ey sx sy w b1 b2 b3 b4 H1 H2 z1 z2 ho hA hB hd hd1 c2 (pow_wrap d c2) hl hqq (bne_true c3) (bit_or_one _ (by omega)) hs (beq_false_nat (by omega)) (wrap_sub (Mx * 512) _ (by omega) (by omega)) _ HR
theorem radd_iii_same (x y Mx My d : Nat) (Ex Ey : Int) (sx sy : Bool) (w : World) (b1 : -1200 ≤ Ex) (b2 : Ex ≤ 1000) (b3 : -1200 ≤ Ey) (b4 : Ey ≤ 1000)
    (H1 : Hid (OfC x 102 sx Mx Ex)) (H2 : Hid (OfC y 102 sy My Ey)) (m1 : Mx < 9007199254740992) (m2 : My < 9007199254740992) (n1 : Mx ≠ 0) (n2 : My ≠ 0)
    (ho : Ex < Ey) (hd : Ey - Ex = (d : Int)) (hd1 : 1 ≤ d) (hs : sx = sy) (hge : 4503599627370496 ≤ My) :
    Calls Try.prog 42 #[.int .u64 x, .int .u64 y] w fun e w' => e = .returned (.int .u64 (Ieee.double.nearest sy (My * 512 + Flo.ro (Mx * 512) d) (Ey - 9) : Nat)) ∧ Grown w w' := by
  have z1 : ((Mx : Int) == 0) = false := by rw [beq_eq_false_iff_ne]; omega
  have z2 : ((My : Int) == 0) = false := by rw [beq_eq_false_iff_ne]; omega
  have hA := mul512 My m2
  have hB := mul512 Mx m1
  have hro := Flo.ro_le (Mx * 512) d
  have hq : Mx * 512 / 2 ^ d ≤ Mx * 512 / 2 ^ 1 := Nat.div_le_div_left (Nat.pow_le_pow_right (by omega) hd1) (by omega)
  have hR := fun w => round_any sy (My * 512 + Flo.ro (Mx * 512) d) (Ey - 9) w (by omega) (by omega) (by omega)
  have HR := Lib.hid hR
  clear hR
  by_cases c1 : 62 < d
  · have e : Flo.ro (Mx * 512) d = 1 := by
      refine Flo.ro_far (by omega) (Nat.lt_of_lt_of_le (by omega : Mx * 512 < 2 ^ 62) (Nat.pow_le_pow_right (by omega) (by omega)))
    rw [e] at HR ⊢
    exact radd_iii_far_same d x y Mx My (My * 512) (Mx * 512) (My * 512 + 1) Ex Ey sx sy w b1 b2 b3 b4 H1 H2 z1 z2 ho hA hB hd hd1 c1 hs (wrap_add (My * 512) 1 (by omega) (by omega)) _ HR
  · have c2 : d ≤ 62 := by omega
    have hl := low_bits (Mx * 512) d (by omega) c2
    have hqq : ((Mx * 512 : Nat) : Int) / 2 ^ d = ((Mx * 512 / 2 ^ d : Nat) : Int) := by rw [int_pow]; rfl
    by_cases c3 : Mx * 512 % 2 ^ d = 0
    · have e : Flo.ro (Mx * 512) d = Mx * 512 / 2 ^ d := by unfold Flo.ro; rw [if_pos c3]
      rw [e] at HR ⊢
      exact radd_iii_even_same (2 ^ d) _ _ d x y Mx My (My * 512) (Mx * 512) (My * 512 + Mx * 512 / 2 ^ d) Ex Ey sx sy w b1 b2 b3 b4 H1 H2 z1 z2 ho hA hB hd hd1 c2 (pow_wrap d c2) hl hqq (bne_false c3) hs (wrap_add (My * 512) _ (by omega) (by omega)) _ HR
    · have e : Flo.ro (Mx * 512) d = Mx * 512 / 2 ^ d / 2 * 2 + 1 := by unfold Flo.ro; rw [if_neg c3]
      rw [e] at HR ⊢
      exact radd_iii_odd_same _ (2 ^ d) _ _ d x y Mx My (My * 512) (Mx * 512) (My * 512 + (Mx * 512 / 2 ^ d / 2 * 2 + 1)) Ex Ey sx sy w b1 b2 b3 b4 H1 H2 z1 z2 ho hA hB hd hd1 c2 (pow_wrap d c2) hl hqq (bne_true c3) (bit_or_one _ (by omega)) hs (wrap_add (My * 512) _ (by omega) (by omega)) _ HR
theorem radd_iii_diff (x y Mx My d : Nat) (Ex Ey : Int) (sx sy : Bool) (w : World) (b1 : -1200 ≤ Ex) (b2 : Ex ≤ 1000) (b3 : -1200 ≤ Ey) (b4 : Ey ≤ 1000)
    (H1 : Hid (OfC x 102 sx Mx Ex)) (H2 : Hid (OfC y 102 sy My Ey)) (m1 : Mx < 9007199254740992) (m2 : My < 9007199254740992) (n1 : Mx ≠ 0) (n2 : My ≠ 0)
    (ho : Ex < Ey) (hd : Ey - Ex = (d : Int)) (hd1 : 1 ≤ d) (hs : (sy == sx) = false) (hge : 4503599627370496 ≤ My) :
    Calls Try.prog 42 #[.int .u64 x, .int .u64 y] w fun e w' => e = .returned (.int .u64 (Ieee.double.nearest sy (My * 512 - Flo.ro (Mx * 512) d) (Ey - 9) : Nat)) ∧ Grown w w' := by
  have z1 : ((Mx : Int) == 0) = false := by rw [beq_eq_false_iff_ne]; omega
  have z2 : ((My : Int) == 0) = false := by rw [beq_eq_false_iff_ne]; omega
  have hA := mul512 My m2
  have hB := mul512 Mx m1
  have hro := Flo.ro_le (Mx * 512) d
  have hq : Mx * 512 / 2 ^ d ≤ Mx * 512 / 2 ^ 1 := Nat.div_le_div_left (Nat.pow_le_pow_right (by omega) hd1) (by omega)
  have hR := fun w => round_any sy (My * 512 - Flo.ro (Mx * 512) d) (Ey - 9) w (by omega) (by omega) (by omega)
  have HR := Lib.hid hR
  clear hR
  by_cases c1 : 62 < d
  · have e : Flo.ro (Mx * 512) d = 1 := by
      refine Flo.ro_far (by omega) (Nat.lt_of_lt_of_le (by omega : Mx * 512 < 2 ^ 62) (Nat.pow_le_pow_right (by omega) (by omega)))
    rw [e] at HR ⊢
    exact radd_iii_far_diff d x y Mx My (My * 512) (Mx * 512) (My * 512 - 1) Ex Ey sx sy w b1 b2 b3 b4 H1 H2 z1 z2 ho hA hB hd hd1 c1 hs (beq_false_nat (b := 1) (by omega)) (wrap_sub (My * 512) 1 (by omega) (by omega)) _ HR
  · have c2 : d ≤ 62 := by omega
    have hl := low_bits (Mx * 512) d (by omega) c2
    have hqq : ((Mx * 512 : Nat) : Int) / 2 ^ d = ((Mx * 512 / 2 ^ d : Nat) : Int) := by rw [int_pow]; rfl
    by_cases c3 : Mx * 512 % 2 ^ d = 0
    · have e : Flo.ro (Mx * 512) d = Mx * 512 / 2 ^ d := by unfold Flo.ro; rw [if_pos c3]
      rw [e] at HR ⊢
      exact radd_iii_even_diff (2 ^ d) _ _ d x y Mx My (My * 512) (Mx * 512) (My * 512 - Mx * 512 / 2 ^ d) Ex Ey sx sy w b1 b2 b3 b4 H1 H2 z1 z2 ho hA hB hd hd1 c2 (pow_wrap d c2) hl hqq (bne_false c3) hs (beq_false_nat (by omega)) (wrap_sub (My * 512) _ (by omega) (by omega)) _ HR
    · have e : Flo.ro (Mx * 512) d = Mx * 512 / 2 ^ d / 2 * 2 + 1 := by unfold Flo.ro; rw [if_neg c3]
      rw [e] at HR ⊢
      exact radd_iii_odd_diff _ (2 ^ d) _ _ d x y Mx My (My * 512) (Mx * 512) (My * 512 - (Mx * 512 / 2 ^ d / 2 * 2 + 1)) Ex Ey sx sy w b1 b2 b3 b4 H1 H2 z1 z2 ho hA hB hd hd1 c2 (pow_wrap d c2) hl hqq (bne_true c3) (bit_or_one _ (by omega)) hs (beq_false_nat (by omega)) (wrap_sub (My * 512) _ (by omega) (by omega)) _ HR
theorem bits_and_zero (B : Nat) (h : B < 18446744073709551616) : bits .and .u64 (B : Int) 0 = 0 := by
  refine (u64_and_nat B 0 h (by omega)).trans ?_
  rw [Nat.and_zero]; rfl
end Go.Proofs.Ytojnokaeopadfaa
