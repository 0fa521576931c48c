import Derived.Test.YtojnokaeopadfaaFe
import Derived.Test.YtojnokaeopadfaaFf
namespace Go.Proofs.Ytojnokaeopadfaa
open Go.RowKit
set_option linter.unusedVariables false
set_option linter.unusedSimpArgs false

theorem or_low (y : Int) (f : Nat) (h0 : 0 ≤ y) (h1 : y < 2048) (hf : f < 4503599627370496) : bits .or .u64 (y * 4503599627370496) (f : Int) = ((y.toNat * 4503599627370496 + f : Nat) : Int) := by
  obtain ⟨n, rfl⟩ := Int.eq_ofNat_of_zero_le h0
  have e : (n : Int) * 4503599627370496 = ((n * 4503599627370496 : Nat) : Int) := by omega
  rw [e]
  refine (u64_or_nat (n * 4503599627370496) f (by omega) (by omega)).trans ?_
  rw [nat_join 52 (n * 4503599627370496) f (by omega) hf, Int.toNat_natCast]
theorem or_none (y : Int) (h0 : 0 ≤ y) (h1 : y < 2048) : bits .or .u64 (y * 4503599627370496) 0 = ((y.toNat * 4503599627370496 : Nat) : Int) := by
  have h := or_low y 0 h0 h1 (by omega)
  rw [Nat.add_zero] at h; exact h
theorem round_A (neg : Bool) (m S d P q r H m1 : Nat) (e x : Int) (w : World) (h : m < 18446744073709551616) (hm : ((m : Int) == 0) = false) (hS : Flo.sz m = S)
    (h1 : -100000 ≤ e) (h2 : e ≤ 100000) (hS2 : S ≤ 64) (hmax : max ((S : Int) - 53) (-1074 - e) = d) (hd1 : 0 < d) (hd2 : d < 64)
    (hP : IntKind.u64.wrap (2 ^ d) = P) (hr : bits .and .u64 (m : Int) (IntKind.u64.wrap ((P : Int) - 1)) = r) (hH : IntKind.u64.wrap (2 ^ (d - 1)) = H)
    (hq : (m : Int) / 2 ^ d = q) (hx : e + d = x) (hx1 : -1074 ≤ x) (hx0 : x ≤ 200000)
    (hinc : IntKind.u64.wrap ((q : Int) + 1) = m1) (hc1 : decide (H < r) = true) (hc2 : ((r : Int) == H) = false) (hlt : m1 ≤ 9007199254740992) :
    Calls Try.prog 68 #[.bool neg, .int .u64 m, .int .i64 e] w fun e w' => e = .returned (.int .u64 (Ieee.double.word neg (Flo.tailR m1 x) : Nat)) ∧ w = w' := by
  unfold Flo.tailR
  by_cases e1 : m1 = 9007199254740992
  · rw [if_pos e1]
    by_cases e2 : x + 1 > 971
    · rw [if_pos e2]
      exact round_AT1i neg m S d P q r H m1 0 0 e x w h hm hS h1 h2 hS2 hmax hd1 hd2 hP hr hH hq hx hx1 hx0 hinc hc1 hc2 e2 e1
    · rw [if_neg e2]
      have hR := or_none (x + 1 + 1075) (by omega) (by omega)
      rw [show x + 1 + 1075 = x + 1076 by omega] at hR
      exact round_AT1 neg m S d P q r H m1 0 _ e x w h hm hS h1 h2 hS2 hmax hd1 hd2 hP hr hH hq hx hx1 hx0 hinc hc1 hc2 (by omega) e1 (by omega) (by rw [show x + 1 + 1075 = x + 1076 by omega]; exact hR)
  · rw [if_neg e1]
    have k1 : ((m1 : Int) == 9007199254740992) = false := by rw [beq_eq_false_iff_ne]; omega
    by_cases e2 : x > 971
    · rw [if_pos e2]
      exact round_AT2 neg m S d P q r H m1 0 0 e x w h hm hS h1 h2 hS2 hmax hd1 hd2 hP hr hH hq hx hx1 hx0 hinc hc1 hc2 e2 k1
    · rw [if_neg e2]
      by_cases e3 : m1 < 4503599627370496
      · rw [if_pos e3]
        exact round_AT3 neg m S d P q r H m1 0 0 e x w h hm hS h1 h2 hS2 hmax hd1 hd2 hP hr hH hq hx hx1 hx0 hinc hc1 hc2 (by omega) k1 (decide_eq_true (by omega)) (by omega)
      · rw [if_neg e3]
        have hf := bf m1 (by omega)
        have hR := or_low (x + 1075) (m1 % 4503599627370496) (by omega) (by omega) (by omega)
        exact round_AT4 neg m S d P q r H m1 _ _ e x w h hm hS h1 h2 hS2 hmax hd1 hd2 hP hr hH hq hx hx1 hx0 hinc hc1 hc2 (by omega) k1 (decide_eq_false (by omega)) hf hR (by omega)
theorem round_B (neg : Bool) (m S d P q r H m1 : Nat) (e x : Int) (w : World) (h : m < 18446744073709551616) (hm : ((m : Int) == 0) = false) (hS : Flo.sz m = S)
    (h1 : -100000 ≤ e) (h2 : e ≤ 100000) (hS2 : S ≤ 64) (hmax : max ((S : Int) - 53) (-1074 - e) = d) (hd1 : 0 < d) (hd2 : d < 64)
    (hP : IntKind.u64.wrap (2 ^ d) = P) (hr : bits .and .u64 (m : Int) (IntKind.u64.wrap ((P : Int) - 1)) = r) (hH : IntKind.u64.wrap (2 ^ (d - 1)) = H)
    (hq : (m : Int) / 2 ^ d = q) (hx : e + d = x) (hx1 : -1074 ≤ x) (hx0 : x ≤ 200000)
    (hinc : IntKind.u64.wrap ((q : Int) + 1) = m1) (hc1 : r = H) (hc2 : bits .and .u64 (q : Int) 1 = 1) (hlt : m1 ≤ 9007199254740992) :
    Calls Try.prog 68 #[.bool neg, .int .u64 m, .int .i64 e] w fun e w' => e = .returned (.int .u64 (Ieee.double.word neg (Flo.tailR m1 x) : Nat)) ∧ w = w' := by
  unfold Flo.tailR
  by_cases e1 : m1 = 9007199254740992
  · rw [if_pos e1]
    by_cases e2 : x + 1 > 971
    · rw [if_pos e2]
      exact round_BT1i neg m S d P q r H m1 0 0 e x w h hm hS h1 h2 hS2 hmax hd1 hd2 hP hr hH hq hx hx1 hx0 hinc hc1 hc2 e2 e1
    · rw [if_neg e2]
      have hR := or_none (x + 1 + 1075) (by omega) (by omega)
      rw [show x + 1 + 1075 = x + 1076 by omega] at hR
      exact round_BT1 neg m S d P q r H m1 0 _ e x w h hm hS h1 h2 hS2 hmax hd1 hd2 hP hr hH hq hx hx1 hx0 hinc hc1 hc2 (by omega) e1 (by omega) (by rw [show x + 1 + 1075 = x + 1076 by omega]; exact hR)
  · rw [if_neg e1]
    have k1 : ((m1 : Int) == 9007199254740992) = false := by rw [beq_eq_false_iff_ne]; omega
    by_cases e2 : x > 971
    · rw [if_pos e2]
      exact round_BT2 neg m S d P q r H m1 0 0 e x w h hm hS h1 h2 hS2 hmax hd1 hd2 hP hr hH hq hx hx1 hx0 hinc hc1 hc2 e2 k1
    · rw [if_neg e2]
      by_cases e3 : m1 < 4503599627370496
      · rw [if_pos e3]
        exact round_BT3 neg m S d P q r H m1 0 0 e x w h hm hS h1 h2 hS2 hmax hd1 hd2 hP hr hH hq hx hx1 hx0 hinc hc1 hc2 (by omega) k1 (decide_eq_true (by omega)) (by omega)
      · rw [if_neg e3]
        have hf := bf m1 (by omega)
        have hR := or_low (x + 1075) (m1 % 4503599627370496) (by omega) (by omega) (by omega)
        exact round_BT4 neg m S d P q r H m1 _ _ e x w h hm hS h1 h2 hS2 hmax hd1 hd2 hP hr hH hq hx hx1 hx0 hinc hc1 hc2 (by omega) k1 (decide_eq_false (by omega)) hf hR (by omega)
theorem round_C (neg : Bool) (m S d P q r H m1 : Nat) (e x : Int) (w : World) (h : m < 18446744073709551616) (hm : ((m : Int) == 0) = false) (hS : Flo.sz m = S)
    (h1 : -100000 ≤ e) (h2 : e ≤ 100000) (hS2 : S ≤ 64) (hmax : max ((S : Int) - 53) (-1074 - e) = d) (hd1 : 0 < d) (hd2 : d < 64)
    (hP : IntKind.u64.wrap (2 ^ d) = P) (hr : bits .and .u64 (m : Int) (IntKind.u64.wrap ((P : Int) - 1)) = r) (hH : IntKind.u64.wrap (2 ^ (d - 1)) = H)
    (hq : (m : Int) / 2 ^ d = q) (hx : e + d = x) (hx1 : -1074 ≤ x) (hx0 : x ≤ 200000)
    (hinc : q = m1) (hc1 : r = H) (hc2 : bits .and .u64 (q : Int) 1 = 0) (hlt : m1 ≤ 9007199254740992) :
    Calls Try.prog 68 #[.bool neg, .int .u64 m, .int .i64 e] w fun e w' => e = .returned (.int .u64 (Ieee.double.word neg (Flo.tailR m1 x) : Nat)) ∧ w = w' := by
  unfold Flo.tailR
  by_cases e1 : m1 = 9007199254740992
  · rw [if_pos e1]
    by_cases e2 : x + 1 > 971
    · rw [if_pos e2]
      exact round_CT1i neg m S d P q r H m1 0 0 e x w h hm hS h1 h2 hS2 hmax hd1 hd2 hP hr hH hq hx hx1 hx0 hinc hc1 hc2 e2 e1
    · rw [if_neg e2]
      have hR := or_none (x + 1 + 1075) (by omega) (by omega)
      rw [show x + 1 + 1075 = x + 1076 by omega] at hR
      exact round_CT1 neg m S d P q r H m1 0 _ e x w h hm hS h1 h2 hS2 hmax hd1 hd2 hP hr hH hq hx hx1 hx0 hinc hc1 hc2 (by omega) e1 (by omega) (by rw [show x + 1 + 1075 = x + 1076 by omega]; exact hR)
  · rw [if_neg e1]
    have k1 : ((m1 : Int) == 9007199254740992) = false := by rw [beq_eq_false_iff_ne]; omega
    by_cases e2 : x > 971
    · rw [if_pos e2]
      exact round_CT2 neg m S d P q r H m1 0 0 e x w h hm hS h1 h2 hS2 hmax hd1 hd2 hP hr hH hq hx hx1 hx0 hinc hc1 hc2 e2 k1
    · rw [if_neg e2]
      by_cases e3 : m1 < 4503599627370496
      · rw [if_pos e3]
        exact round_CT3 neg m S d P q r H m1 0 0 e x w h hm hS h1 h2 hS2 hmax hd1 hd2 hP hr hH hq hx hx1 hx0 hinc hc1 hc2 (by omega) k1 (decide_eq_true (by omega)) (by omega)
      · rw [if_neg e3]
        have hf := bf m1 (by omega)
        have hR := or_low (x + 1075) (m1 % 4503599627370496) (by omega) (by omega) (by omega)
        exact round_CT4 neg m S d P q r H m1 _ _ e x w h hm hS h1 h2 hS2 hmax hd1 hd2 hP hr hH hq hx hx1 hx0 hinc hc1 hc2 (by omega) k1 (decide_eq_false (by omega)) hf hR (by omega)
theorem round_D (neg : Bool) (m S d P q r H m1 : Nat) (e x : Int) (w : World) (h : m < 18446744073709551616) (hm : ((m : Int) == 0) = false) (hS : Flo.sz m = S)
    (h1 : -100000 ≤ e) (h2 : e ≤ 100000) (hS2 : S ≤ 64) (hmax : max ((S : Int) - 53) (-1074 - e) = d) (hd1 : 0 < d) (hd2 : d < 64)
    (hP : IntKind.u64.wrap (2 ^ d) = P) (hr : bits .and .u64 (m : Int) (IntKind.u64.wrap ((P : Int) - 1)) = r) (hH : IntKind.u64.wrap (2 ^ (d - 1)) = H)
    (hq : (m : Int) / 2 ^ d = q) (hx : e + d = x) (hx1 : -1074 ≤ x) (hx0 : x ≤ 200000)
    (hinc : q = m1) (hc1 : decide (H < r) = false) (hc2 : ((r : Int) == H) = false) (hlt : m1 ≤ 9007199254740992) :
    Calls Try.prog 68 #[.bool neg, .int .u64 m, .int .i64 e] w fun e w' => e = .returned (.int .u64 (Ieee.double.word neg (Flo.tailR m1 x) : Nat)) ∧ w = w' := by
  unfold Flo.tailR
  by_cases e1 : m1 = 9007199254740992
  · rw [if_pos e1]
    by_cases e2 : x + 1 > 971
    · rw [if_pos e2]
      exact round_DT1i neg m S d P q r H m1 0 0 e x w h hm hS h1 h2 hS2 hmax hd1 hd2 hP hr hH hq hx hx1 hx0 hinc hc1 hc2 e2 e1
    · rw [if_neg e2]
      have hR := or_none (x + 1 + 1075) (by omega) (by omega)
      rw [show x + 1 + 1075 = x + 1076 by omega] at hR
      exact round_DT1 neg m S d P q r H m1 0 _ e x w h hm hS h1 h2 hS2 hmax hd1 hd2 hP hr hH hq hx hx1 hx0 hinc hc1 hc2 (by omega) e1 (by omega) (by rw [show x + 1 + 1075 = x + 1076 by omega]; exact hR)
  · rw [if_neg e1]
    have k1 : ((m1 : Int) == 9007199254740992) = false := by rw [beq_eq_false_iff_ne]; omega
    by_cases e2 : x > 971
    · rw [if_pos e2]
      exact round_DT2 neg m S d P q r H m1 0 0 e x w h hm hS h1 h2 hS2 hmax hd1 hd2 hP hr hH hq hx hx1 hx0 hinc hc1 hc2 e2 k1
    · rw [if_neg e2]
      by_cases e3 : m1 < 4503599627370496
      · rw [if_pos e3]
        exact round_DT3 neg m S d P q r H m1 0 0 e x w h hm hS h1 h2 hS2 hmax hd1 hd2 hP hr hH hq hx hx1 hx0 hinc hc1 hc2 (by omega) k1 (decide_eq_true (by omega)) (by omega)
      · rw [if_neg e3]
        have hf := bf m1 (by omega)
        have hR := or_low (x + 1075) (m1 % 4503599627370496) (by omega) (by omega) (by omega)
        exact round_DT4 neg m S d P q r H m1 _ _ e x w h hm hS h1 h2 hS2 hmax hd1 hd2 hP hr hH hq hx hx1 hx0 hinc hc1 hc2 (by omega) k1 (decide_eq_false (by omega)) hf hR (by omega)
theorem round_Z (neg : Bool) (m S m1 : Nat) (e x D : Int) (w : World) (h : m < 18446744073709551616) (hm : ((m : Int) == 0) = false) (hS : Flo.sz m = S)
    (h1 : -100000 ≤ e) (h2 : e ≤ 100000) (hS2 : S ≤ 64) (hmax : max ((S : Int) - 53) (-1074 - e) = D) (hD1 : D ≤ 0) (hD2 : -54 ≤ D)
    (hsh : IntKind.u64.wrap ((m : Int) * 2 ^ (-D).toNat) = m1) (hx : e + D = x) (hx1 : -1074 ≤ x) (hx0 : x ≤ 200000)
     (hlt : m1 ≤ 9007199254740992) :
    Calls Try.prog 68 #[.bool neg, .int .u64 m, .int .i64 e] w fun e w' => e = .returned (.int .u64 (Ieee.double.word neg (Flo.tailR m1 x) : Nat)) ∧ w = w' := by
  unfold Flo.tailR
  by_cases e1 : m1 = 9007199254740992
  · rw [if_pos e1]
    by_cases e2 : x + 1 > 971
    · rw [if_pos e2]
      exact round_ZT1i neg m S m1 0 0 e x D w h hm hS h1 h2 hS2 hmax hD1 hD2 hsh hx hx1 hx0 e2 e1
    · rw [if_neg e2]
      have hR := or_none (x + 1 + 1075) (by omega) (by omega)
      rw [show x + 1 + 1075 = x + 1076 by omega] at hR
      exact round_ZT1 neg m S m1 0 _ e x D w h hm hS h1 h2 hS2 hmax hD1 hD2 hsh hx hx1 hx0 (by omega) e1 (by omega) (by rw [show x + 1 + 1075 = x + 1076 by omega]; exact hR)
  · rw [if_neg e1]
    have k1 : ((m1 : Int) == 9007199254740992) = false := by rw [beq_eq_false_iff_ne]; omega
    by_cases e2 : x > 971
    · rw [if_pos e2]
      exact round_ZT2 neg m S m1 0 0 e x D w h hm hS h1 h2 hS2 hmax hD1 hD2 hsh hx hx1 hx0 e2 k1
    · rw [if_neg e2]
      by_cases e3 : m1 < 4503599627370496
      · rw [if_pos e3]
        exact round_ZT3 neg m S m1 0 0 e x D w h hm hS h1 h2 hS2 hmax hD1 hD2 hsh hx hx1 hx0 (by omega) k1 (decide_eq_true (by omega)) (by omega)
      · rw [if_neg e3]
        have hf := bf m1 (by omega)
        have hR := or_low (x + 1075) (m1 % 4503599627370496) (by omega) (by omega) (by omega)
        exact round_ZT4 neg m S m1 _ _ e x D w h hm hS h1 h2 hS2 hmax hD1 hD2 hsh hx hx1 hx0 (by omega) k1 (decide_eq_false (by omega)) hf hR (by omega)
theorem wrap_u64_nat (n : Nat) (h : n < 18446744073709551616) : IntKind.u64.wrap (n : Int) = n := by
  rw [IntKind.wrap_u64]; omega
theorem int_pow (n : Nat) : (2 : Int) ^ n = ((2 ^ n : Nat) : Int) := by simp
/-- The document's rounding rounds to the nearest, to even ones in the middle. -/
theorem round_any (neg : Bool) (m : Nat) (e : Int) (w : World) (h : m < 18446744073709551616) (h1 : -100000 ≤ e) (h2 : e ≤ 100000) :
    Calls Try.prog 68 #[.bool neg, .int .u64 m, .int .i64 e] w fun e' w' => e' = .returned (.int .u64 (Ieee.double.nearest neg m e : Nat)) ∧ w = w' := by
  by_cases hm : m = 0
  · subst hm; rw [Flo.nearest_zero]; exact round_none neg e w h1 h2
  · have hm' : ((m : Int) == 0) = false := by rw [beq_eq_false_iff_ne]; omega
    have hS := Flo.sz_le h
    have hS1 : 1 ≤ Flo.sz m := by unfold Flo.sz; rw [if_neg hm]; omega
    obtain ⟨D, hD⟩ : ∃ D, max ((Flo.sz m : Int) - 53) (-1074 - e) = D := ⟨_, rfl⟩
    have hx1 := Flo.kept_lt m e D hm hD
    have hkl := Flo.kept_le m e D hm hD
    have hx0 : e + D ≤ 200000 := by omega
    by_cases c1 : 64 < D
    · rw [Flo.nearest_far neg m e D hm h hD c1]
      exact round_far neg m _ e D w h hm' rfl h1 h2 hS hD c1
    · rw [Flo.nearest_tail neg m e D hm hD]
      by_cases c2 : D = 64
      · subst c2
        have hxe : e + 64 = -1074 := by omega
        rw [hxe, Flo.kept_pos m (by omega)]
        by_cases c3 : 9223372036854775808 < m
        · have k : Flo.rne m (64 : Int).toNat = 1 := by
            unfold Flo.rne
            show m / 18446744073709551616 + (decide (18446744073709551616 < 2 * (m % 18446744073709551616)) || _).toNat = 1
            rw [decide_eq_true (by omega), Bool.true_or]
            show m / 18446744073709551616 + 1 = 1
            omega
          rw [k]
          exact round_H1 neg m _ e w h hm' rfl h1 h2 hS hD hxe (decide_eq_true (by omega))
        · have k : Flo.rne m (64 : Int).toNat = 0 := by
            unfold Flo.rne
            show m / 18446744073709551616 + (decide (18446744073709551616 < 2 * (m % 18446744073709551616)) || (_ && decide (m / 18446744073709551616 % 2 = 1))).toNat = 0
            rw [decide_eq_false (by omega), decide_eq_false (p := m / 18446744073709551616 % 2 = 1) (by omega), Bool.and_false]
            show m / 18446744073709551616 + 0 = 0
            omega
          rw [k]
          exact round_H0 neg m _ e w h hm' rfl h1 h2 hS hD hxe (decide_eq_false (by omega))
      · by_cases c4 : D ≤ 0
        · rw [Flo.kept_neg m c4] at hkl ⊢
          refine round_Z neg m _ _ e _ D w h hm' rfl h1 h2 hS hD c4 (by omega) ?_ rfl hx1 hx0 hkl
          rw [int_pow, ← Int.natCast_mul]; exact wrap_u64_nat _ (by omega)
        · obtain ⟨d, rfl⟩ := Int.eq_ofNat_of_zero_le (by omega : 0 ≤ D)
          rw [Flo.kept_pos m (by omega)] at hkl ⊢
          rw [Int.toNat_natCast] at hkl ⊢
          have hd1 : 0 < d := by omega
          have hd2 : d < 64 := by omega
          have p1 : 2 ^ d ≤ 2 ^ 63 := Nat.pow_le_pow_right (by omega) (by omega)
          have p2 := Nat.two_pow_pos (d - 1)
          have p3 : 2 ^ d = 2 * 2 ^ (d - 1) := by rw [← Nat.pow_succ']; congr 1; omega
          have hq : (m : Int) / 2 ^ d = ((m / 2 ^ d : Nat) : Int) := by rw [int_pow]; rfl
          have hP : IntKind.u64.wrap (2 ^ d) = ((2 ^ d : Nat) : Int) := by rw [int_pow]; exact wrap_u64_nat _ (by omega)
          have hH : IntKind.u64.wrap (2 ^ (d - 1)) = ((2 ^ (d - 1) : Nat) : Int) := by rw [int_pow]; exact wrap_u64_nat _ (by omega)
          have hr : bits .and .u64 (m : Int) (IntKind.u64.wrap (((2 ^ d : Nat) : Int) - 1)) = ((m % 2 ^ d : Nat) : Int) := by
            have e1 : ((2 ^ d : Nat) : Int) - 1 = ((2 ^ d - 1 : Nat) : Int) := by omega
            rw [e1, wrap_u64_nat _ (by omega), u64_and_nat m (2 ^ d - 1) h (by omega), Nat.and_two_pow_sub_one_eq_mod]
          have hlo := Flo.rne_lo m d
          have hk : Flo.rne m d = m / 2 ^ d + (decide (2 ^ (d - 1) < m % 2 ^ d) || (decide (m % 2 ^ d = 2 ^ (d - 1)) && decide (m / 2 ^ d % 2 = 1))).toNat := by
            unfold Flo.rne
            congr 3
            · rw [decide_eq_decide]; omega
            · congr 1; rw [decide_eq_decide]; omega
          have hq1 : ∀ q : Nat, q < 18446744073709551616 → bits .and .u64 (q : Int) 1 = ((q % 2 : Nat) : Int) := fun q hq => by
            refine (u64_and_nat q 1 hq (by omega)).trans ?_
            rw [nat_mask1]
          generalize Flo.rne m d = k at hk hkl hlo ⊢
          generalize m / 2 ^ d = q at hk hlo hq ⊢
          generalize m % 2 ^ d = r at hk hr
          generalize 2 ^ (d - 1) = H at hk hH
          by_cases c5 : H < r
          · rw [decide_eq_true c5, Bool.true_or] at hk
            exact round_A neg m _ d _ q r H k e _ w h hm' rfl h1 h2 hS hD hd1 hd2 hP hr hH hq rfl hx1 hx0 (by rw [hk]; exact wrap_u64_nat (q + 1) (by omega)) (decide_eq_true c5) (by rw [beq_eq_false_iff_ne]; omega) hkl
          · rw [decide_eq_false c5, Bool.false_or] at hk
            by_cases c6 : r = H
            · rw [decide_eq_true c6, Bool.true_and] at hk
              by_cases c7 : q % 2 = 1
              · rw [decide_eq_true c7] at hk
                exact round_B neg m _ d _ q r H k e _ w h hm' rfl h1 h2 hS hD hd1 hd2 hP hr hH hq rfl hx1 hx0 (by rw [hk]; exact wrap_u64_nat (q + 1) (by omega)) c6 (by rw [hq1 q (by omega), c7]; rfl) hkl
              · rw [decide_eq_false c7] at hk
                exact round_C neg m _ d _ q r H k e _ w h hm' rfl h1 h2 hS hD hd1 hd2 hP hr hH hq rfl hx1 hx0 hk.symm c6 (by rw [hq1 q (by omega), show q % 2 = 0 by omega]; rfl) hkl
            · rw [decide_eq_false c6] at hk
              exact round_D neg m _ d _ q r H k e _ w h hm' rfl h1 h2 hS hD hd1 hd2 hP hr hH hq rfl hx1 hx0 hk.symm (decide_eq_false c5) (by rw [beq_eq_false_iff_ne]; omega) hkl
end Go.Proofs.Ytojnokaeopadfaa
