import Derived.Test.YtojnokaeopadfaaFh
import Derived.Test.YtojnokaeopadfaaMa
namespace Go.Proofs.Ytojnokaeopadfaa
open Go.RowKit
set_option linter.unusedVariables false
set_option linter.unusedSimpArgs false

@[go_sem] theorem field40_0 (k M : Nat) (s : Bool) (E : Int) (w : World) : (Instr.field 97 (.agg #[.int .u8 k, .bool s, .int .u64 M, .int .i64 E]) 0).run Try.prog w = .ok (.int .u8 k) w := by kernel_rfl
theorem rank_any (x : Nat) (w : World) (h : x < 18446744073709551616) :
    Calls Try.prog 69 #[.int .u64 x] w fun e w' => e = .returned (.int .i64 (Flo.rk x)) ∧ w = w' := by
  rcases hs : Flo.sg x with _ | _
  · have e1 : Flo.rk x = (x : Int) := by
      unfold Flo.sg at hs; rw [beq_eq_false_iff_ne] at hs
      unfold Flo.rk Flo.sgn Flo.sg Flo.rung
      rw [if_neg (by rw [beq_iff_eq]; omega)]; omega
    have t1 : ((x : Int) / 9223372036854775808 == 1) = false := by
      unfold Flo.sg at hs; rw [beq_eq_false_iff_ne] at hs ⊢; omega
    have t2 : IntKind.i64.wrap (x : Int) = x := by
      unfold Flo.sg at hs; rw [beq_eq_false_iff_ne] at hs
      exact IntWalk.i64_in _ (by omega)
    rw [e1]; clear e1 hs h
    go_enter Try.func69, Try.ntmps69
    go_wp2
    go_ret
    exact ⟨rfl, rfl⟩
  · obtain ⟨r, hr⟩ : ∃ r, Flo.rung x = r := ⟨_, rfl⟩
    have hrl : r < 9223372036854775808 := by unfold Flo.rung at hr; omega
    have e1 : Flo.rk x = -(r : Int) := by
      unfold Flo.rk Flo.sgn; rw [if_pos hs, hr]
    have t1 : ((x : Int) / 9223372036854775808 == 1) = true := by
      unfold Flo.sg at hs; rw [beq_iff_eq] at hs ⊢; omega
    have t2 : IntKind.i64.wrap (r : Int) = r := IntWalk.i64_in _ (by omega)
    have t4 : IntKind.i64.wrap (-(r : Int)) = -(r : Int) := IntWalk.i64_in _ (by omega)
    have t3 : bits .and .u64 (x : Int) 9223372036854775807 = (r : Int) := by
      rw [← hr]; refine (u64_and_nat x 9223372036854775807 h (by omega)).trans ?_
      rw [Nat.and_two_pow_sub_one_eq_mod x 63]; rfl
    rw [e1]; clear e1 hs h hr hrl
    go_enter Try.func69, Try.ntmps69
    go_wp2
    go_ret
    exact ⟨rfl, rfl⟩
def mV (b : Nat) : Nat := if kind b = 102 then Flo.oM b else b % 4503599627370496
def eV (b : Nat) : Int := if kind b = 102 then Flo.oE b else 2047
theorem of_agg (b K : Nat) (s : Bool) (M : Nat) (E : Int) (w : World) (h : b < 18446744073709551616) (hK : kind b = K) (hs : Flo.sg b = s) (hM : mV b = M) (hE : eV b = E) :
    Calls Try.prog 66 #[.int .u64 b] w fun e w' => e = .returned (.agg #[.int .u8 K, .bool s, .int .u64 M, .int .i64 E]) ∧ Grown w w' := by
  subst hK hs hM hE
  exact of_any b w h
theorem kind_nan (b : Nat) : (kind b == 110) = Flo.nanB b := by
  unfold kind Flo.nanB Flo.rung
  by_cases h1 : b % 9223372036854775808 < 9218868437227405312
  · rw [if_pos h1, decide_eq_false (by omega)]; rfl
  · rw [if_neg h1]
    by_cases h2 : b % 9223372036854775808 = 9218868437227405312
    · rw [if_pos h2, decide_eq_false (by omega)]; rfl
    · rw [if_neg h2, decide_eq_true (by omega)]; rfl
theorem kind_test (b : Nat) (t : Bool) (h : Flo.nanB b = t) : ((kind b : Int) == 110) = t := by
  rw [← h, ← kind_nan, Bool.eq_iff_iff, beq_iff_eq, beq_iff_eq]; omega
theorem kind_test2 (b : Nat) (t : Bool) (h : Flo.nanB b = t) : ((kind b : Int) != 110) = !t := by
  rw [← kind_test b t h]; rfl
theorem rless_any (x y : Nat) (w : World) (hx : x < 18446744073709551616) (hy : y < 18446744073709551616) :
    Calls Try.prog 47 #[.int .u64 x, .int .u64 y] w fun e w' => e = .returned (.bool (Flo.rLess x y)) ∧ Grown w w' := by
  have a1 := fun w => of_agg x (kind x) _ _ _ w hx rfl rfl rfl rfl
  have a2 := fun w => of_agg y (kind y) _ _ _ w hy rfl rfl rfl rfl
  have b1 := fun w => rank_any x w hx
  have b2 := fun w => rank_any y w hy
  unfold Flo.rLess
  rcases hn : Flo.nanB x with _ | _
  · have k1 := kind_test2 x _ hn
    rcases hm : Flo.nanB y with _ | _
    · have k2 := kind_test2 y _ hm
      have A := Lib.hid (And.intro a1 (And.intro a2 (And.intro b1 b2)))
      obtain ⟨kx, ekx⟩ : ∃ k, kind x = k := ⟨_, rfl⟩
      obtain ⟨ky, eky⟩ : ∃ k, kind y = k := ⟨_, rfl⟩
      rw [ekx] at A k1
      rw [eky] at A k2
      generalize Flo.rk x = u at A ⊢
      generalize Flo.rk y = v at A ⊢
      clear a1 a2 b1 b2 hn hm hx hy ekx eky
      go_enter Try.func47, Try.ntmps47
      go_wp2_with fail
      refine (A.out.1 _).mono ?_; rintro e w1 ⟨rfl, g1⟩
      go_wp2_with fail
      refine (A.out.2.1 _).mono ?_; rintro e w2 ⟨rfl, g2⟩
      go_wp2_with fail
      refine (A.out.2.2.1 _).mono ?_; rintro e w' ⟨rfl, rfl⟩
      go_wp2_with fail
      refine (A.out.2.2.2 _).mono ?_; rintro e w' ⟨rfl, rfl⟩
      go_wp2_with fail
      go_ret
      exact ⟨by first | (simp; done) | (simp; rw [Bool.eq_iff_iff]; simp), grown_trans g1 g2⟩
    · have k2 := kind_test2 y _ hm
      have A := Lib.hid (And.intro a1 (And.intro a2 (And.intro b1 b2)))
      obtain ⟨kx, ekx⟩ : ∃ k, kind x = k := ⟨_, rfl⟩
      obtain ⟨ky, eky⟩ : ∃ k, kind y = k := ⟨_, rfl⟩
      rw [ekx] at A k1
      rw [eky] at A k2
      clear a1 a2 b1 b2 hn hm hx hy ekx eky
      go_enter Try.func47, Try.ntmps47
      go_wp2_with fail
      refine (A.out.1 _).mono ?_; rintro e w1 ⟨rfl, g1⟩
      go_wp2_with fail
      refine (A.out.2.1 _).mono ?_; rintro e w2 ⟨rfl, g2⟩
      go_wp2_with fail
      go_ret
      exact ⟨by simp, grown_trans g1 g2⟩
  · have k1 := kind_test2 x _ hn
    have A := Lib.hid (And.intro a1 (And.intro a2 (And.intro b1 b2)))
    obtain ⟨kx, ekx⟩ : ∃ k, kind x = k := ⟨_, rfl⟩
    rw [ekx] at A k1
    clear a1 a2 b1 b2 hn hx hy ekx
    go_enter Try.func47, Try.ntmps47
    go_wp2_with fail
    refine (A.out.1 _).mono ?_; rintro e w1 ⟨rfl, g1⟩
    go_wp2_with fail
    go_ret
    exact ⟨by simp, g1⟩
theorem requal_any (x y : Nat) (w : World) (hx : x < 18446744073709551616) (hy : y < 18446744073709551616) :
    Calls Try.prog 48 #[.int .u64 x, .int .u64 y] w fun e w' => e = .returned (.bool (Flo.rEqual x y)) ∧ Grown w w' := by
  have a1 := fun w => of_agg x (kind x) _ _ _ w hx rfl rfl rfl rfl
  have a2 := fun w => of_agg y (kind y) _ _ _ w hy rfl rfl rfl rfl
  have b1 := fun w => rank_any x w hx
  have b2 := fun w => rank_any y w hy
  unfold Flo.rEqual
  rcases hn : Flo.nanB x with _ | _
  · have k1 := kind_test2 x _ hn
    rcases hm : Flo.nanB y with _ | _
    · have k2 := kind_test2 y _ hm
      have A := Lib.hid (And.intro a1 (And.intro a2 (And.intro b1 b2)))
      obtain ⟨kx, ekx⟩ : ∃ k, kind x = k := ⟨_, rfl⟩
      obtain ⟨ky, eky⟩ : ∃ k, kind y = k := ⟨_, rfl⟩
      rw [ekx] at A k1
      rw [eky] at A k2
      generalize Flo.rk x = u at A ⊢
      generalize Flo.rk y = v at A ⊢
      clear a1 a2 b1 b2 hn hm hx hy ekx eky
      go_enter Try.func48, Try.ntmps48
      go_wp2_with fail
      refine (A.out.1 _).mono ?_; rintro e w1 ⟨rfl, g1⟩
      go_wp2_with fail
      refine (A.out.2.1 _).mono ?_; rintro e w2 ⟨rfl, g2⟩
      go_wp2_with fail
      refine (A.out.2.2.1 _).mono ?_; rintro e w' ⟨rfl, rfl⟩
      go_wp2_with fail
      refine (A.out.2.2.2 _).mono ?_; rintro e w' ⟨rfl, rfl⟩
      go_wp2_with fail
      go_ret
      exact ⟨by first | (simp; done) | (simp; rw [Bool.eq_iff_iff]; simp), grown_trans g1 g2⟩
    · have k2 := kind_test2 y _ hm
      have A := Lib.hid (And.intro a1 (And.intro a2 (And.intro b1 b2)))
      obtain ⟨kx, ekx⟩ : ∃ k, kind x = k := ⟨_, rfl⟩
      obtain ⟨ky, eky⟩ : ∃ k, kind y = k := ⟨_, rfl⟩
      rw [ekx] at A k1
      rw [eky] at A k2
      clear a1 a2 b1 b2 hn hm hx hy ekx eky
      go_enter Try.func48, Try.ntmps48
      go_wp2_with fail
      refine (A.out.1 _).mono ?_; rintro e w1 ⟨rfl, g1⟩
      go_wp2_with fail
      refine (A.out.2.1 _).mono ?_; rintro e w2 ⟨rfl, g2⟩
      go_wp2_with fail
      go_ret
      exact ⟨by simp, grown_trans g1 g2⟩
  · have k1 := kind_test2 x _ hn
    have A := Lib.hid (And.intro a1 (And.intro a2 (And.intro b1 b2)))
    obtain ⟨kx, ekx⟩ : ∃ k, kind x = k := ⟨_, rfl⟩
    rw [ekx] at A k1
    clear a1 a2 b1 b2 hn hx hy ekx
    go_enter Try.func48, Try.ntmps48
    go_wp2_with fail
    refine (A.out.1 _).mono ?_; rintro e w1 ⟨rfl, g1⟩
    go_wp2_with fail
    go_ret
    exact ⟨by simp, g1⟩
theorem rmin_any (x y : Nat) (w : World) (hx : x < 18446744073709551616) (hy : y < 18446744073709551616) :
    Calls Try.prog 45 #[.int .u64 x, .int .u64 y] w fun e w' => e = .returned (.int .u64 (Flo.rMin x y)) ∧ Grown w w' := by
  have a1 := fun w => of_agg x (kind x) _ _ _ w hx rfl rfl rfl rfl
  have a2 := fun w => of_agg y (kind y) _ _ _ w hy rfl rfl rfl rfl
  have b1 := fun w => rless_any y x w (by assumption) (by assumption)
  have b2 := fun w => requal_any x y w hx hy
  have hc : ((y : Int) / 9223372036854775808 == 1) = (y / 9223372036854775808 == 1) := by rw [Bool.eq_iff_iff, beq_iff_eq, beq_iff_eq]; omega
  have hc0 : ((y : Int) / 9223372036854775808 == 0) = (y / 9223372036854775808 == 0) := by rw [Bool.eq_iff_iff, beq_iff_eq, beq_iff_eq]; omega
  unfold Flo.rMin
  generalize Flo.rLess y x = L at b1 ⊢
  generalize Flo.rEqual x y = Q at b2 ⊢
  generalize (y / 9223372036854775808 == 1) = S at hc ⊢
  generalize (y / 9223372036854775808 == 0) = Z at hc0 ⊢
  rcases hn : Flo.nanB x with _ | _
  · have k1 := kind_test x _ hn
    rcases hm : Flo.nanB y with _ | _
    · have k2 := kind_test y _ hm
      have A := Lib.hid (And.intro a1 (And.intro a2 (And.intro b1 b2)))
      obtain ⟨kx, ekx⟩ : ∃ k, kind x = k := ⟨_, rfl⟩
      obtain ⟨ky, eky⟩ : ∃ k, kind y = k := ⟨_, rfl⟩
      rw [ekx] at A k1
      rw [eky] at A k2
      clear a1 a2 b1 b2 hn hm hx hy ekx eky
      rw [if_neg (by simp)]
      cases L
      · cases Q
        · go_enter Try.func45, Try.ntmps45
          go_wp2_with fail
          refine (A.out.1 _).mono ?_; rintro e w1 ⟨rfl, g1⟩
          go_wp2_with fail
          refine (A.out.2.1 _).mono ?_; rintro e w2 ⟨rfl, g2⟩
          go_wp2_with fail
          refine (A.out.2.2.1 _).mono ?_; rintro e w3 ⟨rfl, g3⟩
          go_wp2_with fail
          refine (A.out.2.2.2 _).mono ?_; rintro e w4 ⟨rfl, g4⟩
          go_wp2_with fail
          go_ret
          exact ⟨by simp, grown_trans (grown_trans g1 g2) (grown_trans g3 g4)⟩
        · cases S
          all_goals
            go_enter Try.func45, Try.ntmps45
            go_wp2_with fail
            refine (A.out.1 _).mono ?_; rintro e w1 ⟨rfl, g1⟩
            go_wp2_with fail
            refine (A.out.2.1 _).mono ?_; rintro e w2 ⟨rfl, g2⟩
            go_wp2_with fail
            refine (A.out.2.2.1 _).mono ?_; rintro e w3 ⟨rfl, g3⟩
            go_wp2_with fail
            refine (A.out.2.2.2 _).mono ?_; rintro e w4 ⟨rfl, g4⟩
            go_wp2_with fail
            go_ret
            exact ⟨by simp, grown_trans (grown_trans g1 g2) (grown_trans g3 g4)⟩
      · go_enter Try.func45, Try.ntmps45
        go_wp2_with fail
        refine (A.out.1 _).mono ?_; rintro e w1 ⟨rfl, g1⟩
        go_wp2_with fail
        refine (A.out.2.1 _).mono ?_; rintro e w2 ⟨rfl, g2⟩
        go_wp2_with fail
        refine (A.out.2.2.1 _).mono ?_; rintro e w3 ⟨rfl, g3⟩
        go_wp2_with fail
        go_ret
        exact ⟨by simp, grown_trans (grown_trans g1 g2) g3⟩
    · have k2 := kind_test y _ hm
      have A := Lib.hid (And.intro a1 (And.intro a2 (And.intro b1 b2)))
      obtain ⟨kx, ekx⟩ : ∃ k, kind x = k := ⟨_, rfl⟩
      obtain ⟨ky, eky⟩ : ∃ k, kind y = k := ⟨_, rfl⟩
      rw [ekx] at A k1
      rw [eky] at A k2
      clear a1 a2 b1 b2 hn hm hx hy ekx eky hc hc0
      rw [if_pos (by simp)]
      go_enter Try.func45, Try.ntmps45
      go_wp2_with fail
      refine (A.out.1 _).mono ?_; rintro e w1 ⟨rfl, g1⟩
      go_wp2_with fail
      refine (A.out.2.1 _).mono ?_; rintro e w2 ⟨rfl, g2⟩
      go_wp2_with fail
      go_ret
      exact ⟨rfl, grown_trans g1 g2⟩
  · have k1 := kind_test x _ hn
    have A := Lib.hid (And.intro a1 (And.intro a2 (And.intro b1 b2)))
    obtain ⟨kx, ekx⟩ : ∃ k, kind x = k := ⟨_, rfl⟩
    rw [ekx] at A k1
    clear a1 a2 b1 b2 hn hx hy ekx hc hc0
    rw [if_pos (by simp)]
    go_enter Try.func45, Try.ntmps45
    go_wp2_with fail
    refine (A.out.1 _).mono ?_; rintro e w1 ⟨rfl, g1⟩
    go_wp2_with fail
    go_ret
    exact ⟨rfl, g1⟩
theorem rmax_any (x y : Nat) (w : World) (hx : x < 18446744073709551616) (hy : y < 18446744073709551616) :
    Calls Try.prog 46 #[.int .u64 x, .int .u64 y] w fun e w' => e = .returned (.int .u64 (Flo.rMax x y)) ∧ Grown w w' := by
  have a1 := fun w => of_agg x (kind x) _ _ _ w hx rfl rfl rfl rfl
  have a2 := fun w => of_agg y (kind y) _ _ _ w hy rfl rfl rfl rfl
  have b1 := fun w => rless_any x y w (by assumption) (by assumption)
  have b2 := fun w => requal_any x y w hx hy
  have hc : ((y : Int) / 9223372036854775808 == 1) = (y / 9223372036854775808 == 1) := by rw [Bool.eq_iff_iff, beq_iff_eq, beq_iff_eq]; omega
  have hc0 : ((y : Int) / 9223372036854775808 == 0) = (y / 9223372036854775808 == 0) := by rw [Bool.eq_iff_iff, beq_iff_eq, beq_iff_eq]; omega
  unfold Flo.rMax
  generalize Flo.rLess x y = L at b1 ⊢
  generalize Flo.rEqual x y = Q at b2 ⊢
  generalize (y / 9223372036854775808 == 1) = S at hc ⊢
  generalize (y / 9223372036854775808 == 0) = Z at hc0 ⊢
  rcases hn : Flo.nanB x with _ | _
  · have k1 := kind_test x _ hn
    rcases hm : Flo.nanB y with _ | _
    · have k2 := kind_test y _ hm
      have A := Lib.hid (And.intro a1 (And.intro a2 (And.intro b1 b2)))
      obtain ⟨kx, ekx⟩ : ∃ k, kind x = k := ⟨_, rfl⟩
      obtain ⟨ky, eky⟩ : ∃ k, kind y = k := ⟨_, rfl⟩
      rw [ekx] at A k1
      rw [eky] at A k2
      clear a1 a2 b1 b2 hn hm hx hy ekx eky
      rw [if_neg (by simp)]
      cases L
      · cases Q
        · go_enter Try.func46, Try.ntmps46
          go_wp2_with fail
          refine (A.out.1 _).mono ?_; rintro e w1 ⟨rfl, g1⟩
          go_wp2_with fail
          refine (A.out.2.1 _).mono ?_; rintro e w2 ⟨rfl, g2⟩
          go_wp2_with fail
          refine (A.out.2.2.1 _).mono ?_; rintro e w3 ⟨rfl, g3⟩
          go_wp2_with fail
          refine (A.out.2.2.2 _).mono ?_; rintro e w4 ⟨rfl, g4⟩
          go_wp2_with fail
          go_ret
          exact ⟨by simp, grown_trans (grown_trans g1 g2) (grown_trans g3 g4)⟩
        · cases Z
          all_goals
            go_enter Try.func46, Try.ntmps46
            go_wp2_with fail
            refine (A.out.1 _).mono ?_; rintro e w1 ⟨rfl, g1⟩
            go_wp2_with fail
            refine (A.out.2.1 _).mono ?_; rintro e w2 ⟨rfl, g2⟩
            go_wp2_with fail
            refine (A.out.2.2.1 _).mono ?_; rintro e w3 ⟨rfl, g3⟩
            go_wp2_with fail
            refine (A.out.2.2.2 _).mono ?_; rintro e w4 ⟨rfl, g4⟩
            go_wp2_with fail
            go_ret
            exact ⟨by simp, grown_trans (grown_trans g1 g2) (grown_trans g3 g4)⟩
      · go_enter Try.func46, Try.ntmps46
        go_wp2_with fail
        refine (A.out.1 _).mono ?_; rintro e w1 ⟨rfl, g1⟩
        go_wp2_with fail
        refine (A.out.2.1 _).mono ?_; rintro e w2 ⟨rfl, g2⟩
        go_wp2_with fail
        refine (A.out.2.2.1 _).mono ?_; rintro e w3 ⟨rfl, g3⟩
        go_wp2_with fail
        go_ret
        exact ⟨by simp, grown_trans (grown_trans g1 g2) g3⟩
    · have k2 := kind_test y _ hm
      have A := Lib.hid (And.intro a1 (And.intro a2 (And.intro b1 b2)))
      obtain ⟨kx, ekx⟩ : ∃ k, kind x = k := ⟨_, rfl⟩
      obtain ⟨ky, eky⟩ : ∃ k, kind y = k := ⟨_, rfl⟩
      rw [ekx] at A k1
      rw [eky] at A k2
      clear a1 a2 b1 b2 hn hm hx hy ekx eky hc hc0
      rw [if_pos (by simp)]
      go_enter Try.func46, Try.ntmps46
      go_wp2_with fail
      refine (A.out.1 _).mono ?_; rintro e w1 ⟨rfl, g1⟩
      go_wp2_with fail
      refine (A.out.2.1 _).mono ?_; rintro e w2 ⟨rfl, g2⟩
      go_wp2_with fail
      go_ret
      exact ⟨rfl, grown_trans g1 g2⟩
  · have k1 := kind_test x _ hn
    have A := Lib.hid (And.intro a1 (And.intro a2 (And.intro b1 b2)))
    obtain ⟨kx, ekx⟩ : ∃ k, kind x = k := ⟨_, rfl⟩
    rw [ekx] at A k1
    clear a1 a2 b1 b2 hn hx hy ekx hc hc0
    rw [if_pos (by simp)]
    go_enter Try.func46, Try.ntmps46
    go_wp2_with fail
    refine (A.out.1 _).mono ?_; rintro e w1 ⟨rfl, g1⟩
    go_wp2_with fail
    go_ret
    exact ⟨rfl, g1⟩
end Go.Proofs.Ytojnokaeopadfaa
