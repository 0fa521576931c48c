import Derived.Test.YtknclmofpegilaaFk
namespace Go.Proofs.Ytknclmofpegilaa
open Go.RowKit
set_option linter.unusedVariables false
set_option linter.unusedSimpArgs false

theorem rtoInt_any (x : Nat) (w : World) (h : x < 18446744073709551616) :
    Calls Try.prog 35 #[.int .u64 x] w fun e w' => e = .returned (.int .i64 (Flo.fToInt x)) ∧ Grown w w' := by
  show Calls Try.prog 35 #[.int .u64 x] w (RT (Flo.fToInt x) w)
  have A := Lib.hid (fun w => of_agg x _ _ _ _ w h rfl rfl rfl rfl)
  rcases hn : Flo.nanB x with _ | _
  · by_cases hi : Flo.rung x < 9218868437227405312
    · have hk : kind x = 102 := if_pos hi
      have hM : mV x = Flo.oM x := by unfold mV; rw [if_pos hk]
      have hE : eV x = Flo.oE x := by unfold eV; rw [if_pos hk]
      rw [hk, hM, hE] at A
      have hb := Flo.oE_bounds hi
      by_cases h0 : Flo.oM x = 0
      · rw [h0] at A
        have e : Flo.fToInt x = 0 := by
          have hr := (Flo.oM_eq_zero x).1 h0
          rw [Flo.toInt_small (by omega)]
          unfold Flo.tr; rw [hr, Flo.mag_zero, Nat.zero_div]; unfold Flo.sgn; split <;> rfl
        rw [e]
        exact rt_zero x w _ _ A
      · have hM' : ((Flo.oM x : Int) == 0) = false := by rw [beq_eq_false_iff_ne]; omega
        by_cases h1 : Flo.oE x < -53
        · have e : Flo.fToInt x = 0 := by
            have ht := Flo.far_small hi h1
            rw [Flo.toInt_small (Flo.rung_small_of_tr (by omega)), ht]; unfold Flo.sgn; split <;> rfl
          rw [e]
          exact rt_far x w _ _ _ A hM' h1
        · by_cases h2 : 10 < Flo.oE x
          · rw [Flo.toInt_big hn (Flo.far_big hi h0 h2)]
            exact rt_big x w _ _ _ A hM' h2
          · have hml := Flo.oM_lt x
            by_cases h3 : Flo.oE x < 0
            · obtain ⟨d, hd⟩ : ∃ d : Nat, Flo.oE x = -(d : Int) := ⟨(-Flo.oE x).toNat, by omega⟩
              have ht := Flo.tr_shr hi hd
              have hq : Flo.oM x / 2 ^ d ≤ Flo.oM x := Nat.div_le_self _ _
              rw [Flo.toInt_small (Flo.rung_small_of_tr (by omega)), ht]
              rw [hd] at A
              exact rt_shr x w _ _ d _ A hM' (by omega) (by omega) (by rw [int_pow]; rfl) (IntWalk.i64_in _ (by omega)) (IntWalk.i64_in _ (by omega))
            · obtain ⟨d, hd⟩ : ∃ d : Nat, Flo.oE x = (d : Int) := ⟨(Flo.oE x).toNat, by omega⟩
              have ht := Flo.tr_shl hi hd
              have h4 : 2 ^ d ≤ 2 ^ 10 := Nat.pow_le_pow_right (by omega) (by omega)
              have hq : Flo.oM x * 2 ^ d < 9223372036854775808 :=
                Nat.lt_of_le_of_lt (Nat.mul_le_mul_left _ h4) (by omega)
              rw [Flo.toInt_small (Flo.rung_small_of_tr (by omega)), ht]
              rw [hd] at A
              exact rt_shl x w _ _ d _ A hM' (by omega) (by rw [int_pow, ← Int.natCast_mul]; exact wrap_u64_nat _ (by omega)) (IntWalk.i64_in _ (by omega)) (IntWalk.i64_in _ (by omega))
    · have hl := Flo.notnan_le hn
      have hr : Flo.rung x = 9218868437227405312 := by omega
      have hk : kind x = 105 := by unfold kind; rw [if_neg hi, if_pos hr]
      rw [hk] at A
      rw [Flo.toInt_big hn (by omega)]
      exact rt_inf x w _ _ _ A
  · have e : Flo.fToInt x = 0 := by unfold Flo.fToInt; rw [hn]; rfl
    rw [e]
    exact rt_nan x w _ _ _ _ A (kind_test x _ hn)

set_option maxHeartbeats 1000000 in
theorem ints_all (n : Int) (a : Nat) (w : World) (ha : a < 18446744073709551616) (h1 : -9223372036854775808 ≤ n) (h2 : n ≤ 9223372036854775807) :
    Calls Try.prog 7 #[.int .i64 n, .int .u64 a] w fun e w' => e = .returned (.bool true) ∧ Grown w w' := by
  have hx : FloatKind.f64.nearest n < 18446744073709551616 := Ieee.double.nearest_lt _ _ _
  have c1 := fun w => fromInt_any n w
  have c2 := fun w => rfromInt_any n w h1 h2
  have c3 := fun w => toInt_any a w ha
  have c4 := fun w => rtoInt_any a w ha
  have c5 := fun w => toInt_any (FloatKind.f64.nearest n) w hx
  have hback : -9007199254740992 < n → n < 9007199254740992 → Flo.fToInt (FloatKind.f64.nearest n) = n := Flo.int_back n
  generalize FloatKind.f64.nearest n = x at *
  generalize Flo.fToInt a = v at *
  have C := Lib.hid (And.intro c1 (And.intro c2 (And.intro c3 c4)))
  by_cases g1 : -9007199254740992 < n
  · by_cases g2 : n < 9007199254740992
    · rw [hback g1 g2] at c5
      have T := Lib.hid c5
      clear c1 c2 c3 c4 c5 hback hx ha h1 h2
      go_enter Try.func7, Try.ntmps7
      go_wp2_with fail
      refine (fit_any _).mono ?_; rintro e w' ⟨rfl, rfl⟩
      go_wp2_with fail
      refine (C.out.1 _).mono ?_; rintro e w' ⟨rfl, rfl⟩
      go_wp2_with fail
      refine (C.out.2.1 _).mono ?_; rintro e w' ⟨rfl, rfl⟩
      go_wp2_with fail
      refine (C.out.2.2.1 _).mono ?_; rintro e w' ⟨rfl, rfl⟩
      go_wp2_with fail
      refine (C.out.2.2.2 _).mono ?_; rintro e w1 ⟨rfl, g⟩
      go_wp2_with fail
      refine (T.out _).mono ?_; rintro e w' ⟨rfl, rfl⟩
      go_wp2_with fail
      go_ret
      exact ⟨rfl, g⟩
    · clear c1 c2 c3 c4 c5 hback hx ha h1 h2
      go_enter Try.func7, Try.ntmps7
      go_wp2_with fail
      refine (fit_any _).mono ?_; rintro e w' ⟨rfl, rfl⟩
      go_wp2_with fail
      refine (C.out.1 _).mono ?_; rintro e w' ⟨rfl, rfl⟩
      go_wp2_with fail
      refine (C.out.2.1 _).mono ?_; rintro e w' ⟨rfl, rfl⟩
      go_wp2_with fail
      refine (C.out.2.2.1 _).mono ?_; rintro e w' ⟨rfl, rfl⟩
      go_wp2_with fail
      refine (C.out.2.2.2 _).mono ?_; rintro e w1 ⟨rfl, g⟩
      go_wp2_with fail
      go_ret
      exact ⟨rfl, g⟩
  · clear c1 c2 c3 c4 c5 hback hx ha h1 h2
    go_enter Try.func7, Try.ntmps7
    go_wp2_with fail
    refine (fit_any _).mono ?_; rintro e w' ⟨rfl, rfl⟩
    go_wp2_with fail
    refine (C.out.1 _).mono ?_; rintro e w' ⟨rfl, rfl⟩
    go_wp2_with fail
    refine (C.out.2.1 _).mono ?_; rintro e w' ⟨rfl, rfl⟩
    go_wp2_with fail
    refine (C.out.2.2.1 _).mono ?_; rintro e w' ⟨rfl, rfl⟩
    go_wp2_with fail
    refine (C.out.2.2.2 _).mono ?_; rintro e w1 ⟨rfl, g⟩
    go_wp2_with fail
    go_ret
    exact ⟨rfl, g⟩
end Go.Proofs.Ytknclmofpegilaa
