import Derived.Test.YtojnokaeopadfaaFk
namespace Go.Proofs.Ytojnokaeopadfaa
open Go.RowKit
set_option linter.unusedVariables false
set_option linter.unusedSimpArgs false

theorem rtoInt_any (x : Nat) (w : World) (h : x < 18446744073709551616) :
    Calls Try.prog 50 #[.int .u64 x] w fun e w' => e = .returned (.int .i64 (Flo.fToInt x)) ∧ Grown w w' := by
  show Calls Try.prog 50 #[.int .u64 x] w (RT (Flo.fToInt x) w)
  have A := Lib.hid (fun w => of_agg x _ _ _ _ w h rfl rfl rfl rfl)
  rcases hn : Flo.nanB x with _ | _
  · by_cases hi : Flo.rung x < 9218868437227405312
    · have hk : kind x = 102 := if_pos hi
      have hM : mV x = Flo.oM x := by unfold mV; rw [if_pos hk]
      have hE : eV x = Flo.oE x := by unfold eV; rw [if_pos hk]
      rw [hk, hM, hE] at A
      have hb := Flo.oE_bounds hi
      by_cases h0 : Flo.oM x = 0
      · rw [h0] at A
        have e : Flo.fToInt x = 0 := by
          have hr := (Flo.oM_eq_zero x).1 h0
          rw [Flo.toInt_small (by omega)]
          unfold Flo.tr; rw [hr, Flo.mag_zero, Nat.zero_div]; unfold Flo.sgn; split <;> rfl
        rw [e]
        exact rt_zero x w _ _ A
      · have hM' : ((Flo.oM x : Int) == 0) = false := by rw [beq_eq_false_iff_ne]; omega
        by_cases h1 : Flo.oE x < -53
        · have e : Flo.fToInt x = 0 := by
            have ht := Flo.far_small hi h1
            rw [Flo.toInt_small (Flo.rung_small_of_tr (by omega)), ht]; unfold Flo.sgn; split <;> rfl
          rw [e]
          exact rt_far x w _ _ _ A hM' h1
        · by_cases h2 : 10 < Flo.oE x
          · rw [Flo.toInt_big hn (Flo.far_big hi h0 h2)]
            exact rt_big x w _ _ _ A hM' h2
          · have hml := Flo.oM_lt x
            by_cases h3 : Flo.oE x < 0
            · obtain ⟨d, hd⟩ : ∃ d : Nat, Flo.oE x = -(d : Int) := ⟨(-Flo.oE x).toNat, by omega⟩
              have ht := Flo.tr_shr hi hd
              have hq : Flo.oM x / 2 ^ d ≤ Flo.oM x := Nat.div_le_self _ _
              rw [Flo.toInt_small (Flo.rung_small_of_tr (by omega)), ht]
              rw [hd] at A
              exact rt_shr x w _ _ d _ A hM' (by omega) (by omega) (by rw [int_pow]; rfl) (IntWalk.i64_in _ (by omega)) (IntWalk.i64_in _ (by omega))
            · obtain ⟨d, hd⟩ : ∃ d : Nat, Flo.oE x = (d : Int) := ⟨(Flo.oE x).toNat, by omega⟩
              have ht := Flo.tr_shl hi hd
              have h4 : 2 ^ d ≤ 2 ^ 10 := Nat.pow_le_pow_right (by omega) (by omega)
              have hq : Flo.oM x * 2 ^ d < 9223372036854775808 :=
                Nat.lt_of_le_of_lt (Nat.mul_le_mul_left _ h4) (by omega)
              rw [Flo.toInt_small (Flo.rung_small_of_tr (by omega)), ht]
              rw [hd] at A
              exact rt_shl x w _ _ d _ A hM' (by omega) (by rw [int_pow, ← Int.natCast_mul]; exact wrap_u64_nat _ (by omega)) (IntWalk.i64_in _ (by omega)) (IntWalk.i64_in _ (by omega))
    · have hl := Flo.notnan_le hn
      have hr : Flo.rung x = 9218868437227405312 := by omega
      have hk : kind x = 105 := by unfold kind; rw [if_neg hi, if_pos hr]
      rw [hk] at A
      rw [Flo.toInt_big hn (by omega)]
      exact rt_inf x w _ _ _ A
  · have e : Flo.fToInt x = 0 := by unfold Flo.fToInt; rw [hn]; rfl
    rw [e]
    exact rt_nan x w _ _ _ _ A (kind_test x _ hn)
end Go.Proofs.Ytojnokaeopadfaa
