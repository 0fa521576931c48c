import Derived.Test.YtojnokaeopadfaaAg
import Derived.Test.YtojnokaeopadfaaCb
import Derived.Test.YtojnokaeopadfaaDc
import Derived.Test.YtojnokaeopadfaaDd
import Derived.Test.YtojnokaeopadfaaMa
namespace Go.Proofs.Ytojnokaeopadfaa
open Go.RowKit
set_option linter.unusedVariables false
set_option linter.unusedSimpArgs false

theorem ofC_nan {x : Nat} (h : x < 18446744073709551616) (hn : Flo.nanB x = true) : OfC x 110 (Flo.sg x) (mV x) (eV x) := fun w => by
  have hk : kind x = 110 := by have := kind_nan x; rw [hn, beq_iff_eq] at this; exact this
  exact of_agg x _ _ _ _ w h hk rfl rfl rfl
theorem zt {x : Nat} (h : Flo.rung x = 0) : ((Flo.oM x : Int) == 0) = true := by rw [Flo.oM_zero h]; rfl
theorem zf {x : Nat} (h : Flo.rung x ≠ 0) : ((Flo.oM x : Int) == 0) = false := by rw [beq_eq_false_iff_ne]; have := Flo.oM_ge h; omega
theorem rdiv_fin (x y : Nat) (w : World) (hx : x < 18446744073709551616) (hy : y < 18446744073709551616) (ix : Flo.rung x < 9218868437227405312) (iy : Flo.rung y < 9218868437227405312) (zx : Flo.rung x ≠ 0) (zy : Flo.rung y ≠ 0) :
    Calls Try.prog 44 #[.int .u64 x, .int .u64 y] w fun e w' => e = .returned (.int .u64 (Flo.fDiv x y)) ∧ Grown w w' := by
  have b1 := Flo.oE_bounds ix
  have b2 := Flo.oE_bounds iy
  have m1 := Flo.oM_lt x
  have m2 := Flo.oM_lt y
  have g1 := Flo.oM_ge zx
  have g2 := Flo.oM_ge zy
  rw [Flo.div_fin ix iy zx zy]
  have hq : Flo.roq (Flo.oM x * 2 ^ 56) (Flo.oM y) < 18446744073709551616 := by
    have h1 : Flo.oM x * 2 ^ 56 / Flo.oM y < 2 ^ 57 := by
      rw [Nat.div_lt_iff_lt_mul (by omega)]
      have h2 := Nat.mul_lt_mul_of_pos_right m1 (Nat.two_pow_pos 56)
      have h3 := Nat.mul_le_mul_left (2 ^ 57) g2
      exact Nat.lt_of_lt_of_le h2 (Nat.le_trans (by decide) h3)
    unfold Flo.roq; split <;> omega
  have hR := fun w => round_any (Flo.sg x != Flo.sg y) (Flo.roq (Flo.oM x * 2 ^ 56) (Flo.oM y)) (Flo.oE x - Flo.oE y - 56) w hq (by omega) (by omega)
  exact rdiv_main x y _ _ _ _ _ _ _ w (by omega) (by omega) (by omega) (by omega) (Lib.hid (ofC_fin hx ix)) (Lib.hid (ofC_fin hy iy)) (zf zx) (zf zy) (Lib.hid ⟨by omega, m2, by omega⟩) (Lib.hid hR)
theorem rdiv_any (x y : Nat) (w : World) (hx : x < 18446744073709551616) (hy : y < 18446744073709551616) :
    Calls Try.prog 44 #[.int .u64 x, .int .u64 y] w fun e w' => e = .returned (.int .u64 (Flo.fDiv x y)) ∧ Grown w w' := by
  rcases nx : Flo.nanB x with _ | _
  · have lx := Flo.notnan_le nx
    rcases ny : Flo.nanB y with _ | _
    · have ly := Flo.notnan_le ny
      by_cases ix : Flo.rung x = 9218868437227405312
      · have Ix := Lib.hid (ofC_inf hx ix)
        by_cases iy : Flo.rung y = 9218868437227405312
        · rw [Flo.fDiv_ii ix iy]
          exact rdiv_ii x y _ _ _ _ _ _ w Ix (Lib.hid (ofC_inf hy iy))
        · rw [Flo.fDiv_if ix (by omega)]
          by_cases zy : Flo.rung y = 0
          · exact rdiv_iz x y _ _ _ _ _ _ w Ix (Lib.hid (ofC_fin hy (by omega))) (zt zy)
          · exact rdiv_if x y _ _ _ _ _ _ w Ix (Lib.hid (ofC_fin hy (by omega))) (zf zy)
      · have Fx := Lib.hid (ofC_fin hx (by omega))
        by_cases iy : Flo.rung y = 9218868437227405312
        · rw [Flo.fDiv_fi (by omega) iy]
          by_cases zx : Flo.rung x = 0
          · exact rdiv_zi x y _ _ _ _ _ _ w Fx (Lib.hid (ofC_inf hy iy)) (zt zx)
          · exact rdiv_fi x y _ _ _ _ _ _ w Fx (Lib.hid (ofC_inf hy iy)) (zf zx)
        · have Fy := Lib.hid (ofC_fin hy (by omega))
          by_cases zx : Flo.rung x = 0
          · by_cases zy : Flo.rung y = 0
            · rw [Flo.fDiv_zz zx zy]
              exact rdiv_zz x y _ _ _ _ _ _ w Fx Fy (zt zx) (zt zy)
            · rw [Flo.fDiv_zf zx (by omega) zy]
              exact rdiv_zf x y _ _ _ _ _ _ w Fx Fy (zt zx) (zf zy)
          · by_cases zy : Flo.rung y = 0
            · rw [Flo.fDiv_fz (by omega) zx zy]
              exact rdiv_fz x y _ _ _ _ _ _ w Fx Fy (zf zx) (zt zy)
            · exact rdiv_fin x y w hx hy (by omega) (by omega) zx zy
    · rw [(Flo.nan_bad (.inr ny)).2.2.2.1]
      have Ny := Lib.hid (ofC_nan hy ny)
      by_cases ix : Flo.rung x = 9218868437227405312
      · exact rdiv_in x y _ _ _ _ _ _ w (Lib.hid (ofC_inf hx ix)) Ny
      · by_cases zx : Flo.rung x = 0
        · exact rdiv_zn x y _ _ _ _ _ _ w (Lib.hid (ofC_fin hx (by omega))) Ny (zt zx)
        · exact rdiv_fn x y _ _ _ _ _ _ w (Lib.hid (ofC_fin hx (by omega))) Ny (zf zx)
  · rw [(Flo.nan_bad (.inl nx)).2.2.2.1]
    have Nx := Lib.hid (ofC_nan hx nx)
    rcases ny : Flo.nanB y with _ | _
    · have ly := Flo.notnan_le ny
      by_cases iy : Flo.rung y = 9218868437227405312
      · exact rdiv_ni x y _ _ _ _ _ _ w Nx (Lib.hid (ofC_inf hy iy))
      · by_cases zy : Flo.rung y = 0
        · exact rdiv_nz x y _ _ _ _ _ _ w Nx (Lib.hid (ofC_fin hy (by omega))) (zt zy)
        · exact rdiv_nf x y _ _ _ _ _ _ w Nx (Lib.hid (ofC_fin hy (by omega))) (zf zy)
    · exact rdiv_nn x y _ _ _ _ _ _ w Nx (Lib.hid (ofC_nan hy ny))
theorem ros_lt {A root : Nat} (hA : A < 18014398509481984) (h : Flo.IsRoot (A * 2 ^ 62) root) : Flo.ros (A * 2 ^ 62) root < 18446744073709551616 := by
  have h1 : root < 2 ^ 58 := by
    refine Nat.lt_of_not_le fun hc => ?_
    have h2 := Nat.mul_le_mul hc hc
    have h3 := h.1
    have h4 := Nat.mul_lt_mul_of_pos_right hA (Nat.two_pow_pos 62)
    have h5 : 18014398509481984 * 2 ^ 62 ≤ 2 ^ 58 * 2 ^ 58 := by decide
    omega
  have := Bool.toNat_le (root * root != A * 2 ^ 62)
  unfold Flo.ros; omega
theorem rsqrt_any (x : Nat) (w : World) (hx : x < 18446744073709551616) :
    Calls Try.prog 49 #[.int .u64 x] w fun e w' => e = .returned (.int .u64 (Flo.fSqrt x)) ∧ Grown w w' := by
  rcases nx : Flo.nanB x with _ | _
  · have lx := Flo.notnan_le nx
    by_cases ix : Flo.rung x = 9218868437227405312
    · have Ix := ofC_inf hx ix
      rcases hs : Flo.sg x with _ | _
      · rw [Flo.fSqrt_inf hx ix hs]
        rw [hs] at Ix
        exact rsqrt_inf x _ _ w (Lib.hid Ix)
      · rw [Flo.fSqrt_minf ix hs]
        rw [hs] at Ix
        exact rsqrt_minf x _ _ w (Lib.hid Ix)
    · have Fx := ofC_fin hx (by omega)
      by_cases zx : Flo.rung x = 0
      · rw [Flo.fSqrt_zero hx zx]
        exact rsqrt_zero x _ _ _ w (Lib.hid Fx) (zt zx)
      · rcases hs : Flo.sg x with _ | _
        · rw [hs] at Fx
          have b1 := Flo.oE_bounds (show Flo.rung x < 9218868437227405312 by omega)
          have m1 := Flo.oM_lt x
          by_cases hp : Flo.oE x % 2 = 0
          · have hd : (Flo.oE x).tdiv 2 = Flo.oE x / 2 := by
              obtain ⟨q, hq⟩ : ∃ q, Flo.oE x = 2 * q := ⟨Flo.oE x / 2, by omega⟩
              rw [hq, Int.mul_tdiv_cancel_left _ (by omega)]; omega
            have hm : (Flo.oE x).tmod 2 = 0 := by
              obtain ⟨q, hq⟩ : ∃ q, Flo.oE x = 2 * q := ⟨Flo.oE x / 2, by omega⟩
              rw [hq, Int.mul_tmod_right]
            refine rsqrt_even x _ _ _ _ w (by omega) (by omega) (Lib.hid Fx) (zf zx) hm hd (by omega) (by omega) (Lib.hid (by omega)) (Lib.hid ?_)
            intro root hr w2
            rw [Flo.sqrt_fin (by omega) zx hs (.inl ⟨hp, rfl, rfl⟩) hr]
            exact round_any false _ _ w2 (ros_lt (by omega) hr) (by omega) (by omega)
          · have hd : (Flo.oE x - 1).tdiv 2 = (Flo.oE x - 1) / 2 := by
              obtain ⟨q, hq⟩ : ∃ q, Flo.oE x - 1 = 2 * q := ⟨(Flo.oE x - 1) / 2, by omega⟩
              rw [hq, Int.mul_tdiv_cancel_left _ (by omega)]; omega
            have ht : ((Flo.oE x).tmod 2 != 0) = true := by
              rw [bne_iff_ne]
              intro h
              have := Int.dvd_of_tmod_eq_zero h
              omega
            refine rsqrt_odd x _ _ _ _ _ _ w (by omega) (by omega) (Lib.hid Fx) (zf zx) rfl ht (wmul2 _ (by omega)) hd (by omega) (by omega) (Lib.hid (by omega)) (Lib.hid ?_)
            intro root hr w2
            rw [Flo.sqrt_fin (by omega) zx hs (.inr ⟨hp, rfl, rfl⟩) hr]
            exact round_any false _ _ w2 (ros_lt (by omega) hr) (by omega) (by omega)
        · rw [Flo.fSqrt_minus (by omega) zx hs]
          rw [hs] at Fx
          exact rsqrt_minus x _ _ w (Lib.hid Fx) (zf zx)
  · rw [Flo.fSqrt_nan nx]
    exact rsqrt_nan x _ _ _ w (Lib.hid (ofC_nan hx nx))
end Go.Proofs.Ytojnokaeopadfaa
