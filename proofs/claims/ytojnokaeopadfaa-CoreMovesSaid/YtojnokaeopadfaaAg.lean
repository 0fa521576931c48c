import Derived.Test.YtojnokaeopadfaaAf
import Derived.Test.YtojnokaeopadfaaMa
namespace Go.Proofs.Ytojnokaeopadfaa
open Go.RowKit
set_option linter.unusedVariables false
set_option linter.unusedSimpArgs false

theorem ofC_fin {x : Nat} (h : x < 18446744073709551616) (hi : Flo.rung x < 9218868437227405312) : OfC x 102 (Flo.sg x) (Flo.oM x) (Flo.oE x) := fun w => by
  have hk : kind x = 102 := if_pos hi
  exact of_agg x _ _ _ _ w h hk rfl (by unfold mV; rw [if_pos hk]) (by unfold eV; rw [if_pos hk])
theorem ofC_inf {x : Nat} (h : x < 18446744073709551616) (hi : Flo.rung x = 9218868437227405312) : OfC x 105 (Flo.sg x) (mV x) (eV x) := fun w => by
  have hk : kind x = 105 := by unfold kind; rw [if_neg (by omega), if_pos hi]
  exact of_agg x _ _ _ _ w h hk rfl rfl rfl
theorem ofC_any {x : Nat} (h : x < 18446744073709551616) : OfC x (kind x) (Flo.sg x) (mV x) (eV x) := fun w => of_agg x _ _ _ _ w h rfl rfl rfl rfl
theorem radd_fin (x y : Nat) (w : World) (hx : x < 18446744073709551616) (hy : y < 18446744073709551616) (ix : Flo.rung x < 9218868437227405312) (iy : Flo.rung y < 9218868437227405312) (zx : Flo.rung x ≠ 0) (zy : Flo.rung y ≠ 0) :
    Calls Try.prog 42 #[.int .u64 x, .int .u64 y] w fun e w' => e = .returned (.int .u64 (Flo.fAdd x y)) ∧ Grown w w' := by
  have H1 := Lib.hid (ofC_fin hx ix)
  have H2 := Lib.hid (ofC_fin hy iy)
  have b1 := Flo.oE_bounds ix
  have b2 := Flo.oE_bounds iy
  have m1 := Flo.oM_lt x
  have m2 := Flo.oM_lt y
  have g1 := Flo.oM_ge zx
  have g2 := Flo.oM_ge zy
  have n1 : Flo.oM x ≠ 0 := by omega
  have n2 : Flo.oM y ≠ 0 := by omega
  have z1 : ((Flo.oM x : Int) == 0) = false := by rw [beq_eq_false_iff_ne]; omega
  have z2 : ((Flo.oM y : Int) == 0) = false := by rw [beq_eq_false_iff_ne]; omega
  rcases Int.lt_trichotomy (Flo.oE x) (Flo.oE y) with o | o | o
  · obtain ⟨d, hd⟩ : ∃ d : Nat, Flo.oE y - Flo.oE x = (d : Int) := ⟨(Flo.oE y - Flo.oE x).toNat, by omega⟩
    have hlt := Flo.lt_of_place (b := x) n2 (show 1 ≤ d by omega)
    have hm := (Flo.mag_of_place iy ix n2 hd).1.2 hlt
    by_cases hs : Flo.sg x = Flo.sg y
    · rw [Flo.add_comm, Flo.fAdd_same iy ix hs.symm zy, ← Flo.same_val (Flo.sg y) iy ix n2 hd]
      exact radd_iii_same x y _ _ d _ _ _ _ w (by omega) (by omega) (by omega) (by omega) H1 H2 m1 m2 n1 n2 o hd (by omega) hs g2
    · rw [Flo.add_comm, Flo.fAdd_diff iy ix (fun e => hs e.symm) hm, ← Flo.diff_val (Flo.sg y) iy ix n2 hd (by rw [Nat.mul_right_comm]; omega)]
      exact radd_iii_diff x y _ _ d _ _ _ _ w (by omega) (by omega) (by omega) (by omega) H1 H2 m1 m2 n1 n2 o hd (by omega) (by rw [beq_eq_false_iff_ne]; exact fun e => hs e.symm) g2
  · have hp := Flo.mag_of_place (d := 0) ix iy n1 (by omega)
    have hp2 := Flo.mag_of_place (d := 0) iy ix n2 (by omega)
    rw [Nat.pow_zero, Nat.mul_one] at hp hp2
    have hA := mul512 _ m1
    have hB := mul512 _ m2
    rw [← o] at H2
    by_cases hl : Flo.oM x < Flo.oM y
    · by_cases hs : Flo.sg x = Flo.sg y
      · rw [Flo.add_comm, Flo.fAdd_same iy ix hs.symm zy, ← Flo.same_val (d := 0) (Flo.sg y) iy ix n2 (by omega), Flo.ro_zero, ← o]
        have hR := fun w => round_any (Flo.sg y) (Flo.oM y * 512 + Flo.oM x * 512) (Flo.oE x - 9) w (by omega) (by omega) (by omega)
        exact radd_iv_none_same x y _ _ (Flo.oM y * 512) (Flo.oM x * 512) _ _ _ _ w (by omega) (by omega) H1 H2 z1 z2 (decide_eq_true hl) hB hA (bits_and_zero _ (by omega)) hs (wrap_add _ _ (by omega) (by omega)) _ (Lib.hid hR)
      · rw [Flo.add_comm, Flo.fAdd_diff iy ix (fun e => hs e.symm) (hp2.1.2 hl), ← Flo.diff_val (d := 0) (Flo.sg y) iy ix n2 (by omega) (by rw [Nat.pow_zero]; omega), Flo.ro_zero, ← o]
        have hR := fun w => round_any (Flo.sg y) (Flo.oM y * 512 - Flo.oM x * 512) (Flo.oE x - 9) w (by omega) (by omega) (by omega)
        exact radd_iv_none_diff x y _ _ (Flo.oM y * 512) (Flo.oM x * 512) _ _ _ _ w (by omega) (by omega) H1 H2 z1 z2 (decide_eq_true hl) hB hA (bits_and_zero _ (by omega)) (by rw [beq_eq_false_iff_ne]; exact fun e => hs e.symm) (beq_false_nat (by omega)) (wrap_sub _ _ (by omega) (by omega)) _ (Lib.hid hR)
    · by_cases hs : Flo.sg x = Flo.sg y
      · rw [Flo.fAdd_same ix iy hs zx, ← Flo.same_val (d := 0) (Flo.sg x) ix iy n1 (by omega), Flo.ro_zero]
        have hR := fun w => round_any (Flo.sg x) (Flo.oM x * 512 + Flo.oM y * 512) (Flo.oE x - 9) w (by omega) (by omega) (by omega)
        exact radd_ii_none_same x y _ _ (Flo.oM x * 512) (Flo.oM y * 512) _ _ _ _ w (by omega) (by omega) H1 H2 z1 z2 (decide_eq_false hl) hA hB (bits_and_zero _ (by omega)) hs (wrap_add _ _ (by omega) (by omega)) _ (Lib.hid hR)
      · by_cases he : Flo.oM x = Flo.oM y
        · rw [Flo.fAdd_equal ix iy hs (hp.2.2 he.symm).symm]
          exact radd_ii_none_eq x y _ _ (Flo.oM x * 512) (Flo.oM y * 512) 0 _ _ _ w (by omega) (by omega) H1 H2 z1 z2 (decide_eq_false hl) hA hB (bits_and_zero _ (by omega)) (by rw [beq_eq_false_iff_ne]; exact hs) (by rw [he])
        · rw [Flo.fAdd_diff ix iy hs (hp.1.2 (by omega)), ← Flo.diff_val (d := 0) (Flo.sg x) ix iy n1 (by omega) (by rw [Nat.pow_zero]; omega), Flo.ro_zero]
          have hR := fun w => round_any (Flo.sg x) (Flo.oM x * 512 - Flo.oM y * 512) (Flo.oE x - 9) w (by omega) (by omega) (by omega)
          exact radd_ii_none_diff x y _ _ (Flo.oM x * 512) (Flo.oM y * 512) _ _ _ _ w (by omega) (by omega) H1 H2 z1 z2 (decide_eq_false hl) hA hB (bits_and_zero _ (by omega)) (by rw [beq_eq_false_iff_ne]; exact hs) (beq_false_nat (by omega)) (wrap_sub _ _ (by omega) (by omega)) _ (Lib.hid hR)
  · obtain ⟨d, hd⟩ : ∃ d : Nat, Flo.oE x - Flo.oE y = (d : Int) := ⟨(Flo.oE x - Flo.oE y).toNat, by omega⟩
    have hlt := Flo.lt_of_place (b := y) n1 (show 1 ≤ d by omega)
    have hm := (Flo.mag_of_place ix iy n1 hd).1.2 hlt
    by_cases hs : Flo.sg x = Flo.sg y
    · rw [Flo.fAdd_same ix iy hs zx, ← Flo.same_val (Flo.sg x) ix iy n1 hd]
      exact radd_i_same x y _ _ d _ _ _ _ w (by omega) (by omega) (by omega) (by omega) H1 H2 m1 m2 n1 n2 o hd (by omega) hs g1
    · rw [Flo.fAdd_diff ix iy hs hm, ← Flo.diff_val (Flo.sg x) ix iy n1 hd (by rw [Nat.mul_right_comm]; omega)]
      exact radd_i_diff x y _ _ d _ _ _ _ w (by omega) (by omega) (by omega) (by omega) H1 H2 m1 m2 n1 n2 o hd (by omega) (by rw [beq_eq_false_iff_ne]; exact hs) g1
theorem radd_any (x y : Nat) (w : World) (hx : x < 18446744073709551616) (hy : y < 18446744073709551616) :
    Calls Try.prog 42 #[.int .u64 x, .int .u64 y] w fun e w' => e = .returned (.int .u64 (Flo.fAdd x y)) ∧ Grown w w' := by
  have Hx := Lib.hid (ofC_any hx)
  have Hy := Lib.hid (ofC_any hy)
  rcases nx : Flo.nanB x with _ | _
  · rcases ny : Flo.nanB y with _ | _
    · have lx := Flo.notnan_le nx
      have ly := Flo.notnan_le ny
      by_cases ix : Flo.rung x = 9218868437227405312
      · have Ix := Lib.hid (ofC_inf hx ix)
        by_cases iy : Flo.rung y = 9218868437227405312
        · have Iy := Lib.hid (ofC_inf hy iy)
          by_cases hs : Flo.sg x = Flo.sg y
          · rw [Flo.fAdd_infs2 hx ix iy hs]
            rw [← hs] at Iy
            exact radd_left2 x y _ _ _ _ _ w Ix Iy
          · rw [Flo.fAdd_infs ix iy hs]
            exact radd_inf x y _ _ _ _ _ _ w Ix Iy (by rw [beq_eq_false_iff_ne]; exact hs)
        · rw [Flo.fAdd_infl hx ix (by omega)]
          exact radd_left x y _ _ _ _ _ _ w Ix (Lib.hid (ofC_fin hy (by omega)))
      · have Fx := Lib.hid (ofC_fin hx (by omega))
        by_cases iy : Flo.rung y = 9218868437227405312
        · rw [Flo.fAdd_infr hy iy (by omega)]
          exact radd_right x y _ _ _ _ _ _ w Fx (Lib.hid (ofC_inf hy iy))
        · have Fy := Lib.hid (ofC_fin hy (by omega))
          by_cases zx : Flo.rung x = 0
          · have tx : ((Flo.oM x : Int) == 0) = true := by rw [Flo.oM_zero zx]; rfl
            by_cases zy : Flo.rung y = 0
            · have ty : ((Flo.oM y : Int) == 0) = true := by rw [Flo.oM_zero zy]; rfl
              rw [Flo.fAdd_zero zx zy]
              exact radd_zero x y _ _ _ _ _ _ w Fx Fy tx ty
            · have ty : ((Flo.oM y : Int) == 0) = false := by rw [beq_eq_false_iff_ne]; have := Flo.oM_ge zy; omega
              rw [Flo.fAdd_right hy zx (by omega) zy]
              exact radd_zl x y _ _ _ _ _ _ w Fx Fy tx ty
          · have tx : ((Flo.oM x : Int) == 0) = false := by rw [beq_eq_false_iff_ne]; have := Flo.oM_ge zx; omega
            by_cases zy : Flo.rung y = 0
            · have ty : ((Flo.oM y : Int) == 0) = true := by rw [Flo.oM_zero zy]; rfl
              rw [Flo.fAdd_left hx zy (by omega) zx]
              exact radd_zr x y _ _ _ _ _ _ w Fx Fy tx ty
            · exact radd_fin x y w hx hy (by omega) (by omega) zx zy
    · rw [(Flo.nan_bad (.inr ny)).1]
      exact radd_nan2 x y _ _ _ _ _ _ _ _ w Hx Hy (kind_test x _ nx) (kind_test y _ ny)
  · rw [(Flo.nan_bad (.inl nx)).1]
    exact radd_nan1 x y _ _ _ _ _ _ _ _ w Hx Hy (kind_test x _ nx)
end Go.Proofs.Ytojnokaeopadfaa
