import Derived.Test.YtojnokaeopadfaaAg
import Derived.Test.YtojnokaeopadfaaBb
namespace Go.Proofs.Ytojnokaeopadfaa
open Go.RowKit
set_option linter.unusedVariables false
set_option linter.unusedSimpArgs false

theorem and_mask (n k : Nat) (h : n < 18446744073709551616) (hk : k ≤ 63) : bits .and .u64 (n : Int) ((2 ^ k - 1 : Nat) : Int) = ((n % 2 ^ k : Nat) : Int) := by
  have p1 : 2 ^ k ≤ 2 ^ 63 := Nat.pow_le_pow_right (by omega) hk
  rw [u64_and_nat n (2 ^ k - 1) h (by omega), Nat.and_two_pow_sub_one_eq_mod]
theorem wrap_mul (a b c : Nat) (h : a * b = c) (hc : c < 18446744073709551616) : IntKind.u64.wrap ((a : Int) * b) = c := by
  rw [← Int.natCast_mul, h]; exact wrap_u64_nat _ hc
theorem wrap_sum (a b c : Nat) (h : a + b = c) (hc : c < 18446744073709551616) : IntKind.u64.wrap ((a : Int) + b) = c := by
  rw [← Int.natCast_add, h]; exact wrap_u64_nat _ hc
theorem or_join (h l : Nat) (hh : h < 72057594037927936) (hl : l < 256) : bits .or .u64 ((h * 256 : Nat) : Int) (l : Int) = ((h * 256 + l : Nat) : Int) := by
  refine (u64_or_nat (h * 256) l (by omega) (by omega)).trans ?_
  rw [nat_join 8 (h * 256) l (by omega) hl]
theorem rmul_fin (x y : Nat) (w : World) (hx : x < 18446744073709551616) (hy : y < 18446744073709551616) (ix : Flo.rung x < 9218868437227405312) (iy : Flo.rung y < 9218868437227405312) (zx : Flo.rung x ≠ 0) (zy : Flo.rung y ≠ 0) :
    Calls Try.prog 43 #[.int .u64 x, .int .u64 y] w fun e w' => e = .returned (.int .u64 (Flo.fMul x y)) ∧ Grown w w' := by
  have H1 := Lib.hid (ofC_fin hx ix)
  have H2 := Lib.hid (ofC_fin hy iy)
  have b1 := Flo.oE_bounds ix
  have b2 := Flo.oE_bounds iy
  have m1 := Flo.oM_lt x
  have m2 := Flo.oM_lt y
  have g1 := Flo.oM_ge zx
  have g2 := Flo.oM_ge zy
  have z1 : ((Flo.oM x : Int) == 0) = false := by rw [beq_eq_false_iff_ne]; omega
  have z2 : ((Flo.oM y : Int) == 0) = false := by rw [beq_eq_false_iff_ne]; omega
  rw [Flo.mul_fin ix iy, ← Flo.mul_val _ ix iy zx zy]
  obtain ⟨k1, k2, k3, k4⟩ := Flo.mul_split m1 m2
  generalize Flo.oM x = a at *
  generalize Flo.oM y = b at *
  have c1 := and_mask a 26 (by omega) (by omega)
  have c2 : (a : Int) / 67108864 = ((a / 67108864 : Nat) : Int) := by omega
  have c3 := and_mask b 26 (by omega) (by omega)
  have c4 : (b : Int) / 67108864 = ((b / 67108864 : Nat) : Int) := by omega
  have l1 : a % 67108864 < 67108864 := Nat.mod_lt _ (by omega)
  have l2 : b % 67108864 < 67108864 := Nat.mod_lt _ (by omega)
  have l3 : a / 67108864 < 134217728 := by omega
  have l4 : b / 67108864 < 134217728 := by omega
  have hro := fun (low high : Nat) (h1 : low < 4503599627370496) (h2 : high * 4503599627370496 + low = a * b) => Flo.ro44 (a * b) h1 h2
  have hmid : a / 67108864 * (b % 67108864) + a % 67108864 * (b / 67108864) < 18446744073709551616 := k1
  obtain ⟨mid, emid⟩ : ∃ m, a / 67108864 * (b % 67108864) + a % 67108864 * (b / 67108864) = m := ⟨_, rfl⟩
  rw [emid] at k2 k3 k4 hmid
  obtain ⟨low, elow⟩ : ∃ m, a % 67108864 * (b % 67108864) + mid % 67108864 * 67108864 = m := ⟨_, rfl⟩
  rw [elow] at k2 k3 k4
  obtain ⟨high, ehigh⟩ : ∃ m, a / 67108864 * (b / 67108864) + mid / 67108864 + low / 4503599627370496 = m := ⟨_, rfl⟩
  rw [ehigh] at k3 k4
  rw [hro (low % 4503599627370496) high (Nat.mod_lt _ (by omega)) k4]
  have c17 := and_mask low 52 k2 (by omega)
  have c20 := or_join high (low % 4503599627370496 / 17592186044416) (by omega) (by omega)
  have c21 := and_mask (low % 4503599627370496) 44 (by omega) (by omega)
  have c9 := and_mask mid 26 hmid (by omega)
  have hmm : high * 256 + low % 4503599627370496 / 17592186044416 < 18446744073709551616 := by omega
  have c10 : IntKind.u64.wrap (((mid % 67108864 : Nat) : Int) * 67108864) = ((mid % 67108864 * 67108864 : Nat) : Int) := by rw [IntKind.wrap_u64]; omega
  have c18 : IntKind.u64.wrap ((high : Int) * 256) = ((high * 256 : Nat) : Int) := by rw [IntKind.wrap_u64]; omega
  by_cases ho : low % 4503599627370496 % 17592186044416 = 0
  · rw [if_pos ho]
    have hR := fun w => round_any (Flo.sg x != Flo.sg y) (high * 256 + low % 4503599627370496 / 17592186044416) (Flo.oE x + Flo.oE y + 44) w (by omega) (by omega) (by omega)
    exact rmul_even x y a b (a % 67108864) (a / 67108864) (b % 67108864) (b / 67108864) _ _ mid _ _ _ low _ _ _ _ high _ _ _ _ _ _ _ _ _ _ w (by omega) (by omega) (by omega) (by omega) H1 H2 z1 z2
      c1 c2 c3 c4 (wrap_mul _ _ _ rfl (by omega)) (wrap_mul _ _ _ rfl (by omega)) (wrap_sum _ _ _ emid hmid) (wrap_mul _ _ _ rfl (by omega)) c9 c10 (wrap_sum _ _ _ elow k2)
      (wrap_mul _ _ _ rfl (by omega)) (by omega) (wrap_sum _ _ _ rfl (by omega)) (by omega) (wrap_sum _ _ _ ehigh (by omega)) c17 c18 (by omega) c20 c21 (bne_false ho) (Lib.hid hR)
  · rw [if_neg ho]
    have hR := fun w => round_any (Flo.sg x != Flo.sg y) ((high * 256 + low % 4503599627370496 / 17592186044416) / 2 * 2 + 1) (Flo.oE x + Flo.oE y + 44) w (by omega) (by omega) (by omega)
    exact rmul_odd x y a b (a % 67108864) (a / 67108864) (b % 67108864) (b / 67108864) _ _ mid _ _ _ low _ _ _ _ high _ _ _ _ _ _ _ _ _ _ _ w (by omega) (by omega) (by omega) (by omega) H1 H2 z1 z2
      c1 c2 c3 c4 (wrap_mul _ _ _ rfl (by omega)) (wrap_mul _ _ _ rfl (by omega)) (wrap_sum _ _ _ emid hmid) (wrap_mul _ _ _ rfl (by omega)) c9 c10 (wrap_sum _ _ _ elow k2)
      (wrap_mul _ _ _ rfl (by omega)) (by omega) (wrap_sum _ _ _ rfl (by omega)) (by omega) (wrap_sum _ _ _ ehigh (by omega)) c17 c18 (by omega) c20 c21 (bne_true ho) (bit_or_one _ (by omega)) (Lib.hid hR)
theorem rmul_any (x y : Nat) (w : World) (hx : x < 18446744073709551616) (hy : y < 18446744073709551616) :
    Calls Try.prog 43 #[.int .u64 x, .int .u64 y] w fun e w' => e = .returned (.int .u64 (Flo.fMul x y)) ∧ Grown w w' := by
  have Hx := Lib.hid (ofC_any hx)
  have Hy := Lib.hid (ofC_any hy)
  rcases nx : Flo.nanB x with _ | _
  · rcases ny : Flo.nanB y with _ | _
    · have lx := Flo.notnan_le nx
      have ly := Flo.notnan_le ny
      by_cases ix : Flo.rung x = 9218868437227405312
      · have Ix := Lib.hid (ofC_inf hx ix)
        by_cases iy : Flo.rung y = 9218868437227405312
        · rw [Flo.fMul_ii ix iy]
          exact rmul_ii x y _ _ _ _ _ _ w Ix (Lib.hid (ofC_inf hy iy))
        · have Fy := Lib.hid (ofC_fin hy (by omega))
          by_cases zy : Flo.rung y = 0
          · rw [Flo.fMul_iz ix zy]
            exact rmul_iz x y _ _ _ _ _ _ w Ix Fy (by rw [Flo.oM_zero zy]; rfl)
          · rw [Flo.fMul_in ix (by omega) zy]
            exact rmul_in x y _ _ _ _ _ _ w Ix Fy (by rw [beq_eq_false_iff_ne]; have := Flo.oM_ge zy; omega)
      · have Fx := Lib.hid (ofC_fin hx (by omega))
        by_cases iy : Flo.rung y = 9218868437227405312
        · have Iy := Lib.hid (ofC_inf hy iy)
          by_cases zx : Flo.rung x = 0
          · rw [Flo.mul_comm', Flo.fMul_iz iy zx]
            exact rmul_zi x y _ _ _ _ _ _ w Fx Iy (by rw [Flo.oM_zero zx]; rfl)
          · rw [Flo.mul_comm', Flo.fMul_in iy (by omega) zx, Flo.bne_comm']
            exact rmul_ni x y _ _ _ _ _ _ w Fx Iy (by rw [beq_eq_false_iff_ne]; have := Flo.oM_ge zx; omega)
        · have Fy := Lib.hid (ofC_fin hy (by omega))
          by_cases zx : Flo.rung x = 0
          · rw [Flo.mul_fin (by omega) (by omega), zx, Flo.mag_zero, Nat.zero_mul, Flo.R_zero]
            exact rmul_z1 x y _ _ _ _ _ _ w Fx Fy (by rw [Flo.oM_zero zx]; rfl)
          · by_cases zy : Flo.rung y = 0
            · rw [Flo.mul_fin (by omega) (by omega), zy, Flo.mag_zero, Nat.mul_zero, Flo.R_zero]
              exact rmul_z2 x y _ _ _ _ _ _ w Fx Fy (by rw [beq_eq_false_iff_ne]; have := Flo.oM_ge zx; omega) (by rw [Flo.oM_zero zy]; rfl)
            · exact rmul_fin x y w hx hy (by omega) (by omega) zx zy
    · rw [(Flo.nan_bad (.inr ny)).2.2.1]
      exact rmul_nan2 x y _ _ _ _ _ _ _ _ w Hx Hy (kind_test x _ nx) (kind_test y _ ny)
  · rw [(Flo.nan_bad (.inl nx)).2.2.1]
    exact rmul_nan1 x y _ _ _ _ _ _ _ _ w Hx Hy (kind_test x _ nx)
end Go.Proofs.Ytojnokaeopadfaa
