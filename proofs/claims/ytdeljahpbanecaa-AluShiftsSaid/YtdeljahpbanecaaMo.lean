import Derived.Test.YtdeljahpbanecaaMn
/- Products. -/
namespace Flo
open Ieee
set_option linter.unusedVariables false
set_option linter.unusedSimpArgs false

theorem xor_eq (s t : Bool) : (s ^^ t) = (s != t) := by cases s <;> cases t <;> rfl
/-- The exact product, in units of the least number's square. -/
theorem mul_fin {x y : Nat} (hx : rung x < 9218868437227405312) (hy : rung y < 9218868437227405312) :
    fMul x y = D.word (sg x != sg y) (R 1074 (mag (rung x) * mag (rung y))) := by
  obtain ⟨m, p, e1, hp, _, _, hv⟩ := read_fin hx
  obtain ⟨n, q, e2, hq, _, _, hw⟩ := read_fin hy
  unfold fMul Format.mul
  rw [e1, e2]
  show D.nearest (sg x ^^ sg y) (m * n) (p + q) = _
  rw [nearest_R _ _ _ 1074 (by omega), xor_eq, ← hv, ← hw]
  congr 2
  rw [show (p + q + 1074 + ((1074 : Nat) : Int)).toNat = (p + 1074).toNat + (q + 1074).toNat by omega, Nat.pow_add, Nat.mul_mul_mul_comm]
theorem mul_comm' (x y : Nat) : fMul x y = fMul y x := by
  unfold fMul Format.mul
  congr 2
  cases D.read x <;> cases D.read y <;> simp only [Datum.product]
  · rename_i s m i t n j
    rw [Nat.mul_comm n m, Int.add_comm j i, Bool.xor_comm t s]
  · rename_i s t
    rw [Bool.xor_comm s t]
  all_goals (first | done | (rename_i s m i t; rw [Bool.xor_comm s t]) | (rename_i s t; rw [Bool.xor_comm s t]))
theorem mul_val (s : Bool) {x y : Nat} (hx : rung x < 9218868437227405312) (hy : rung y < 9218868437227405312) (zx : rung x ≠ 0) (zy : rung y ≠ 0) :
    D.nearest s (ro (oM x * oM y) 44) (oE x + oE y + 44) = D.word s (R 1074 (mag (rung x) * mag (rung y))) := by
  have b1 := oE_bounds hx
  have b2 := oE_bounds hy
  have v1 := oM_val hx
  have v2 := oM_val hy
  have g1 := oM_ge zx
  have g2 := oM_ge zy
  rw [nearest_R s _ _ 1178 (by omega), show (oE x + oE y + 44 + 1074 + ((1178 : Nat) : Int)).toNat = (oE x + 1126).toNat + (oE y + 1126).toNat + 44 by omega]
  have hp : 2 ^ 54 ≤ oM x * oM y / 2 ^ 44 := by
    have h := Nat.mul_le_mul g1 g2
    rw [Nat.le_div_iff_mul_le (pow_pos' 44)]
    exact Nat.le_trans (by decide) h
  rw [R_ro 1178 _ (.inr hp), Nat.pow_add, Nat.mul_mul_mul_comm, v1, v2, Nat.mul_mul_mul_comm, show 4503599627370496 * 4503599627370496 = 2 ^ 104 from rfl, show (1178 : Nat) = 1074 + 104 from rfl, R_scale]
/-- The product digit by digit: two halves each. -/
theorem mul_split {a b : Nat} (ha : a < 9007199254740992) (hb : b < 9007199254740992) :
    let mid := a / 67108864 * (b % 67108864) + a % 67108864 * (b / 67108864)
    let low := a % 67108864 * (b % 67108864) + mid % 67108864 * 67108864
    let high := a / 67108864 * (b / 67108864) + mid / 67108864 + low / 4503599627370496
    mid < 18446744073709551616 ∧ low < 18446744073709551616 ∧ high < 72057594037927936 ∧ high * 4503599627370496 + low % 4503599627370496 = a * b := by
  intro mid low high
  have e1 := Nat.div_add_mod a 67108864
  have e2 := Nat.div_add_mod b 67108864
  have a0 : a % 67108864 ≤ 67108863 := by omega
  have b0 : b % 67108864 ≤ 67108863 := by omega
  have a1 : a / 67108864 ≤ 134217727 := by omega
  have b1 : b / 67108864 ≤ 134217727 := by omega
  have p1 := Nat.mul_le_mul a1 b0
  have p2 := Nat.mul_le_mul a0 b1
  have p3 := Nat.mul_le_mul a0 b0
  have p4 := Nat.mul_le_mul a1 b1
  have hab : a * b = (67108864 * (a / 67108864) + a % 67108864) * (67108864 * (b / 67108864) + b % 67108864) := by rw [e1, e2]
  rw [Nat.add_mul, Nat.mul_add, Nat.mul_add, Nat.mul_mul_mul_comm, Nat.mul_assoc 67108864 (a / 67108864) (b % 67108864), Nat.mul_left_comm (a % 67108864) 67108864 (b / 67108864)] at hab
  have hmid : mid = a / 67108864 * (b % 67108864) + a % 67108864 * (b / 67108864) := rfl
  have hlow : low = a % 67108864 * (b % 67108864) + mid % 67108864 * 67108864 := rfl
  have hhigh : high = a / 67108864 * (b / 67108864) + mid / 67108864 + low / 4503599627370496 := rfl
  clear_value high low mid
  generalize a / 67108864 * (b % 67108864) = u at *
  generalize a % 67108864 * (b / 67108864) = v at *
  generalize a % 67108864 * (b % 67108864) = t at *
  generalize a / 67108864 * (b / 67108864) = s at *
  clear e1 e2 a0 b0 a1 b1 ha hb
  omega
theorem ro44 (n : Nat) {high low : Nat} (hl : low < 4503599627370496) (h : high * 4503599627370496 + low = n) :
    ro n 44 = if low % 17592186044416 = 0 then high * 256 + low / 17592186044416 else (high * 256 + low / 17592186044416) / 2 * 2 + 1 := by
  unfold ro
  show (if n % 17592186044416 = 0 then n / 17592186044416 else n / 17592186044416 / 2 * 2 + 1) = _
  have e1 : n % 17592186044416 = low % 17592186044416 := by omega
  have e2 : n / 17592186044416 = high * 256 + low / 17592186044416 := by omega
  rw [e1, e2]
theorem bne_comm' (s t : Bool) : (s != t) = (t != s) := by cases s <;> cases t <;> rfl
theorem fMul_ii {x y : Nat} (hx : rung x = 9218868437227405312) (hy : rung y = 9218868437227405312) : fMul x y = D.word (sg x != sg y) 9218868437227405312 := by
  unfold fMul Format.mul; rw [read_inf hx, read_inf hy]
  show D.word (sg x ^^ sg y) D.infRung = _
  rw [d_inf, xor_eq]
theorem read_zero {y : Nat} (hy : rung y = 0) : D.read y = .number (sg y) 0 (-1074) := by
  rw [read_rs, hy, if_pos (by omega)]
theorem read_pos {y : Nat} (hy : rung y < 9218868437227405312) (h0 : rung y ≠ 0) : ∃ n q, D.read y = .number (sg y) n q ∧ n ≠ 0 := by
  obtain ⟨n, q, e, _, _, _, hv⟩ := read_fin hy
  refine ⟨n, q, e, fun h => ?_⟩
  have := mag_pos h0
  rw [h, Nat.zero_mul] at hv; omega
theorem fMul_iz {x y : Nat} (hx : rung x = 9218868437227405312) (hy : rung y = 0) : fMul x y = NaN := by
  unfold fMul Format.mul; rw [read_inf hx, read_zero hy]; rfl
theorem fMul_in {x y : Nat} (hx : rung x = 9218868437227405312) (hy : rung y < 9218868437227405312) (h0 : rung y ≠ 0) : fMul x y = D.word (sg x != sg y) 9218868437227405312 := by
  obtain ⟨n, q, e, hn⟩ := read_pos hy h0
  unfold fMul Format.mul; rw [read_inf hx, e]
  unfold Datum.product
  dsimp only
  rw [if_neg hn]
  show D.word (sg x ^^ sg y) D.infRung = _
  rw [d_inf, xor_eq]
end Flo
