import Derived.Test.YtdeljahpbanecaaMo
/- Quotients and roots, digit by digit. -/
namespace Flo
open Ieee
set_option linter.unusedVariables false
set_option linter.unusedSimpArgs false

/-- What is dropped with its mark left rounds as the whole does. -/
theorem nearest_ro (s : Bool) (p : Int) {n d : Nat} (h : n % 2 ^ d = 0 ∨ 2 ^ 54 ≤ n / 2 ^ d) : D.nearest s (ro n d) (p + d) = D.nearest s n p := by
  rw [nearest_R s (ro n d) (p + d) (-1074 - p).toNat (by omega), nearest_R s n p (-1074 - p).toNat (by omega)]
  rw [show (p + d + 1074 + ((-1074 - p).toNat : Int)).toNat = (p + 1074 + ((-1074 - p).toNat : Int)).toNat + d by omega, R_ro _ _ h]
/-- n by c, the last digit 1 if anything is left over. -/
def roq (n c : Nat) : Nat := if n % c = 0 then n / c else n / c / 2 * 2 + 1
theorem roq_ge {n c : Nat} (h : 2 ^ 54 ≤ n / c) : 2 ^ 54 ≤ roq n c := by unfold roq; split <;> omega
theorem roq_scale (n c k : Nat) (hk : 0 < k) : roq (n * k) (c * k) = roq n c := by
  unfold roq
  rw [Nat.mul_div_mul_right _ _ hk, Nat.mul_mod_mul_right]
  by_cases h : n % c = 0
  · rw [if_pos h, if_pos (by rw [h, Nat.zero_mul])]
  · rw [if_neg h, if_neg (Nat.mul_ne_zero h (by omega))]
theorem ro_roq (n c j : Nat) (hc : 0 < c) : ro (roq (n * 2 ^ j) c) j = roq n c := by
  have hj := pow_pos' j
  have hq : n * 2 ^ j / c / 2 ^ j = n / c := by
    rw [Nat.div_div_eq_div_mul, Nat.mul_div_mul_right _ _ hj]
  have hd := Nat.div_add_mod (n * 2 ^ j) c
  by_cases h0 : j = 0
  · subst h0; rw [ro_zero, Nat.pow_zero, Nat.mul_one]
  obtain ⟨k, rfl⟩ : ∃ k, j = k + 1 := ⟨j - 1, by omega⟩
  have hiff : n % c = 0 ↔ (n * 2 ^ (k + 1) % c = 0 ∧ n * 2 ^ (k + 1) / c % 2 ^ (k + 1) = 0) := by
    constructor
    · intro h
      have e : n = c * (n / c) := by have := Nat.div_add_mod n c; omega
      have e2 : n * 2 ^ (k + 1) = c * (n / c * 2 ^ (k + 1)) := by
        conv => lhs; rw [e]
        rw [Nat.mul_assoc]
      rw [e2]
      exact ⟨Nat.mul_mod_right _ _, by rw [Nat.mul_div_cancel_left _ hc, Nat.mul_mod_left]⟩
    · rintro ⟨h1, h2⟩
      have h3 := Nat.div_add_mod (n * 2 ^ (k + 1) / c) (2 ^ (k + 1))
      rw [h2, hq, Nat.add_zero] at h3
      rw [h1, Nat.add_zero, ← h3, ← Nat.mul_assoc, Nat.mul_comm c, Nat.mul_assoc, Nat.mul_comm (2 ^ (k + 1))] at hd
      have h4 := Nat.eq_of_mul_eq_mul_right hj hd
      rw [← h4]; exact Nat.mul_mod_right _ _
  unfold ro roq
  by_cases hr : n * 2 ^ (k + 1) % c = 0
  · rw [if_pos hr, hq]
    by_cases hm : n * 2 ^ (k + 1) / c % 2 ^ (k + 1) = 0
    · rw [if_pos hm, if_pos (hiff.2 ⟨hr, hm⟩)]
    · rw [if_neg hm, if_neg (fun e => hm (hiff.1 e).2)]
  · rw [if_neg hr]
    have hne : (n * 2 ^ (k + 1) / c / 2 * 2 + 1) % 2 ^ (k + 1) ≠ 0 := by
      intro e
      have h1 : 2 ∣ 2 ^ (k + 1) := ⟨2 ^ k, by rw [Nat.pow_succ, Nat.mul_comm]⟩
      have h2 := Nat.mod_mod_of_dvd (n * 2 ^ (k + 1) / c / 2 * 2 + 1) h1
      rw [e] at h2; omega
    have hdv : (n * 2 ^ (k + 1) / c / 2 * 2 + 1) / 2 ^ (k + 1) = n / c := by
      rw [← hq, Nat.pow_succ, Nat.mul_comm (2 ^ k) 2, ← Nat.div_div_eq_div_mul, ← Nat.div_div_eq_div_mul]
      congr 1; omega
    rw [if_neg hne, if_neg (fun e => hr (hiff.1 e).1), hdv]
theorem roq_two (n c : Nat) (hc : 0 < c) : 2 * (n / c) + (n % c != 0).toNat = roq (n * 2) c := by
  have hd := Nat.div_add_mod n c
  have hl := Nat.mod_lt n hc
  unfold roq
  by_cases h : n % c = 0
  · have e : n * 2 = c * (n / c * 2) := by
      rw [h, Nat.add_zero] at hd
      conv => lhs; rw [← hd]
      rw [Nat.mul_assoc]
    rw [h, e, Nat.mul_mod_right, if_pos rfl, Nat.mul_div_cancel_left _ hc]
    show 2 * (n / c) + 0 = _
    omega
  · have e : n * 2 = c * (n / c * 2) + n % c * 2 := by
      conv => lhs; rw [← hd]
      rw [Nat.add_mul, Nat.mul_assoc]
    have hb : (n % c != 0).toNat = 1 := by rw [bne_iff_ne.2 h]; rfl
    rw [hb, e, Nat.mul_add_mod, Nat.mul_add_div hc]
    generalize n / c = q
    generalize n % c = r at *
    by_cases h2 : r * 2 < c
    · rw [Nat.mod_eq_of_lt h2, Nat.div_eq_of_lt h2, if_neg (by omega)]; omega
    · have e3 : r * 2 / c = 1 := by rw [Nat.div_eq_iff hc]; omega
      rw [e3]; split <;> omega
/-- The quotient does not hang on how many digits were reckoned, if they are enough. -/
theorem quo_same (s : Bool) (m c K K' : Nat) (p : Int) (hc : 0 < c) (hK : K ≤ K') (h : 2 ^ 54 ≤ m * 2 ^ K / c) :
    D.nearest s (roq (m * 2 ^ K') c) (p - K') = D.nearest s (roq (m * 2 ^ K) c) (p - K) := by
  obtain ⟨j, rfl⟩ : ∃ j, K' = K + j := ⟨K' - K, by omega⟩
  have e : m * 2 ^ (K + j) = m * 2 ^ K * 2 ^ j := by rw [Nat.pow_add, Nat.mul_assoc]
  have h1 := ro_roq (m * 2 ^ K) c j hc
  rw [e]
  rw [← h1]
  have hN : roq (m * 2 ^ K * 2 ^ j) c % 2 ^ j = 0 ∨ 2 ^ 54 ≤ roq (m * 2 ^ K * 2 ^ j) c / 2 ^ j := by
    right
    have hq : m * 2 ^ K * 2 ^ j / c / 2 ^ j = m * 2 ^ K / c := by
      rw [Nat.div_div_eq_div_mul, Nat.mul_div_mul_right _ _ (pow_pos' j)]
    rw [← hq] at h
    by_cases h0 : j = 0
    · subst h0
      rw [Nat.pow_zero, Nat.div_one] at h ⊢
      exact roq_ge (by rw [Nat.mul_one] at h ⊢; exact h)
    · obtain ⟨k, rfl⟩ : ∃ k, j = k + 1 := ⟨j - 1, by omega⟩
      unfold roq
      split
      · exact h
      · have e2 : (2 : Nat) ^ (k + 1) = 2 * 2 ^ k := by rw [Nat.pow_succ, Nat.mul_comm]
        rw [e2, ← Nat.div_div_eq_div_mul] at h ⊢
        rw [show (m * 2 ^ K * (2 * 2 ^ k) / c / 2 * 2 + 1) / 2 = m * 2 ^ K * (2 * 2 ^ k) / c / 2 by omega]
        exact h
  have := nearest_ro s (p - ((K + j : Nat) : Int)) hN
  rw [← this]
  congr 1; omega
theorem div_fin {x y : Nat} (hx : rung x < 9218868437227405312) (hy : rung y < 9218868437227405312) (zx : rung x ≠ 0) (zy : rung y ≠ 0) :
    fDiv x y = D.nearest (sg x != sg y) (roq (oM x * 2 ^ 56) (oM y)) (oE x - oE y - 56) := by
  have gx := oM_ge zx
  have gy := oM_ge zy
  have lx := oM_lt x
  have ly := oM_lt y
  have sx := shf_le x
  have sy := shf_le y
  have nx : sigm x ≠ 0 := fun e => zx ((sigm_zero x).1 e)
  have ny : sigm y ≠ 0 := fun e => zy ((sigm_zero y).1 e)
  have rx : D.read x = .number (sg x) (sigm x) (plc x) := by
    rw [read_rs]; unfold sigm plc
    by_cases h : rung x < 4503599627370496
    · rw [if_pos h, if_pos h, if_pos h]
    · rw [if_neg h, if_neg h, if_neg h, if_pos hx]; congr 1; omega
  have ry : D.read y = .number (sg y) (sigm y) (plc y) := by
    rw [read_rs]; unfold sigm plc
    by_cases h : rung y < 4503599627370496
    · rw [if_pos h, if_pos h, if_pos h]
    · rw [if_neg h, if_neg h, if_neg h, if_pos hy]; congr 1; omega
  unfold fDiv Format.div
  rw [rx, ry]
  unfold Datum.quotient
  dsimp only
  rw [if_neg ny]
  show D.nearest (sg x ^^ sg y) (2 * (sigm x <<< (54 + (sigm y).log2 - (sigm x).log2) / sigm y) + (sigm x <<< (54 + (sigm y).log2 - (sigm x).log2) % sigm y != 0).toNat) (plc x - plc y - ((54 + (sigm y).log2 - (sigm x).log2 : Nat) : Int) - 1) = _
  have l1 : (sigm x).log2 < 53 := (Nat.log2_lt nx).2 (sigm_lt x)
  have l2 : (sigm y).log2 < 53 := (Nat.log2_lt ny).2 (sigm_lt y)
  obtain ⟨more, hmore⟩ : ∃ k, 54 + (sigm y).log2 - (sigm x).log2 = k := ⟨_, rfl⟩
  rw [hmore, xor_eq, Nat.shiftLeft_eq, roq_two _ _ (by omega)]
  have e1 : sigm x * 2 ^ more * 2 = sigm x * 2 ^ (more + 1) := by rw [Nat.pow_succ, Nat.mul_assoc]
  rw [e1]
  have hbig : 2 ^ 54 ≤ sigm x * 2 ^ (more + 1) / sigm y := by
    rw [Nat.le_div_iff_mul_le (by omega)]
    have a := log2_le nx
    have b := lt_log2 (sigm y)
    have c1 := Nat.mul_le_mul_right (2 ^ (more + 1)) a
    rw [← Nat.pow_add] at c1
    have c2 := Nat.mul_le_mul_left (2 ^ 54) (Nat.le_of_lt b)
    rw [← Nat.pow_add] at c2
    exact Nat.le_trans c2 (Nat.le_trans (Nat.pow_le_pow_right (by omega) (by omega)) c1)
  have href : roq (oM x * 2 ^ 56) (oM y) = roq (sigm x * 2 ^ (shf x + 56 - shf y)) (sigm y) := by
    unfold oM
    rw [Nat.mul_assoc, ← Nat.pow_add, ← roq_scale (sigm x * 2 ^ (shf x + 56 - shf y)) (sigm y) (2 ^ shf y) (pow_pos' _), Nat.mul_assoc, ← Nat.pow_add]
    congr 3; omega
  have hbig2 : 2 ^ 54 ≤ sigm x * 2 ^ (shf x + 56 - shf y) / sigm y := by
    have h1 : oM x * 2 ^ 56 / oM y = sigm x * 2 ^ (shf x + 56 - shf y) / sigm y := by
      unfold oM
      rw [Nat.mul_assoc, ← Nat.pow_add, ← Nat.mul_div_mul_right (sigm x * 2 ^ (shf x + 56 - shf y)) (sigm y) (pow_pos' (shf y)), Nat.mul_assoc, ← Nat.pow_add]
      congr 3; omega
    rw [← h1, Nat.le_div_iff_mul_le (by omega)]
    have h2 := Nat.mul_le_mul_right (2 ^ 56) gx
    have h3 := Nat.mul_le_mul_left (2 ^ 54) (Nat.le_of_lt ly)
    exact Nat.le_trans h3 (Nat.le_trans (by decide) h2)
  rw [href]
  have p2 : oE x - oE y - 56 = plc x - plc y - ((shf x + 56 - shf y : Nat) : Int) := by unfold oE; omega
  rw [p2, show plc x - plc y - (more : Int) - 1 = plc x - plc y - ((more + 1 : Nat) : Int) by omega]
  rcases Nat.le_total (more + 1) (shf x + 56 - shf y) with h | h
  · exact (quo_same _ _ _ _ _ _ (by omega) h hbig).symm
  · exact quo_same _ _ _ _ _ _ (by omega) h hbig2
end Flo
