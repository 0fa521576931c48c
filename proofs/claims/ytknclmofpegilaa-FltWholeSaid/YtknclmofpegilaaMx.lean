/- Small whole numbers. -/
import Derived.Test.YtknclmofpegilaaMu
namespace Flo
open Ieee
set_option linter.unusedVariables false
set_option linter.unusedSimpArgs false

/-- The word of a whole number. -/
def W (n : Int) : Nat := D.nearest (decide (n < 0)) n.natAbs 0
theorem W_spec {n : Int} (h1 : -9007199254740992 < n) (h2 : n < 9007199254740992) : rung (W n) < 9218868437227405312 ∧ mag (rung (W n)) = n.natAbs * U ∧ sg (W n) = decide (n < 0) ∧ W n < 18446744073709551616 := by
  obtain ⟨r, hr, hm⟩ := rep_int (m := n.natAbs) (by omega)
  have e : W n = D.word (decide (n < 0)) r := nearest_of_mag _ hm (by omega)
  obtain ⟨h3, h4⟩ := word_rung (decide (n < 0)) (r := r) (by omega)
  rw [e, h3, h4]
  exact ⟨hr, hm, rfl, e ▸ D.nearest_lt _ _ _⟩
theorem W_V {n : Int} (h1 : -9007199254740992 < n) (h2 : n < 9007199254740992) : V (W n) = n * (U : Int) := by
  obtain ⟨_, hm, hs, _⟩ := W_spec h1 h2
  unfold V; rw [hm, hs, ← sgn_mul, sgn_abs]
theorem R_int {m : Nat} (hm : m < 9007199254740992) : ∃ r, r < 9218868437227405312 ∧ R 0 (m * U) = r ∧ mag r = m * U := by
  obtain ⟨r, hr, h⟩ := rep_int hm
  exact ⟨r, hr, by rw [← h, R_mag (by omega)], h⟩
theorem toInt_word (s : Bool) {m : Nat} (hm : m < 9007199254740992) : fToInt (D.word s (R 0 (m * U))) = sgn s m := by
  obtain ⟨r, _, h1, h2⟩ := R_int hm
  rw [h1, toInt_exact s h2 (by omega)]

theorem whole_add {a b : Int} (a1 : -33554432 < a) (a2 : a < 33554432) (b1 : -33554432 < b) (b2 : b < 33554432) : fToInt (fAdd (W a) (W b)) = a + b := by
  obtain ⟨ra, _, _, _⟩ := W_spec (n := a) (by omega) (by omega)
  obtain ⟨rb, _, _, _⟩ := W_spec (n := b) (by omega) (by omega)
  rw [fAdd_fin ra rb]
  have hT : T (W a) (W b) = (a + b) * (U : Int) := by
    show V (W a) + V (W b) = _
    rw [W_V (by omega) (by omega), W_V (by omega) (by omega), Int.add_mul]
  have hU := U_pos
  rw [hT]
  by_cases h0 : a + b = 0
  · rw [if_pos (by rw [h0, Int.zero_mul]), h0]
    have h := toInt_word (sg (W a) && sg (W b)) (m := 0) (by omega)
    rw [Nat.zero_mul, R_zero] at h
    rw [h]; unfold sgn; split <;> rfl
  · rw [if_neg (Int.mul_ne_zero h0 (by omega))]
    have hd : decide ((a + b) * (U : Int) < 0) = decide (a + b < 0) := by
      rw [decide_eq_decide]
      constructor
      · intro h
        refine Int.lt_of_not_ge fun h' => ?_
        have := Int.mul_nonneg h' (show (0 : Int) ≤ (U : Int) by omega)
        omega
      · intro h; exact Int.mul_neg_of_neg_of_pos h (by omega)
    rw [hd, Int.natAbs_mul, Int.natAbs_natCast, toInt_word _ (by omega), sgn_abs]
theorem sgn_prod (a b : Int) : sgn (decide (a < 0) != decide (b < 0)) (a.natAbs * b.natAbs) = a * b := by
  have ha := sgn_abs a
  have hb := sgn_abs b
  conv => rhs; rw [← ha, ← hb]
  unfold sgn
  cases decide (a < 0) <;> cases decide (b < 0) <;> simp [Int.mul_neg, Int.neg_mul]
theorem R_1074 (m : Nat) : R 1074 (m * U * U) = R 0 (m * U) := by
  obtain ⟨k, hk⟩ : ∃ k : Nat, k = 1074 := ⟨_, rfl⟩
  have h := R_scale 0 (m * 2 ^ k) k
  rw [Nat.zero_add] at h
  rw [U_eq hk, ← hk, h]
theorem mul_W {a b : Int} (a1 : -33554432 < a) (a2 : a < 33554432) (b1 : -33554432 < b) (b2 : b < 33554432) : fMul (W a) (W b) = D.word (decide (a < 0) != decide (b < 0)) (R 0 (a.natAbs * b.natAbs * U)) := by
  obtain ⟨ra, ma, sa, _⟩ := W_spec (n := a) (by omega) (by omega)
  obtain ⟨rb, mb, sb, _⟩ := W_spec (n := b) (by omega) (by omega)
  rw [mul_fin ra rb, sa, sb, ma, mb]
  have e : a.natAbs * U * (b.natAbs * U) = a.natAbs * b.natAbs * U * U := by rw [Nat.mul_mul_mul_comm, Nat.mul_assoc (a.natAbs * b.natAbs)]
  rw [e, R_1074]
theorem prod_lt {a b : Int} (a1 : -33554432 < a) (a2 : a < 33554432) (b1 : -33554432 < b) (b2 : b < 33554432) : a.natAbs * b.natAbs < 9007199254740992 := by
  have := Nat.mul_le_mul (show a.natAbs ≤ 33554432 by omega) (show b.natAbs ≤ 33554432 by omega)
  omega
theorem whole_mul {a b : Int} (a1 : -33554432 < a) (a2 : a < 33554432) (b1 : -33554432 < b) (b2 : b < 33554432) : fToInt (fMul (W a) (W b)) = a * b := by
  rw [mul_W a1 a2 b1 b2, toInt_word _ (prod_lt a1 a2 b1 b2), sgn_prod]

theorem sqrt_scaled_e {x w e : Nat} (he : e = 436) (hx : rung x < 9218868437227405312) (zx : rung x ≠ 0) (hs : sg x = false) (hw : IsRoot (mag (rung x) * 2 ^ 200) w) :
    fSqrt x = D.word false (R 0 (ros (mag (rung x) * 2 ^ 200) w * 2 ^ e)) := by subst he; exact sqrt_scaled hx zx hs hw
theorem isRoot_sq (n : Nat) : IsRoot (n * n) n := ⟨Nat.le_refl _, by rw [Nat.add_mul, Nat.mul_add]; omega⟩
theorem whole_sqrt {a : Int} (a1 : -33554432 < a) (a2 : a < 33554432) : fToInt (fSqrt (fMul (W a) (W a))) = a.natAbs := by
  rw [mul_W a1 a2 a1 a2]
  have hs : (decide (a < 0) != decide (a < 0)) = false := by cases decide (a < 0) <;> rfl
  rw [hs]
  obtain ⟨r, hr, h1, h2⟩ := R_int (prod_lt a1 a2 a1 a2)
  rw [h1]
  obtain ⟨h3, h4⟩ := word_rung false (r := r) (by omega)
  by_cases h0 : a.natAbs = 0
  · have hr0 : r = 0 := by
      refine mag_inj ?_
      rw [h2, h0, mag_zero]; simp
    have h := toInt_word false (m := 0) (by omega)
    rw [Nat.zero_mul, R_zero] at h
    rw [hr0, fSqrt_zero (by show 0 < _; omega) rfl, h0, h]; rfl
  · have hU := U_pos
    have hpos : a.natAbs * a.natAbs ≠ 0 := Nat.mul_ne_zero h0 h0
    have hr0 : r ≠ 0 := by
      intro e; rw [e, mag_zero] at h2
      exact absurd h2.symm (Nat.mul_ne_zero hpos (by omega))
    obtain ⟨j, k, hj, hk, hjk⟩ : ∃ j k : Nat, j = 637 ∧ k = 1074 ∧ k + 200 = j + j := ⟨637, 1074, rfl, rfl, rfl⟩
    have e1 : mag r * 2 ^ 200 = a.natAbs * 2 ^ j * (a.natAbs * 2 ^ j) := by
      rw [h2, U_eq hk, Nat.mul_assoc, ← Nat.pow_add, hjk, Nat.pow_add, Nat.mul_mul_mul_comm]
    have hroot : IsRoot (mag (rung (D.word false r)) * 2 ^ 200) (a.natAbs * 2 ^ j) := by
      rw [h3, e1]; exact isRoot_sq _
    obtain ⟨ee, hee⟩ : ∃ e : Nat, e = 436 := ⟨_, rfl⟩
    rw [sqrt_scaled_e hee (by rw [h3]; exact hr) (by rw [h3]; exact hr0) h4 hroot, h3]
    have e2 : ros (mag r * 2 ^ 200) (a.natAbs * 2 ^ j) = a.natAbs * 2 ^ (j + 1) := by
      unfold ros
      rw [bne_eq_false_iff_eq.2 e1.symm, Nat.pow_succ]
      show 2 * (a.natAbs * 2 ^ j) + 0 = _
      rw [Nat.add_zero, ← Nat.mul_assoc a.natAbs (2 ^ j) 2, Nat.mul_comm 2]
    have e3 : a.natAbs * 2 ^ (j + 1) * 2 ^ ee = a.natAbs * U := by
      have h9 : j + 1 + ee = k := by omega
      rw [U_eq hk, Nat.mul_assoc, ← Nat.pow_add, h9]
    rw [e2, e3, toInt_word false (by omega)]; rfl

theorem whole_less {a b : Int} (a1 : -33554432 < a) (a2 : a < 33554432) (b1 : -33554432 < b) (b2 : b < 33554432) : rLess (W a) (W b) = decide (a < b) := by
  have na : nanB (W a) = false := nearest_notnan ..
  have nb : nanB (W b) = false := nearest_notnan ..
  have hU := U_pos
  unfold rLess
  rw [na, nb]
  simp only [Bool.not_false, Bool.true_and]
  rw [decide_eq_decide, rk_V, W_V (by omega) (by omega), W_V (by omega) (by omega)]
  exact Int.mul_lt_mul_right (by omega)

theorem roq_ge_div (n c : Nat) : n / c ≤ roq n c := by unfold roq; split <;> omega
theorem roq_le {n c X : Nat} (hc : 0 < c) (h : n ≤ c * X) : roq n c ≤ X := by
  have hd := Nat.div_add_mod n c
  have hq : n / c ≤ X := by
    have := Nat.div_le_div_right (c := c) h
    rw [Nat.mul_div_cancel_left _ hc] at this; exact this
  unfold roq
  by_cases h0 : n % c = 0
  · rw [if_pos h0]; exact hq
  · rw [if_neg h0]
    have : n / c ≠ X := by intro e; rw [e] at hd; omega
    omega
/-- The quotient of small whole numbers, rounded and cut again, is their quotient. -/
theorem div_cut {A B : Nat} (hA : A < 33554432) (hB : B < 33554432) (hB0 : 0 < B) (K : Nat) (hK : K = 4000) (s : Bool) :
    fToInt (D.word s (R (K - 1074) (roq (A * U * 2 ^ K) (B * U)))) = sgn s (A / B) := by
  have hU := U_pos
  have e0 : roq (A * U * 2 ^ K) (B * U) = roq (A * 2 ^ K) B := by
    rw [Nat.mul_right_comm, roq_scale _ _ _ hU]
  rw [e0]
  obtain ⟨k, k2, hk, hk2, hkk⟩ : ∃ k k2 : Nat, k = 1074 ∧ k2 = K - 1074 ∧ K = k + k2 := ⟨1074, K - 1074, rfl, rfl, by omega⟩
  rw [← hk2]
  have hd := Nat.div_add_mod A B
  have hm := Nat.mod_lt A hB0
  have hq : A / B < 33554432 := Nat.lt_of_le_of_lt (Nat.div_le_self _ _) hA
  generalize A / B = q at *
  -- below
  have lo : q * U ≤ mag (R k2 (roq (A * 2 ^ K) B)) := by
    obtain ⟨r, _, h1, h2⟩ := R_int (m := q) (by omega)
    rw [← h2]
    refine mag_le ?_
    rw [← h1]
    have h3 := R_scale 0 (q * U) k2
    rw [Nat.zero_add] at h3
    rw [← h3]
    refine R_mono (Nat.le_trans ?_ (roq_ge_div _ _))
    rw [Nat.le_div_iff_mul_le hB0, U_eq hk, Nat.mul_assoc q, ← Nat.pow_add, ← hkk, Nat.mul_right_comm]
    refine Nat.mul_le_mul_right _ ?_
    rw [Nat.mul_comm]; omega
  -- above
  have hi : mag (R k2 (roq (A * 2 ^ K) B)) < (q + 1) * U := by
    obtain ⟨j, hj, hjk⟩ : ∃ j, j = 1049 ∧ k = 25 + j := ⟨1049, rfl, by omega⟩
    obtain ⟨r, hr, h2⟩ := rep j ((q + 1) * 33554432 - 1) (by omega) (by omega)
    have h1 : R 0 (((q + 1) * 33554432 - 1) * 2 ^ j) = r := by rw [← h2, R_mag (by omega)]
    have hX : A * 2 ^ K ≤ B * (((q + 1) * 33554432 - 1) * 2 ^ j * 2 ^ k2) := by
      rw [hkk, hjk, Nat.add_assoc, Nat.pow_add, Nat.pow_add, ← Nat.mul_assoc, ← Nat.mul_assoc, ← Nat.mul_assoc, ← Nat.mul_assoc]
      refine Nat.mul_le_mul_right _ (Nat.mul_le_mul_right _ ?_)
      rw [show (2 : Nat) ^ 25 = 33554432 from rfl]
      have h3 : A + 1 ≤ B * (q + 1) := by rw [Nat.mul_add]; omega
      rw [Nat.mul_sub, Nat.mul_one, ← Nat.mul_assoc]
      clear lo hd hm hq e0 hkk hjk hj hk hk2 hr h2 h1
      generalize B * (q + 1) = X at h3 ⊢
      omega
    have h5 := R_mono (k := k2) (roq_le hB0 hX)
    have h6 := R_scale 0 (((q + 1) * 33554432 - 1) * 2 ^ j) k2
    rw [Nat.zero_add] at h6
    rw [h6, h1] at h5
    refine Nat.lt_of_le_of_lt (mag_le h5) ?_
    rw [h2, U_eq hk, hjk, Nat.pow_add, show (2 : Nat) ^ 25 = 33554432 from rfl, ← Nat.mul_assoc]
    exact Nat.mul_lt_mul_of_pos_right (by omega) (pow_pos' j)
  generalize R k2 (roq (A * 2 ^ K) B) = ρ at lo hi
  have hρ : ρ < 4890909195324358656 := by
    refine mag_lt_iff.1 ?_
    rw [mag_big]
    exact Nat.lt_of_lt_of_le hi (Nat.mul_le_mul_right _ (by omega))
  obtain ⟨w1, w2⟩ := word_rung s (r := ρ) (by omega)
  rw [toInt_small (by rw [w1]; exact hρ), w2]
  unfold tr
  rw [w1]
  have t1 : q ≤ mag ρ / U := (Nat.le_div_iff_mul_le hU).2 lo
  have t2 : mag ρ / U < q + 1 := (Nat.div_lt_iff_lt_mul hU).2 hi
  congr 1; omega
theorem tdiv_sgn (a b : Int) : sgn (decide (a < 0) != decide (b < 0)) (a.natAbs / b.natAbs) = a.tdiv b := by
  rcases (by omega : a < 0 ∨ 0 ≤ a) with ha | ha
  · obtain ⟨m, rfl⟩ : ∃ m : Nat, a = -(m : Int) := ⟨a.natAbs, by omega⟩
    rcases (by omega : b < 0 ∨ 0 ≤ b) with hb | hb
    · obtain ⟨n, rfl⟩ : ∃ n : Nat, b = -(n : Int) := ⟨b.natAbs, by omega⟩
      rw [decide_eq_true ha, decide_eq_true hb, Int.natAbs_neg, Int.natAbs_neg, Int.natAbs_natCast, Int.natAbs_natCast, Int.neg_tdiv_neg]
      rfl
    · obtain ⟨n, rfl⟩ := Int.eq_ofNat_of_zero_le hb
      rw [decide_eq_true ha, decide_eq_false (by omega), Int.natAbs_neg, Int.natAbs_natCast, Int.natAbs_natCast, Int.neg_tdiv]
      rfl
  · obtain ⟨m, rfl⟩ := Int.eq_ofNat_of_zero_le ha
    rcases (by omega : b < 0 ∨ 0 ≤ b) with hb | hb
    · obtain ⟨n, rfl⟩ : ∃ n : Nat, b = -(n : Int) := ⟨b.natAbs, by omega⟩
      rw [decide_eq_false (by omega), decide_eq_true hb, Int.natAbs_neg, Int.natAbs_natCast, Int.natAbs_natCast, Int.tdiv_neg]
      rfl
    · obtain ⟨n, rfl⟩ := Int.eq_ofNat_of_zero_le hb
      rw [decide_eq_false (by omega), decide_eq_false (by omega), Int.natAbs_natCast, Int.natAbs_natCast]
      rfl
theorem whole_div {a b : Int} (a1 : -33554432 < a) (a2 : a < 33554432) (b1 : -33554432 < b) (b2 : b < 33554432) (hb : b ≠ 0) : fToInt (fDiv (W a) (W b)) = a.tdiv b := by
  obtain ⟨ra, ma, sa, _⟩ := W_spec (n := a) (by omega) (by omega)
  obtain ⟨rb, mb, sb, _⟩ := W_spec (n := b) (by omega) (by omega)
  have hU := U_pos
  have zb : rung (W b) ≠ 0 := by
    intro e; rw [e, mag_zero] at mb
    exact absurd mb.symm (Nat.mul_ne_zero (by omega) (by omega))
  obtain ⟨K, hK⟩ : ∃ K, K = 4000 := ⟨_, rfl⟩
  rw [div_scaled hK ra rb zb, sa, sb, ma, mb, div_cut (by omega) (by omega) (by omega) K hK, tdiv_sgn]
end Flo
