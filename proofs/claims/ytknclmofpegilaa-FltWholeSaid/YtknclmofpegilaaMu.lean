/- Quotients and roots at one scale; what rises. -/
import Derived.Test.YtknclmofpegilaaMt
namespace Flo
open Ieee
set_option linter.unusedVariables false
set_option linter.unusedSimpArgs false

theorem mag_sigm {x : Nat} (h : rung x < 9218868437227405312) : mag (rung x) = sigm x * 2 ^ (plc x + 1074).toNat := by
  unfold mag sigm plc
  by_cases h2 : rung x < 4503599627370496
  · rw [if_pos h2, if_pos h2, if_pos h2]; simp
  · rw [if_neg h2, if_neg h2, if_neg h2]; congr 2; omega
theorem plc_bd {x : Nat} (h : rung x < 9218868437227405312) : -1074 ≤ plc x ∧ plc x ≤ 971 := by unfold plc; split <;> omega

/-- The quotient of two numbers, reckoned to many digits. -/
theorem div_scaled {x y K : Nat} (hK : K = 4000) (hx : rung x < 9218868437227405312) (hy : rung y < 9218868437227405312) (zy : rung y ≠ 0) :
    fDiv x y = D.word (sg x != sg y) (R (K - 1074) (roq (mag (rung x) * 2 ^ K) (mag (rung y)))) := by
  have hu : D.nearest (sg x != sg y) (roq (mag (rung x) * 2 ^ K) (mag (rung y))) (-(K : Int)) = D.word (sg x != sg y) (R (K - 1074) (roq (mag (rung x) * 2 ^ K) (mag (rung y)))) := by
    rw [nearest_R _ _ _ (K - 1074) (by omega), show (-(K : Int) + 1074 + ((K - 1074 : Nat) : Int)).toNat = 0 by omega, Nat.pow_zero, Nat.mul_one]
  rw [← hu]
  by_cases zx : rung x = 0
  · rw [fDiv_zf zx hy zy, zx, mag_zero, Nat.zero_mul]
    have e : roq 0 (mag (rung y)) = 0 := by unfold roq; simp
    rw [e, nearest_zero]
  · have b1 := plc_bd hx
    have b2 := plc_bd hy
    have s1 := shf_le x
    have s2 := shf_le y
    have gx := oM_ge zx
    have ly := oM_lt y
    have gy := oM_ge zy
    have ny : sigm y ≠ 0 := fun e => zy ((sigm_zero y).1 e)
    have href : roq (oM x * 2 ^ 56) (oM y) = roq (sigm x * 2 ^ (shf x + 56 - shf y)) (sigm y) := by
      unfold oM
      rw [Nat.mul_assoc, ← Nat.pow_add, ← roq_scale (sigm x * 2 ^ (shf x + 56 - shf y)) (sigm y) (2 ^ shf y) (pow_pos' _), Nat.mul_assoc, ← Nat.pow_add]
      congr 3; omega
    have hbig2 : 2 ^ 54 ≤ sigm x * 2 ^ (shf x + 56 - shf y) / sigm y := by
      have h1 : oM x * 2 ^ 56 / oM y = sigm x * 2 ^ (shf x + 56 - shf y) / sigm y := by
        unfold oM
        rw [Nat.mul_assoc, ← Nat.pow_add, ← Nat.mul_div_mul_right (sigm x * 2 ^ (shf x + 56 - shf y)) (sigm y) (pow_pos' (shf y)), Nat.mul_assoc, ← Nat.pow_add]
        congr 3; omega
      rw [← h1, Nat.le_div_iff_mul_le (by omega)]
      have h2 := Nat.mul_le_mul_right (2 ^ 56) gx
      have h3 := Nat.mul_le_mul_left (2 ^ 54) (Nat.le_of_lt ly)
      exact Nat.le_trans h3 (Nat.le_trans (by decide) h2)
    have hbigf : roq (mag (rung x) * 2 ^ K) (mag (rung y)) = roq (sigm x * 2 ^ ((plc x + 1074).toNat + K - (plc y + 1074).toNat)) (sigm y) := by
      rw [mag_sigm hx, mag_sigm hy, Nat.mul_assoc, ← Nat.pow_add, ← roq_scale (sigm x * 2 ^ ((plc x + 1074).toNat + K - (plc y + 1074).toNat)) (sigm y) (2 ^ (plc y + 1074).toNat) (pow_pos' _), Nat.mul_assoc, ← Nat.pow_add]
      congr 3; omega
    rw [div_fin hx hy zx zy, href, hbigf]
    have p1 : oE x - oE y - 56 = plc x - plc y - ((shf x + 56 - shf y : Nat) : Int) := by unfold oE; omega
    have p2 : -(K : Int) = plc x - plc y - (((plc x + 1074).toNat + K - (plc y + 1074).toNat : Nat) : Int) := by omega
    rw [p1, p2]
    exact (quo_same _ _ _ _ _ _ (by omega) (by omega) hbig2).symm

theorem isRoot_ex (n : Nat) : ∃ w, IsRoot n w := ⟨_, rootFrom_root n⟩
/-- The root of a number, reckoned to many digits. -/
theorem sqrt_scaled {x w : Nat} (hx : rung x < 9218868437227405312) (zx : rung x ≠ 0) (hs : sg x = false) (hw : IsRoot (mag (rung x) * 2 ^ 200) w) :
    fSqrt x = D.word false (R 0 (ros (mag (rung x) * 2 ^ 200) w * 2 ^ 436)) := by
  have hu : D.nearest false (ros (mag (rung x) * 2 ^ 200) w) (-638) = D.word false (R 0 (ros (mag (rung x) * 2 ^ 200) w * 2 ^ 436)) := by
    rw [nearest_R _ _ _ 0 (by omega), show (-638 + 1074 + ((0 : Nat) : Int)).toNat = 436 by omega]
  rw [← hu]
  have b1 := plc_bd hx
  have s1 := shf_le x
  have gx := oM_ge zx
  obtain ⟨o, o1, o2⟩ : ∃ o : Nat, o ≤ 1 ∧ (oE x - o) % 2 = 0 := by
    by_cases h : oE x % 2 = 0
    · exact ⟨0, by omega, by omega⟩
    · exact ⟨1, by omega, by omega⟩
  obtain ⟨v, hv⟩ := isRoot_ex (oM x * 2 ^ o * 2 ^ 62)
  have h1 : fSqrt x = D.nearest false (ros (oM x * 2 ^ o * 2 ^ 62) v) ((oE x - o) / 2 - 32) := by
    refine sqrt_fin hx zx hs ?_ hv
    rcases (by omega : o = 0 ∨ o = 1) with rfl | rfl
    · exact .inl ⟨by omega, by simp, by omega⟩
    · exact .inr ⟨by omega, by simp, by omega⟩
  have hA2 : oM x * 2 ^ o * 2 ^ 62 = sigm x * 2 ^ (shf x + o + 62) := by
    unfold oM; rw [Nat.mul_assoc, Nat.mul_assoc, ← Nat.pow_add, ← Nat.pow_add]; congr 2 <;> omega
  have hb2 : 2 ^ 108 ≤ sigm x * 2 ^ (shf x + o + 62) := by
    rw [← hA2]
    have h1 := Nat.mul_le_mul gx (Nat.mul_le_mul (pow_pos' o) (Nat.le_refl (2 ^ 62)))
    rw [← Nat.mul_assoc (oM x)] at h1
    exact Nat.le_trans (by decide) h1
  have hm : mag (rung x) * 2 ^ 200 = sigm x * 2 ^ ((plc x + 1074).toNat + 200) := by rw [mag_sigm hx, Nat.mul_assoc, ← Nat.pow_add]
  rw [hA2] at hv h1
  rw [hm] at hw ⊢
  rw [h1]
  have e1 : (oE x - o) / 2 - 32 = (plc x - ((shf x + o + 62 : Nat) : Int)) / 2 - 1 := by unfold oE at o2 ⊢; omega
  have e2 : (-638 : Int) = (plc x - (((plc x + 1074).toNat + 200 : Nat) : Int)) / 2 - 1 := by omega
  rw [e1, e2]
  have hpar : (plc x - ((shf x + o + 62 : Nat) : Int)) % 2 = 0 := by unfold oE at o2; omega
  exact (root_same _ _ _ _ _ _ (by omega) ⟨((plc x + 1074).toNat + 200 - (shf x + o + 62)) / 2, by omega⟩ hv hw hb2 hpar).symm

theorem roq_mono {n n' c : Nat} (hc : 0 < c) (h : n ≤ n') : roq n c ≤ roq n' c := by
  have hq := Nat.div_le_div_right (c := c) h
  have d1 := Nat.div_add_mod n c
  have d2 := Nat.div_add_mod n' c
  unfold roq
  by_cases e : n / c = n' / c
  · rw [e] at d1 ⊢
    have hr : n % c ≤ n' % c := by omega
    by_cases h1 : n % c = 0
    · rw [if_pos h1]; split <;> omega
    · rw [if_neg h1, if_neg (by omega)]; exact Nat.le_refl _
  · have : n / c < n' / c := by omega
    split <;> split <;> omega
theorem ros_mono {n n' w w' : Nat} (h : n ≤ n') (hw : IsRoot n w) (hw' : IsRoot n' w') : ros n w ≤ ros n' w' := by
  have h1 : w ≤ w' := by
    refine Nat.le_of_not_lt fun hc => ?_
    have := Nat.mul_le_mul (show w' + 1 ≤ w by omega) (show w' + 1 ≤ w by omega)
    have a := hw.1; have b := hw'.2; omega
  have b1 := Bool.toNat_le (w * w != n)
  have b2 := Bool.toNat_le (w' * w' != n')
  unfold ros
  by_cases e : w = w'
  · subst e
    by_cases h2 : w * w = n
    · rw [bne_eq_false_iff_eq.2 h2]; simp
    · have h3 : w * w ≠ n' := by have := hw.1; omega
      rw [bne_iff_ne.2 h2, bne_iff_ne.2 h3]; exact Nat.le_refl _
  · omega

/-- A whole number rounded, with its sign, as a rank. -/
def rnd (K : Nat) (t : Int) : Int := sgn (decide (t < 0)) (R K t.natAbs)
theorem rnd_sgn (K : Nat) (s : Bool) (n : Nat) : sgn s (R K n) = rnd K (sgn s n) := by
  unfold rnd
  by_cases h : n = 0
  · subst h
    have e : sgn s 0 = 0 := by unfold sgn; cases s <;> rfl
    rw [R_zero, e]
    show (0 : Int) = sgn (decide ((0 : Int) < 0)) (R K (Int.natAbs 0))
    rw [show Int.natAbs 0 = 0 from rfl, R_zero]; rfl
  · cases s
    · have e : sgn false n = (n : Int) := rfl
      rw [e, decide_eq_false (by omega), Int.natAbs_natCast]
    · have e : sgn true n = -(n : Int) := rfl
      rw [e, decide_eq_true (by omega), Int.natAbs_neg, Int.natAbs_natCast]
theorem rnd_mono {K : Nat} {t u : Int} (h : t ≤ u) : rnd K t ≤ rnd K u := by
  unfold rnd sgn
  by_cases h1 : t < 0
  · rw [decide_eq_true h1, if_pos rfl]
    by_cases h2 : u < 0
    · rw [decide_eq_true h2, if_pos rfl]
      have := R_mono (k := K) (N := u.natAbs) (N' := t.natAbs) (by omega)
      omega
    · rw [decide_eq_false h2, if_neg (by simp)]; omega
  · rw [decide_eq_false h1, decide_eq_false (by omega), if_neg (by simp), if_neg (by simp)]
    have := R_mono (k := K) (N := t.natAbs) (N' := u.natAbs) (by omega)
    omega
theorem rk_word (s : Bool) {r : Nat} (h : r < 9223372036854775808) : rk (D.word s r) = sgn s r := by
  obtain ⟨h1, h2⟩ := word_rung s h
  unfold rk; rw [h1, h2]

/-- The number of a word, in units of the least one. -/
def V (x : Nat) : Int := sgn (sg x) (mag (rung x))
theorem rk_V {x y : Nat} : rk x < rk y ↔ V x < V y := by
  have h := compare_mag (sg x) (sg y) (rung x) (rung y)
  have e1 : rk x < rk y ↔ compare (rk x) (rk y) = .lt := (Int.compare_eq_lt).symm
  have e2 : V x < V y ↔ compare (V x) (V y) = .lt := (Int.compare_eq_lt).symm
  rw [e1, e2]; unfold rk V; rw [h]
theorem rk_bd {x : Nat} (h : nanB x = false) : -9218868437227405312 ≤ rk x ∧ rk x ≤ 9218868437227405312 := by
  have := notnan_le h
  unfold rk sgn; split <;> omega

/-- r1 isn't above r2, or one is no number. -/
def Up (r1 r2 : Nat) : Prop := nanB r1 = true ∨ nanB r2 = true ∨ rk r1 ≤ rk r2
theorem up_nan1 {r1 r2 : Nat} (h : r1 = NaN) : Up r1 r2 := .inl (by rw [h]; rfl)
theorem up_nan2 {r1 r2 : Nat} (h : r2 = NaN) : Up r1 r2 := .inr (.inl (by rw [h]; rfl))
theorem up_low {r1 r2 : Nat} (h : rk r1 = -9218868437227405312) : Up r1 r2 := by
  rcases hn : nanB r2 with _ | _
  · exact .inr (.inr (by have := rk_bd hn; omega))
  · exact .inr (.inl hn)
theorem up_high {r1 r2 : Nat} (h : rk r2 = 9218868437227405312) : Up r1 r2 := by
  rcases hn : nanB r1 with _ | _
  · exact .inr (.inr (by have := rk_bd hn; omega))
  · exact .inl hn
theorem rk_inf (s : Bool) : rk (D.word s 9218868437227405312) = sgn s 9218868437227405312 := rk_word s (by omega)

theorem rk_add {x y : Nat} (hx : rung x < 9218868437227405312) (hy : rung y < 9218868437227405312) : rk (fAdd x y) = rnd 0 (V x + V y) := by
  rw [fAdd_fin hx hy]
  show rk (if V x + V y = 0 then _ else D.word (decide (V x + V y < 0)) (R 0 (V x + V y).natAbs)) = _
  generalize V x + V y = t
  by_cases h : t = 0
  · rw [if_pos h, h, rk_word _ (by omega)]
    have e : ∀ s, sgn s 0 = 0 := fun s => by unfold sgn; cases s <;> rfl
    rw [e]; rfl
  · rw [if_neg h, rk_word _ (by have := R_le 0 t.natAbs; omega)]; rfl

theorem add_rises {a b c : Nat} (ha : a < 18446744073709551616) (hb : b < 18446744073709551616) (hc : c < 18446744073709551616) (na : nanB a = false) (nb : nanB b = false) (h : rk a < rk b) : Up (fAdd a c) (fAdd b c) := by
  rcases nc : nanB c with _ | _
  · have la := notnan_le na
    have lb := notnan_le nb
    have lc := notnan_le nc
    by_cases ic : rung c = 9218868437227405312
    · by_cases ia : rung a = 9218868437227405312
      · by_cases hs : sg a = sg c
        · rw [fAdd_infs2 ha ia ic hs]
          by_cases ib : rung b = 9218868437227405312
          · by_cases hs2 : sg b = sg c
            · rw [fAdd_infs2 hb ib ic hs2]; exact .inr (.inr (Int.le_of_lt h))
            · exact up_nan2 (fAdd_infs ib ic hs2)
          · rw [fAdd_infr hc ic (by omega)]
            exact .inr (.inr (by unfold rk; rw [ia, ic, hs]; exact Int.le_refl _))
        · exact up_nan1 (fAdd_infs ia ic hs)
      · rw [fAdd_infr hc ic (by omega)]
        by_cases ib : rung b = 9218868437227405312
        · by_cases hs2 : sg b = sg c
          · rw [fAdd_infs2 hb ib ic hs2]
            exact .inr (.inr (by unfold rk; rw [ib, ic, hs2]; exact Int.le_refl _))
          · exact up_nan2 (fAdd_infs ib ic hs2)
        · rw [fAdd_infr hc ic (by omega)]; exact .inr (.inr (Int.le_refl _))
    · by_cases ia : rung a = 9218868437227405312
      · have : sg a = true := by
          rcases hs : sg a with _ | _
          · have := rk_bd nb
            unfold rk at h; rw [ia, hs] at h
            have e : sgn false 9218868437227405312 = 9218868437227405312 := rfl
            rw [e] at h; unfold rk at this; omega
          · rfl
        rw [fAdd_infl ha ia (by omega)]
        exact up_low (by unfold rk; rw [ia, this]; rfl)
      · by_cases ib : rung b = 9218868437227405312
        · have : sg b = false := by
            rcases hs : sg b with _ | _
            · rfl
            · have := rk_bd na
              unfold rk at h; rw [ib, hs] at h
              have e : sgn true 9218868437227405312 = -9218868437227405312 := rfl
              rw [e] at h; unfold rk at this; omega
          rw [fAdd_infl hb ib (by omega)]
          exact up_high (by unfold rk; rw [ib, this]; rfl)
        · refine .inr (.inr ?_)
          rw [rk_add (by omega) (by omega), rk_add (by omega) (by omega)]
          exact rnd_mono (by have := rk_V.1 h; omega)
  · exact up_nan1 (nan_bad (.inr nc)).1
end Flo
