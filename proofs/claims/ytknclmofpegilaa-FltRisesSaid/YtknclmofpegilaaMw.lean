/- Products, quotients and roots rise. -/
import Derived.Test.YtknclmofpegilaaMu
namespace Flo
open Ieee
set_option linter.unusedVariables false
set_option linter.unusedSimpArgs false

theorem R_lt (K N : Nat) : R K N < 9223372036854775808 := by have := R_le K N; omega
theorem sg_low {a b : Nat} (nb : nanB b = false) (ia : rung a = 9218868437227405312) (h : rk a < rk b) : sg a = true := by
  rcases hs : sg a with _ | _
  · have := rk_bd nb
    unfold rk at h; rw [ia, hs] at h
    have e : sgn false 9218868437227405312 = 9218868437227405312 := rfl
    rw [e] at h; unfold rk at this; omega
  · rfl
theorem sg_high {a b : Nat} (na : nanB a = false) (ib : rung b = 9218868437227405312) (h : rk a < rk b) : sg b = false := by
  rcases hs : sg b with _ | _
  · rfl
  · have := rk_bd na
    unfold rk at h; rw [ib, hs] at h
    have e : sgn true 9218868437227405312 = -9218868437227405312 := rfl
    rw [e] at h; unfold rk at this; omega
/-- What lies above a number above 0 lies above 0. -/
theorem pos_up {a b : Nat} (hs : sg a = false) (h : rk a < rk b) : sg b = false ∧ rung b ≠ 0 := by
  unfold rk at h; rw [hs] at h
  have e : sgn false (rung a) = (rung a : Int) := rfl
  rw [e] at h
  rcases ht : sg b with _ | _
  · rw [ht] at h
    have e2 : sgn false (rung b) = (rung b : Int) := rfl
    rw [e2] at h
    exact ⟨rfl, by omega⟩
  · rw [ht] at h
    have e2 : sgn true (rung b) = -(rung b : Int) := rfl
    rw [e2] at h; omega
theorem bne_f (s : Bool) : (s != false) = s := by cases s <;> rfl
theorem V_mul (x : Nat) (m : Nat) : sgn (sg x) (mag (rung x) * m) = V x * (m : Int) := by unfold V; rw [sgn_mul]

theorem mul_rises {a b d : Nat} (ha : a < 18446744073709551616) (hb : b < 18446744073709551616) (hd : d < 18446744073709551616) (na : nanB a = false) (nb : nanB b = false) (hs : sg d = false) (h : rk a < rk b) : Up (fMul a d) (fMul b d) := by
  rcases nd : nanB d with _ | _
  · have la := notnan_le na
    have lb := notnan_le nb
    have ld := notnan_le nd
    by_cases id : rung d = 9218868437227405312
    · by_cases za : rung a = 0
      · rw [mul_comm' a d]; exact up_nan1 (fMul_iz id za)
      · have e1 : ∀ x, nanB x = false → rung x ≠ 0 → fMul x d = D.word (sg x) 9218868437227405312 := fun x nx zx => by
          have lx := notnan_le nx
          by_cases ix : rung x = 9218868437227405312
          · rw [fMul_ii ix id, hs, bne_f]
          · rw [mul_comm', fMul_in id (by omega) zx, hs, bne_comm', bne_f]
        rcases sa : sg a with _ | _
        · obtain ⟨sb, zb⟩ := pos_up sa h
          refine up_high ?_
          rw [e1 b nb zb, rk_inf, sb]; rfl
        · refine up_low ?_
          rw [e1 a na za, rk_inf, sa]; rfl
    · by_cases ia : rung a = 9218868437227405312
      · by_cases zd : rung d = 0
        · exact up_nan1 (fMul_iz ia zd)
        · refine up_low ?_
          rw [fMul_in ia (by omega) zd, hs, bne_f, rk_inf, sg_low nb ia h]; rfl
      · by_cases ib : rung b = 9218868437227405312
        · by_cases zd : rung d = 0
          · exact up_nan2 (fMul_iz ib zd)
          · refine up_high ?_
            rw [fMul_in ib (by omega) zd, hs, bne_f, rk_inf, sg_high na ib h]; rfl
        · refine .inr (.inr ?_)
          have e1 : ∀ x, rung x < 9218868437227405312 → rk (fMul x d) = rnd 1074 (V x * (mag (rung d) : Int)) := fun x hx => by
            rw [mul_fin hx (by omega), hs, bne_f, rk_word _ (R_lt _ _), rnd_sgn, V_mul]
          rw [e1 a (by omega), e1 b (by omega)]
          refine rnd_mono (Int.mul_le_mul_of_nonneg_right ?_ (by omega))
          have := rk_V.1 h; omega
  · exact up_nan1 (nan_bad (.inr nd)).2.2.1

theorem div_rises {a b d : Nat} (ha : a < 18446744073709551616) (hb : b < 18446744073709551616) (hd : d < 18446744073709551616) (na : nanB a = false) (nb : nanB b = false) (hs : sg d = false) (h : rk a < rk b) : Up (fDiv a d) (fDiv b d) := by
  rcases nd : nanB d with _ | _
  · have la := notnan_le na
    have lb := notnan_le nb
    have ld := notnan_le nd
    by_cases id : rung d = 9218868437227405312
    · by_cases ia : rung a = 9218868437227405312
      · exact up_nan1 (fDiv_ii ia id)
      · by_cases ib : rung b = 9218868437227405312
        · exact up_nan2 (fDiv_ii ib id)
        · refine .inr (.inr ?_)
          rw [fDiv_fi (by omega) id, fDiv_fi (by omega) id, rk_word _ (by omega), rk_word _ (by omega)]
          have e : ∀ s, sgn s 0 = 0 := fun s => by unfold sgn; cases s <;> rfl
          rw [e, e]; exact Int.le_refl _
    · by_cases ia : rung a = 9218868437227405312
      · refine up_low ?_
        rw [fDiv_if ia (by omega), hs, bne_f, rk_inf, sg_low nb ia h]; rfl
      · by_cases ib : rung b = 9218868437227405312
        · refine up_high ?_
          rw [fDiv_if ib (by omega), hs, bne_f, rk_inf, sg_high na ib h]; rfl
        · by_cases zd : rung d = 0
          · by_cases za : rung a = 0
            · exact up_nan1 (fDiv_zz za zd)
            · rcases sa : sg a with _ | _
              · obtain ⟨sb, zb⟩ := pos_up sa h
                refine up_high ?_
                rw [fDiv_fz (by omega) zb zd, hs, bne_f, rk_inf, sb]; rfl
              · refine up_low ?_
                rw [fDiv_fz (by omega) za zd, hs, bne_f, rk_inf, sa]; rfl
          · refine .inr (.inr ?_)
            obtain ⟨K, hK⟩ : ∃ K, K = 4000 := ⟨_, rfl⟩
            have e1 : ∀ x, rung x < 9218868437227405312 → rk (fDiv x d) = rnd (K - 1074) (sgn (sg x) (roq (mag (rung x) * 2 ^ K) (mag (rung d)))) := fun x hx => by
              rw [div_scaled hK hx (by omega) zd, hs, bne_f, rk_word _ (R_lt _ _), rnd_sgn]
            rw [e1 a (by omega), e1 b (by omega)]
            refine rnd_mono ?_
            have hv := rk_V.1 h
            have hp := mag_pos zd
            have hm : ∀ {x y : Nat}, mag (rung x) ≤ mag (rung y) → roq (mag (rung x) * 2 ^ K) (mag (rung d)) ≤ roq (mag (rung y) * 2 ^ K) (mag (rung d)) := fun hxy => roq_mono hp (Nat.mul_le_mul_right _ hxy)
            unfold V at hv
            rcases sa : sg a with _ | _ <;> rcases sb : sg b with _ | _ <;> rw [sa, sb] at hv
            · have := hm (x := a) (y := b) (by unfold sgn at hv; simp at hv; omega)
              unfold sgn; simp; omega
            · unfold sgn at hv; simp at hv; omega
            · unfold sgn; simp
            · have := hm (x := b) (y := a) (by unfold sgn at hv; simp at hv; omega)
              unfold sgn; simp; omega
  · exact up_nan1 (nan_bad (.inr nd)).2.2.2.1

theorem sqrt_rises {a b : Nat} (ha : a < 18446744073709551616) (hb : b < 18446744073709551616) (na : nanB a = false) (nb : nanB b = false) (h : rk a < rk b) : Up (fSqrt a) (fSqrt b) := by
  have la := notnan_le na
  have lb := notnan_le nb
  rcases sa : sg a with _ | _
  · obtain ⟨sb, zb⟩ := pos_up sa h
    by_cases ib : rung b = 9218868437227405312
    · refine up_high ?_
      rw [fSqrt_inf hb ib sb]; unfold rk; rw [ib, sb]; rfl
    · have ia : rung a < 9218868437227405312 := by
        refine Nat.lt_of_le_of_ne la fun e => ?_
        have := sg_low nb e h
        rw [sa] at this; cases this
      obtain ⟨v, hv⟩ := isRoot_ex (mag (rung b) * 2 ^ 200)
      refine .inr (.inr ?_)
      rw [sqrt_scaled (by omega) zb sb hv, rk_word _ (R_lt _ _)]
      by_cases za : rung a = 0
      · rw [fSqrt_zero ha za]
        unfold rk; rw [za]
        have e : ∀ s, sgn s 0 = 0 := fun s => by unfold sgn; cases s <;> rfl
        rw [e]; exact Int.natCast_nonneg _
      · obtain ⟨u, hu⟩ := isRoot_ex (mag (rung a) * 2 ^ 200)
        rw [sqrt_scaled ia za sa hu, rk_word _ (R_lt _ _)]
        have hm : mag (rung a) ≤ mag (rung b) := by
          refine mag_le ?_
          unfold rk at h; rw [sa, sb] at h
          unfold sgn at h; simp at h; omega
        have h2 : R 0 (ros (mag (rung a) * 2 ^ 200) u * 2 ^ 436) ≤ R 0 (ros (mag (rung b) * 2 ^ 200) v * 2 ^ 436) := R_mono (Nat.mul_le_mul_right _ (ros_mono (Nat.mul_le_mul_right (2 ^ 200) hm) hu hv))
        exact Int.ofNat_le.2 h2
  · by_cases za : rung a = 0
    · rw [fSqrt_zero ha za]
      rcases sb : sg b with _ | _
      · by_cases ib : rung b = 9218868437227405312
        · refine up_high ?_
          rw [fSqrt_inf hb ib sb]; unfold rk; rw [ib, sb]; rfl
        · by_cases zb : rung b = 0
          · rw [fSqrt_zero hb zb]; exact .inr (.inr (Int.le_of_lt h))
          · obtain ⟨v, hv⟩ := isRoot_ex (mag (rung b) * 2 ^ 200)
            refine .inr (.inr ?_)
            rw [sqrt_scaled (by omega) zb sb hv, rk_word _ (R_lt _ _)]
            unfold rk; rw [za]
            have e : ∀ s, sgn s 0 = 0 := fun s => by unfold sgn; cases s <;> rfl
            rw [e]; exact Int.natCast_nonneg _
      · unfold rk at h; rw [za, sa, sb] at h
        unfold sgn at h; simp at h; omega
    · by_cases ia : rung a = 9218868437227405312
      · exact up_nan1 (fSqrt_minf ia sa)
      · exact up_nan1 (fSqrt_minus (by omega) za sa)

theorem rk_neg {x : Nat} (h : x < 18446744073709551616) : rk (x ^^^ 9223372036854775808) = -rk x := by
  obtain ⟨_, h2, h3⟩ := neg_word h
  unfold rk; rw [h2, h3]; unfold sgn; cases sg x <;> simp
theorem nan_neg {x : Nat} (h : x < 18446744073709551616) : nanB (x ^^^ 9223372036854775808) = nanB x := by
  obtain ⟨_, h2, _⟩ := neg_word h
  unfold nanB; unfold rung at h2; rw [h2]
theorem sub_rises {a b c : Nat} (ha : a < 18446744073709551616) (hb : b < 18446744073709551616) (hc : c < 18446744073709551616) (na : nanB a = false) (nb : nanB b = false) (h : rk a < rk b) : Up (fSub c b) (fSub c a) := by
  rw [sub_neg hb, sub_neg ha, add_comm c, add_comm c]
  exact add_rises (neg_word hb).1 (neg_word ha).1 hc (by rw [nan_neg hb]; exact nb) (by rw [nan_neg ha]; exact na) (by rw [rk_neg ha, rk_neg hb]; omega)

/-- What the law asks of two results. -/
def upB (x y : Nat) : Bool := nanB x || nanB y || !rLess y x
theorem up_upB {x y : Nat} (h : Up x y) : upB x y = true := by
  unfold upB rLess
  rcases h with h | h | h
  · rw [h]; simp
  · rw [h]; simp
  · rw [decide_eq_false (by omega : ¬ rk y < rk x)]; simp
end Flo
