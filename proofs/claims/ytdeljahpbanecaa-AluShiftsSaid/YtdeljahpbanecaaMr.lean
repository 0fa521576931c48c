import Derived.Test.YtdeljahpbanecaaMq
/- Quotients of what is no common number; roots. -/
namespace Flo
open Ieee
set_option linter.unusedVariables false
set_option linter.unusedSimpArgs false

theorem fDiv_ii {x y : Nat} (hx : rung x = 9218868437227405312) (hy : rung y = 9218868437227405312) : fDiv x y = NaN := by
  unfold fDiv Format.div; rw [read_inf hx, read_inf hy]; rfl
theorem fDiv_if {x y : Nat} (hx : rung x = 9218868437227405312) (hy : rung y < 9218868437227405312) : fDiv x y = D.word (sg x != sg y) 9218868437227405312 := by
  obtain ⟨n, q, e, _⟩ := read_fin hy
  unfold fDiv Format.div; rw [read_inf hx, e]
  show D.word (sg x ^^ sg y) D.infRung = _
  rw [d_inf, xor_eq]
theorem fDiv_fi {x y : Nat} (hx : rung x < 9218868437227405312) (hy : rung y = 9218868437227405312) : fDiv x y = D.word (sg x != sg y) 0 := by
  obtain ⟨n, q, e, _⟩ := read_fin hx
  unfold fDiv Format.div; rw [read_inf hy, e]
  show D.nearest (sg x ^^ sg y) 0 0 = _
  rw [xor_eq]; rfl
theorem fDiv_zz {x y : Nat} (hx : rung x = 0) (hy : rung y = 0) : fDiv x y = NaN := by
  unfold fDiv Format.div; rw [read_zero hx, read_zero hy]; rfl
theorem fDiv_fz {x y : Nat} (hx : rung x < 9218868437227405312) (h0 : rung x ≠ 0) (hy : rung y = 0) : fDiv x y = D.word (sg x != sg y) 9218868437227405312 := by
  obtain ⟨n, q, e, hn⟩ := read_pos hx h0
  unfold fDiv Format.div; rw [read_zero hy, e]
  unfold Datum.quotient
  dsimp only
  rw [if_pos rfl, if_neg hn]
  show D.word (sg x ^^ sg y) D.infRung = _
  rw [d_inf, xor_eq]
theorem fDiv_zf {x y : Nat} (hx : rung x = 0) (hy : rung y < 9218868437227405312) (h0 : rung y ≠ 0) : fDiv x y = D.word (sg x != sg y) 0 := by
  obtain ⟨n, q, e, hn⟩ := read_pos hy h0
  unfold fDiv Format.div; rw [read_zero hx, e]
  unfold Datum.quotient
  dsimp only
  rw [if_neg hn, Nat.zero_shiftLeft, Nat.zero_div, Nat.zero_mod]
  have hz : ∀ s p, fin (Option.map D.write (some (Datum.number s (2 * 0 + (0 != 0).toNat) p))) = D.word s 0 := fun s p => rfl
  rw [hz, xor_eq]
/-- The root of n, cut to a whole number. -/
def IsRoot (n w : Nat) : Prop := w * w ≤ n ∧ n < (w + 1) * (w + 1)
theorem isRoot_unique {n w v : Nat} (h : IsRoot n w) (k : IsRoot n v) : w = v := by
  rcases Nat.lt_trichotomy w v with c | c | c
  · have := Nat.mul_le_mul (show w + 1 ≤ v by omega) (show w + 1 ≤ v by omega)
    have h1 := h.2; have h2 := k.1; omega
  · exact c
  · have := Nat.mul_le_mul (show v + 1 ≤ w by omega) (show v + 1 ≤ w by omega)
    have h1 := k.2; have h2 := h.1; omega
theorem rootFrom_spec (n : Nat) : ∀ todo root, root * root ≤ n → n < (root + 2 ^ todo) * (root + 2 ^ todo) → IsRoot n (Datum.rootFrom n todo root) := by
  intro todo
  induction todo with
  | zero => intro root h1 h2; exact ⟨h1, h2⟩
  | succ t ih =>
    intro root h1 h2
    unfold Datum.rootFrom
    dsimp only
    rw [Nat.one_shiftLeft]
    split
    · rename_i h3
      refine ih _ h3 ?_
      rw [Nat.pow_succ] at h2
      rw [show root + 2 ^ t + 2 ^ t = root + 2 ^ t * 2 by omega]; exact h2
    · rename_i h3
      exact ih _ h1 (by omega)
theorem rootFrom_root (n : Nat) : IsRoot n (Datum.rootFrom n (n.log2 / 2 + 1) 0) := by
  refine rootFrom_spec n _ 0 (by omega) ?_
  rw [Nat.zero_add, ← Nat.pow_add]
  exact Nat.lt_of_lt_of_le (lt_log2 n) (Nat.pow_le_pow_right (by omega) (by omega))
/-- Twice the root, the last digit 1 if it is not whole. -/
def ros (n w : Nat) : Nat := 2 * w + (w * w != n).toNat
theorem ro_ros {n w w' j : Nat} (h : IsRoot n w) (h' : IsRoot (n * (2 ^ j * 2 ^ j)) w') : ro (ros (n * (2 ^ j * 2 ^ j)) w') j = ros n w := by
  have hj := pow_pos' j
  by_cases h0 : j = 0
  · subst h0
    rw [ro_zero]
    simp only [Nat.pow_zero, Nat.mul_one] at h' ⊢
    rw [isRoot_unique h h']
  obtain ⟨k, rfl⟩ : ∃ k, j = k + 1 := ⟨j - 1, by omega⟩
  have e2 : (2 : Nat) ^ (k + 1) = 2 * 2 ^ k := by rw [Nat.pow_succ, Nat.mul_comm]
  have hk := pow_pos' k
  by_cases hw : w * w = n
  · have hw' : w' = w * 2 ^ (k + 1) := by
      refine isRoot_unique h' ⟨?_, ?_⟩
      · rw [Nat.mul_mul_mul_comm, hw]; exact Nat.le_refl _
      · rw [← hw, ← Nat.mul_mul_mul_comm]
        generalize w * 2 ^ (k + 1) = u
        rw [Nat.add_mul, Nat.mul_add]; omega
    have hs : w' * w' = n * (2 ^ (k + 1) * 2 ^ (k + 1)) := by rw [hw', Nat.mul_mul_mul_comm, hw]
    unfold ros
    rw [bne_eq_false_iff_eq.2 hs, bne_eq_false_iff_eq.2 hw]
    show ro (2 * w' + 0) (k + 1) = 2 * w + 0
    simp only [Nat.add_zero]
    rw [hw']
    unfold ro
    rw [← Nat.mul_assoc, Nat.mul_mod_left, if_pos rfl, Nat.mul_div_cancel _ hj]
  · have hq : w' / 2 ^ (k + 1) = w := by
      have a1 : w * 2 ^ (k + 1) ≤ w' := by
        refine Nat.le_of_not_lt fun hc => ?_
        have := Nat.mul_le_mul (show w' + 1 ≤ w * 2 ^ (k + 1) by omega) (show w' + 1 ≤ w * 2 ^ (k + 1) by omega)
        rw [Nat.mul_mul_mul_comm w] at this
        have b := Nat.mul_le_mul_right (2 ^ (k + 1) * 2 ^ (k + 1)) h.1
        have c := h'.2
        omega
      have a2 : w' < (w + 1) * 2 ^ (k + 1) := by
        refine Nat.lt_of_not_le fun hc => ?_
        have := Nat.mul_le_mul hc hc
        rw [Nat.mul_mul_mul_comm (w + 1)] at this
        have b := Nat.mul_lt_mul_of_pos_right h.2 (Nat.mul_pos hj hj)
        have c := h'.1
        omega
      have a3 : w ≤ w' / 2 ^ (k + 1) := (Nat.le_div_iff_mul_le hj).2 a1
      have a4 : w' / 2 ^ (k + 1) < w + 1 := (Nat.div_lt_iff_lt_mul hj).2 a2
      omega
    have hw1 : (w * w != n).toNat = 1 := by rw [bne_iff_ne.2 hw]; rfl
    unfold ros
    rw [hw1]
    have hX : (2 * w' + (w' * w' != n * (2 ^ (k + 1) * 2 ^ (k + 1))).toNat) / 2 ^ (k + 1) = w' / 2 ^ k := by
      rw [e2, ← Nat.div_div_eq_div_mul]
      have := Bool.toNat_le (w' * w' != n * (2 * 2 ^ k * (2 * 2 ^ k)))
      congr 1; omega
    have hh : w' / 2 ^ k / 2 = w := by rw [Nat.div_div_eq_div_mul, Nat.mul_comm, ← e2]; exact hq
    unfold ro
    rw [hX]
    split
    · rename_i hm
      have hs : w' * w' = n * (2 ^ (k + 1) * 2 ^ (k + 1)) := by
        refine Decidable.byContradiction fun hne => ?_
        have h1 : (w' * w' != n * (2 ^ (k + 1) * 2 ^ (k + 1))).toNat = 1 := by rw [bne_iff_ne.2 hne]; rfl
        rw [h1] at hm
        have h2 : 2 ∣ 2 ^ (k + 1) := ⟨2 ^ k, e2⟩
        have h3 := Nat.mod_mod_of_dvd (2 * w' + 1) h2
        rw [hm] at h3; omega
      have h1 : (w' * w' != n * (2 ^ (k + 1) * 2 ^ (k + 1))).toNat = 0 := by rw [bne_eq_false_iff_eq.2 hs]; rfl
      rw [h1, Nat.add_zero] at hm hX
      have h2 := Nat.div_add_mod (2 * w') (2 ^ (k + 1))
      rw [hm, hX, Nat.add_zero, e2] at h2
      have h4 : w' = w' / 2 ^ k * 2 ^ k := by
        have : 2 * (2 ^ k * (w' / 2 ^ k)) = 2 * w' := by rw [← Nat.mul_assoc]; exact h2
        rw [Nat.mul_comm (2 ^ k)] at this; omega
      rcases (by omega : w' / 2 ^ k = 2 * w ∨ w' / 2 ^ k = 2 * w + 1) with c | c
      · exfalso
        rw [c] at h4
        rw [h4, e2, Nat.mul_mul_mul_comm, Nat.mul_mul_mul_comm 2 (2 ^ k)] at hs
        have h5 : 2 * w * (2 * w) = n * (2 * 2) := by
          exact Nat.eq_of_mul_eq_mul_right (Nat.mul_pos hk hk) (hs.trans (Nat.mul_assoc n (2 * 2) (2 ^ k * 2 ^ k)).symm)
        rw [Nat.mul_mul_mul_comm 2 w] at h5
        omega
      · exfalso
        rw [c] at h4
        rw [h4, e2, Nat.mul_mul_mul_comm, Nat.mul_mul_mul_comm 2 (2 ^ k)] at hs
        have h5 : (2 * w + 1) * (2 * w + 1) = n * (2 * 2) := by
          exact Nat.eq_of_mul_eq_mul_right (Nat.mul_pos hk hk) (hs.trans (Nat.mul_assoc n (2 * 2) (2 ^ k * 2 ^ k)).symm)
        have h6 : (2 * w + 1) * (2 * w + 1) = 2 * (w * (2 * w + 1)) + (2 * w + 1) := by rw [Nat.add_mul, Nat.one_mul, Nat.mul_assoc]
        omega
    · omega
theorem root_same (m K K' w w' : Nat) (i : Int) (hK : K ≤ K') (hp : ∃ j, K' = K + 2 * j) (h : IsRoot (m * 2 ^ K) w) (h' : IsRoot (m * 2 ^ K') w') (hb : 2 ^ 108 ≤ m * 2 ^ K) (he : (i - K) % 2 = 0) :
    D.nearest false (ros (m * 2 ^ K') w') ((i - K') / 2 - 1) = D.nearest false (ros (m * 2 ^ K) w) ((i - K) / 2 - 1) := by
  obtain ⟨j, rfl⟩ := hp
  have e : m * 2 ^ (K + 2 * j) = m * 2 ^ K * (2 ^ j * 2 ^ j) := by rw [← Nat.pow_add, Nat.mul_assoc, ← Nat.pow_add]; congr 2; omega
  rw [e] at h' ⊢
  have hr := ro_ros h h'
  have hw : 2 ^ 53 ≤ w := by
    refine Nat.le_of_not_lt fun hc => ?_
    have := Nat.mul_le_mul (show w + 1 ≤ 2 ^ 53 by omega) (show w + 1 ≤ 2 ^ 53 by omega)
    have h2 := h.2
    have h3 : (2 : Nat) ^ 53 * 2 ^ 53 ≤ 2 ^ 108 := by decide
    omega
  rw [← hr]
  have hN : ros (m * 2 ^ K * (2 ^ j * 2 ^ j)) w' % 2 ^ j = 0 ∨ 2 ^ 54 ≤ ros (m * 2 ^ K * (2 ^ j * 2 ^ j)) w' / 2 ^ j := by
    right
    have h1 : ros (m * 2 ^ K) w ≤ ros (m * 2 ^ K * (2 ^ j * 2 ^ j)) w' / 2 ^ j + 1 := by rw [← hr]; exact ro_le _ _
    have h2 : 2 * w ≤ ros (m * 2 ^ K) w := by unfold ros; omega
    have h3 : ∀ X : Nat, ro X j = ros (m * 2 ^ K) w → 2 * w ≤ X / 2 ^ j ∨ X / 2 ^ j + 1 = 2 * w + 1 ∨ X / 2 ^ j / 2 * 2 + 1 = 2 * w := fun X hX => by
      have : ros (m * 2 ^ K) w ≤ 2 * w + 1 := by unfold ros; have := Bool.toNat_le (w * w != m * 2 ^ K); omega
      unfold ro at hX; split at hX <;> omega
    rcases h3 _ hr with c | c | c <;> omega
  have := nearest_ro false ((i - ((K + 2 * j : Nat) : Int)) / 2 - 1) hN
  rw [← this]
  congr 1; omega
theorem sqrt_fin {x : Nat} {A : Nat} {E : Int} {w : Nat} (hx : rung x < 9218868437227405312) (zx : rung x ≠ 0) (hs : sg x = false)
    (hA : (oE x % 2 = 0 ∧ A = oM x ∧ E = oE x) ∨ (oE x % 2 ≠ 0 ∧ A = oM x * 2 ∧ E = oE x - 1)) (hw : IsRoot (A * 2 ^ 62) w) :
    fSqrt x = D.nearest false (ros (A * 2 ^ 62) w) (E / 2 - 32) := by
  have gx := oM_ge zx
  have lx := oM_lt x
  have sx := shf_le x
  have nx : sigm x ≠ 0 := fun e => zx ((sigm_zero x).1 e)
  have rx : D.read x = .number false (sigm x) (plc x) := by
    rw [read_rs, hs]; unfold sigm plc
    by_cases h : rung x < 4503599627370496
    · rw [if_pos h, if_pos h, if_pos h]
    · rw [if_neg h, if_neg h, if_neg h, if_pos hx]; congr 1; omega
  have l1 : (sigm x).log2 < 53 := (Nat.log2_lt nx).2 (sigm_lt x)
  obtain ⟨a, ha⟩ : ∃ a, 2 * 54 - (sigm x).log2 = a := ⟨_, rfl⟩
  obtain ⟨more, hmore⟩ : ∃ k, a + ((plc x - (a : Int)) % 2).toNat = k := ⟨_, rfl⟩
  have hsq : fSqrt x = D.nearest false (ros (sigm x * 2 ^ more) (Datum.rootFrom (sigm x * 2 ^ more) ((sigm x * 2 ^ more).log2 / 2 + 1) 0)) ((plc x - (more : Int)) / 2 - 1) := by
    unfold fSqrt Format.sqrt
    rw [rx]
    unfold Datum.root
    dsimp only
    rw [if_neg nx, if_neg (by simp)]
    show D.nearest false (2 * Datum.rootFrom (sigm x <<< (2 * 54 - (sigm x).log2 + ((plc x - ((2 * 54 - (sigm x).log2 : Nat) : Int)) % 2).toNat)) ((sigm x <<< (2 * 54 - (sigm x).log2 + ((plc x - ((2 * 54 - (sigm x).log2 : Nat) : Int)) % 2).toNat)).log2 / 2 + 1) 0 + (Datum.rootFrom (sigm x <<< (2 * 54 - (sigm x).log2 + ((plc x - ((2 * 54 - (sigm x).log2 : Nat) : Int)) % 2).toNat)) ((sigm x <<< (2 * 54 - (sigm x).log2 + ((plc x - ((2 * 54 - (sigm x).log2 : Nat) : Int)) % 2).toNat)).log2 / 2 + 1) 0 * Datum.rootFrom (sigm x <<< (2 * 54 - (sigm x).log2 + ((plc x - ((2 * 54 - (sigm x).log2 : Nat) : Int)) % 2).toNat)) ((sigm x <<< (2 * 54 - (sigm x).log2 + ((plc x - ((2 * 54 - (sigm x).log2 : Nat) : Int)) % 2).toNat)).log2 / 2 + 1) 0 != sigm x <<< (2 * 54 - (sigm x).log2 + ((plc x - ((2 * 54 - (sigm x).log2 : Nat) : Int)) % 2).toNat)).toNat) ((plc x - ((2 * 54 - (sigm x).log2 + ((plc x - ((2 * 54 - (sigm x).log2 : Nat) : Int)) % 2).toNat : Nat) : Int)) / 2 - 1) = _
    rw [ha, hmore, Nat.shiftLeft_eq]; rfl
  have hroot := rootFrom_root (sigm x * 2 ^ more)
  rw [hsq]
  generalize Datum.rootFrom (sigm x * 2 ^ more) ((sigm x * 2 ^ more).log2 / 2 + 1) 0 = v at hroot ⊢
  have hb1 : 2 ^ 108 ≤ sigm x * 2 ^ more := by
    have h1 := Nat.mul_le_mul_right (2 ^ more) (log2_le nx)
    rw [← Nat.pow_add] at h1
    exact Nat.le_trans (Nat.pow_le_pow_right (by omega) (by omega)) h1
  obtain ⟨o, ho⟩ : ∃ o : Nat, o ≤ 1 ∧ A = oM x * 2 ^ o ∧ E = oE x - o ∧ E % 2 = 0 := by
    rcases hA with ⟨h1, h2, h3⟩ | ⟨h1, h2, h3⟩
    · exact ⟨0, by omega, by rw [h2]; simp, by omega, by omega⟩
    · exact ⟨1, by omega, by rw [h2], by omega, by omega⟩
  obtain ⟨o1, o2, o3, o4⟩ := ho
  have hA2 : A * 2 ^ 62 = sigm x * 2 ^ (shf x + o + 62) := by
    rw [o2]; unfold oM; rw [Nat.mul_assoc, Nat.mul_assoc, ← Nat.pow_add, ← Nat.pow_add]; congr 2 <;> omega
  rw [hA2] at hw ⊢
  have hb2 : 2 ^ 108 ≤ sigm x * 2 ^ (shf x + o + 62) := by
    rw [← hA2, o2]
    have h1 := Nat.mul_le_mul gx (Nat.mul_le_mul (pow_pos' o) (Nat.le_refl (2 ^ 62)))
    rw [← Nat.mul_assoc (oM x)] at h1
    exact Nat.le_trans (by decide) h1
  have hE : E / 2 - 32 = (plc x - ((shf x + o + 62 : Nat) : Int)) / 2 - 1 := by unfold oE at o3; omega
  have hpar : (plc x - ((shf x + o + 62 : Nat) : Int)) % 2 = 0 := by unfold oE at o3; omega
  have hpar2 : (plc x - (more : Int)) % 2 = 0 := by omega
  rw [hE]
  rcases Nat.le_total more (shf x + o + 62) with h | h
  · exact (root_same _ _ _ _ _ _ h ⟨(shf x + o + 62 - more) / 2, by omega⟩ hroot hw hb1 hpar2).symm
  · exact root_same _ _ _ _ _ _ h ⟨(more - (shf x + o + 62)) / 2, by omega⟩ hw hroot hb2 hpar
end Flo
