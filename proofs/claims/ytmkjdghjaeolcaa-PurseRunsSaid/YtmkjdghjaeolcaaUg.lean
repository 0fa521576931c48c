/- Families: what each gave is what those have that it gave to. -/
import Derived.Test.YtmkjdghjaeolcaaUe
set_option linter.unusedVariables false
set_option linter.unusedSimpArgs false
namespace Go.Proofs.Ytmkjdghjaeolcaa
open Go.RowKit
set_option linter.unusedVariables false
set_option linter.unusedSimpArgs false
def gsum (i : Int) : List Pu → List Int → Int
  | p :: ps, u :: us => (if u = i then p.l else 0) + gsum i ps us
  | _, _ => 0
theorem gsum_nil (i : Int) (us : List Int) : gsum i [] us = 0 := by cases us <;> rfl
theorem gsum_snoc (i : Int) : ∀ (ps : List Pu) (us : List Int) (q : Pu) (u : Int), ps.length = us.length → gsum i (ps ++ [q]) (us ++ [u]) = gsum i ps us + if u = i then q.l else 0
  | [], [], q, u, _ => by simp [gsum]
  | p :: ps, v :: us, q, u, h => by
    rw [List.cons_append, List.cons_append]
    simp only [gsum]
    rw [gsum_snoc i ps us q u (by simpa using h)]
    omega
  | [], _ :: _, _, _, h => by cases h
  | _ :: _, [], _, _, h => by cases h
theorem gsum_take (i : Int) {ps : List Pu} {us : List Int} {k : Nat} {p : Pu} {u : Int} (hp : ps[k]? = some p) (hu : us[k]? = some u) : gsum i (ps.take (k + 1)) (us.take (k + 1)) = gsum i (ps.take k) (us.take k) + if u = i then p.l else 0 := by
  have h1 := (List.getElem?_eq_some_iff.1 hp).1
  have h2 := (List.getElem?_eq_some_iff.1 hu).1
  rw [List.take_add_one, List.take_add_one, hp, hu]
  exact gsum_snoc i _ _ p u (by rw [List.length_take, List.length_take]; omega)
theorem gsum_set (i : Int) : ∀ (ps : List Pu) (us : List Int) (j : Nat) (p q : Pu) (u : Int), ps[j]? = some p → us[j]? = some u → gsum i (ps.set j q) us = gsum i ps us + if u = i then q.l - p.l else 0
  | [], us, j, p, q, u, h, _ => by simp at h
  | _ :: _, [], j, p, q, u, _, h => by simp at h
  | x :: ps, v :: us, 0, p, q, u, hp, hu => by
    obtain rfl : x = p := by simpa using hp
    obtain rfl : v = u := by simpa using hu
    rw [List.set_cons_zero]
    simp only [gsum]
    split <;> omega
  | x :: ps, v :: us, j + 1, p, q, u, hp, hu => by
    rw [List.set_cons_succ]
    simp only [gsum]
    rw [gsum_set i ps us j p q u (by simpa using hp) (by simpa using hu)]
    omega
theorem gsum_none (i : Int) : ∀ (ps : List Pu) (us : List Int), (∀ u ∈ us, u ≠ i) → gsum i ps us = 0
  | [], us, _ => gsum_nil i us
  | _ :: _, [], _ => rfl
  | p :: ps, v :: us, h => by
    simp only [gsum]
    rw [if_neg (h v (by simp)), gsum_none i ps us (fun u hu => h u (by simp [hu]))]
    rfl
theorem gsum_nonneg (i : Int) : ∀ (ps : List Pu) (us : List Int), (∀ p ∈ ps, 0 ≤ p.l) → 0 ≤ gsum i ps us
  | [], us, _ => by rw [gsum_nil]; exact Int.le_refl _
  | _ :: _, [], _ => Int.le_refl _
  | p :: ps, v :: us, h => by
    simp only [gsum]
    have h1 := gsum_nonneg i ps us (fun p hp => h p (by simp [hp]))
    have h2 := h p (by simp)
    split <;> omega
theorem gsum_le (i : Int) : ∀ (ps : List Pu) (us : List Int) (k : Nat), (∀ p ∈ ps, 0 ≤ p.l) → gsum i (ps.take k) (us.take k) ≤ gsum i ps us
  | [], us, k, _ => by rw [List.take_nil, gsum_nil, gsum_nil]; exact Int.le_refl _
  | p :: ps, [], k, _ => by
    rw [List.take_nil]
    cases k with
    | zero => exact Int.le_refl _
    | succ k => exact Int.le_refl _
  | p :: ps, v :: us, 0, h => gsum_nonneg i _ _ h
  | p :: ps, v :: us, k + 1, h => by
    rw [List.take_succ_cons, List.take_succ_cons]
    simp only [gsum]
    have h1 := gsum_le i ps us k (fun p hp => h p (by simp [hp]))
    omega
theorem gsum_mem (i : Int) : ∀ (ps : List Pu) (us : List Int) (k : Nat) (p : Pu), (∀ p ∈ ps, 0 ≤ p.l) → ps[k]? = some p → us[k]? = some i → p.l ≤ gsum i ps us
  | [], us, k, p, _, h, _ => by simp at h
  | _ :: _, [], k, p, _, _, h => by simp at h
  | x :: ps, v :: us, 0, p, h, hp, hu => by
    obtain rfl : x = p := by simpa using hp
    obtain rfl : v = i := by simpa using hu
    simp only [gsum, if_pos]
    have := gsum_nonneg v ps us (fun p hp => h p (by simp [hp]))
    omega
  | x :: ps, v :: us, k + 1, p, h, hp, hu => by
    simp only [gsum]
    have h1 := gsum_mem i ps us k p (fun p hp => h p (by simp [hp])) (by simpa using hp) (by simpa using hu)
    have h2 := h x (by simp)
    split <;> omega
/-- A family that may be. -/
structure Fam (ps : List Pu) (us : List Int) : Prop where
  len : ps.length = us.length
  pos : 0 < ps.length
  up : ∀ (k : Nat) (u : Int), us[k]? = some u → -1 ≤ u ∧ u < (k : Int)
  ok : ∀ (i : Nat) (p : Pu), ps[i]? = some p → p.ok ∧ gsum (i : Int) ps us = p.g
variable {ps : List Pu} {us : List Int} {i k : Nat} {p q : Pu} {n : Int}
theorem Fam.nn (h : Fam ps us) : ∀ p ∈ ps, 0 ≤ p.l := fun p hp => by
  obtain ⟨i, hi⟩ := List.getElem?_of_mem hp
  have hk := (h.ok i p hi).1
  unfold Pu.ok Ok at hk
  omega
theorem Fam.one {L : Int} (h0 : 0 ≤ L) (h1 : L ≤ 2305843009213693952) : Fam [⟨L, 0, 0⟩] [-1] :=
  ⟨rfl, by simp, fun k u hu => by
    match k with
    | 0 => obtain rfl : -1 = u := by simpa using hu
           omega
    | k + 1 => simp at hu, fun i p hp => by
    match i with
    | 0 =>
      obtain rfl := (by simpa using hp : (⟨L, 0, 0⟩ : Pu) = p)
      exact ⟨by unfold Pu.ok Ok; show 0 ≤ (0 : Int) ∧ 0 ≤ (0 : Int) ∧ (0 : Int) + 0 ≤ L ∧ L ≤ _; omega, rfl⟩
    | i + 1 => simp at hp⟩
/-- What one uses has turned. -/
theorem Fam.used (h : Fam ps us) (hp : ps[i]? = some p) (hq : q.ok) (hl : q.l = p.l) (hg : q.g = p.g) : Fam (ps.set i q) us := by
  obtain ⟨u, hu⟩ : ∃ u, us[i]? = some u := ⟨_, List.getElem?_eq_getElem (by rw [← h.len]; exact (List.getElem?_eq_some_iff.1 hp).1)⟩
  refine ⟨by rw [List.length_set]; exact h.len, by rw [List.length_set]; exact h.pos, h.up, fun j r hr => ?_⟩
  rw [gsum_set _ _ _ _ _ _ _ hp hu, hl, Int.sub_self]
  have hil := (List.getElem?_eq_some_iff.1 hp).1
  rw [List.getElem?_set] at hr
  by_cases hij : i = j
  · subst hij
    rw [if_pos rfl, if_pos hil] at hr
    injection hr with hr
    subst hr
    refine ⟨hq, ?_⟩
    rw [(h.ok i p hp).2, hg]
    split <;> omega
  · rw [if_neg hij] at hr
    refine ⟨(h.ok j r hr).1, ?_⟩
    rw [(h.ok j r hr).2]
    split <;> omega
/-- One gives. -/
theorem Fam.gave (h : Fam ps us) (hp : ps[i]? = some p) (hn : 0 ≤ n ∧ n ≤ p.l - p.u - p.g) : Fam (ps.set i ⟨p.l, p.u, p.g + n⟩ ++ [⟨n, 0, 0⟩]) (us ++ [(i : Int)]) := by
  obtain ⟨u, hu⟩ : ∃ u, us[i]? = some u := ⟨_, List.getElem?_eq_getElem (by rw [← h.len]; exact (List.getElem?_eq_some_iff.1 hp).1)⟩
  have hil := (List.getElem?_eq_some_iff.1 hp).1
  have hk := (h.ok i p hp).1
  unfold Pu.ok Ok at hk
  have hlen : (ps.set i ⟨p.l, p.u, p.g + n⟩).length = us.length := by rw [List.length_set]; exact h.len
  refine ⟨by rw [List.length_append, List.length_append, hlen]; rfl, by rw [List.length_append]; simp, fun k v hv => ?_, fun j r hr => ?_⟩
  · by_cases hkl : k < us.length
    · rw [List.getElem?_append_left hkl] at hv; exact h.up k v hv
    · rw [List.getElem?_append_right (by omega)] at hv
      have hk0 : k - us.length = 0 := by have := (List.getElem?_eq_some_iff.1 hv).1; simp at this; omega
      rw [hk0] at hv
      obtain rfl : (i : Int) = v := by simpa using hv
      have := h.len
      omega
  · rw [gsum_snoc _ _ _ _ _ hlen, gsum_set _ _ _ _ _ _ _ hp hu]
    have e0 : (⟨p.l, p.u, p.g + n⟩ : Pu).l - p.l = 0 := Int.sub_self _
    rw [e0]
    by_cases hjl : j < ps.length
    · rw [List.getElem?_append_left (by rw [List.length_set]; exact hjl), List.getElem?_set] at hr
      by_cases hij : i = j
      · subst hij
        rw [if_pos rfl, if_pos hil] at hr
        injection hr with hr
        subst hr
        refine ⟨?_, ?_⟩
        · unfold Pu.ok Ok
          show 0 ≤ p.u ∧ 0 ≤ p.g + n ∧ p.u + (p.g + n) ≤ p.l ∧ p.l ≤ _
          omega
        · rw [(h.ok i p hp).2, if_pos rfl]
          show p.g + _ + n = p.g + n
          split <;> omega
      · rw [if_neg hij] at hr
        refine ⟨(h.ok j r hr).1, ?_⟩
        rw [(h.ok j r hr).2, if_neg (show ¬ (i : Int) = (j : Int) by omega)]
        split <;> omega
    · rw [List.getElem?_append_right (by rw [List.length_set]; omega), List.length_set] at hr
      have hj0 : j - ps.length = 0 := by have := (List.getElem?_eq_some_iff.1 hr).1; simp at this; omega
      rw [hj0] at hr
      obtain rfl := (by simpa using hr : (⟨n, 0, 0⟩ : Pu) = r)
      refine ⟨?_, ?_⟩
      · unfold Pu.ok Ok
        show 0 ≤ (0 : Int) ∧ 0 ≤ (0 : Int) ∧ (0 : Int) + 0 ≤ n ∧ n ≤ _
        omega
      · rw [gsum_none _ _ _ (fun v hv => by
          obtain ⟨m, hm⟩ := List.getElem?_of_mem hv
          have h1 := h.up m v hm
          have h2 := (List.getElem?_eq_some_iff.1 hm).1
          have := h.len
          omega), if_neg (show ¬ (i : Int) = (j : Int) by omega)]
        show _ = (0 : Int)
        split <;> rfl
/-- Pages have gone to, or come from, one that it gave to. -/
theorem Fam.moved (h : Fam ps us) (hp : ps[i]? = some p) (hq : ps[k]? = some q) (hu : us[k]? = some (i : Int)) (h1 : n ≤ p.l - p.u - p.g) (h2 : -n ≤ q.l - q.u - q.g) : i ≠ k ∧ Fam ((ps.set i ⟨p.l, p.u, p.g + n⟩).set k ⟨q.l + n, q.u, q.g⟩) us := by
  have hik : i ≠ k := fun e => by have := (h.up k _ hu).2; omega
  refine ⟨hik, ?_⟩
  obtain ⟨u, hui⟩ : ∃ u, us[i]? = some u := ⟨_, List.getElem?_eq_getElem (by rw [← h.len]; exact (List.getElem?_eq_some_iff.1 hp).1)⟩
  have hil := (List.getElem?_eq_some_iff.1 hp).1
  have hkl := (List.getElem?_eq_some_iff.1 hq).1
  have hk := (h.ok i p hp)
  have hk2 := (h.ok k q hq).1
  have hmem := gsum_mem (i : Int) ps us k q h.nn hq hu
  rw [hk.2] at hmem
  have hk1 := hk.1
  unfold Pu.ok Ok at hk1 hk2
  have hq' : (ps.set i ⟨p.l, p.u, p.g + n⟩)[k]? = some q := by rw [List.getElem?_set, if_neg hik]; exact hq
  refine ⟨by rw [List.length_set, List.length_set]; exact h.len, by rw [List.length_set, List.length_set]; exact h.pos, h.up, fun j r hr => ?_⟩
  rw [gsum_set _ _ _ _ _ _ _ hq' hu, gsum_set _ _ _ _ _ _ _ hp hui]
  have e0 : (⟨p.l, p.u, p.g + n⟩ : Pu).l - p.l = 0 := Int.sub_self _
  have e1 : (⟨q.l + n, q.u, q.g⟩ : Pu).l - q.l = n := by show q.l + n - q.l = n; omega
  rw [e0, e1]
  rw [List.getElem?_set] at hr
  by_cases hkj : k = j
  · subst hkj
    rw [if_pos rfl, if_pos (by rw [List.length_set]; exact hkl)] at hr
    injection hr with hr
    subst hr
    refine ⟨?_, ?_⟩
    · unfold Pu.ok Ok
      show 0 ≤ q.u ∧ 0 ≤ q.g ∧ q.u + q.g ≤ q.l + n ∧ q.l + n ≤ _
      omega
    · rw [(h.ok k q hq).2, if_neg (show ¬ (i : Int) = (k : Int) by omega)]
      show q.g + _ + 0 = q.g
      split <;> omega
  · rw [if_neg hkj, List.getElem?_set] at hr
    by_cases hij : i = j
    · subst hij
      rw [if_pos rfl, if_pos hil] at hr
      injection hr with hr
      subst hr
      refine ⟨?_, ?_⟩
      · unfold Pu.ok Ok
        show 0 ≤ p.u ∧ 0 ≤ p.g + n ∧ p.u + (p.g + n) ≤ p.l ∧ p.l ≤ _
        omega
      · rw [hk.2, if_pos rfl]
        show p.g + _ + n = p.g + n
        split <;> omega
    · rw [if_neg hij] at hr
      refine ⟨(h.ok j r hr).1, ?_⟩
      rw [(h.ok j r hr).2, if_neg (show ¬ (i : Int) = (j : Int) by omega)]
      split <;> omega
end Go.Proofs.Ytmkjdghjaeolcaa
