/- What a new category does; what rises: the laws' mathematics. -/
import Derived.Test.YtmbdglhihakkjaaQn
set_option linter.unusedVariables false
set_option linter.unusedSimpArgs false
namespace Lab
theorem right_of {D : Int} {ps : List (Nat × Int)} (h1 : 1 ≤ D) (h4 : D ≤ 4) (hl : ps.length ≤ 12) (hr : Rise ps) (hg : ∀ p ∈ ps, goodP D p = true) : right D ps = true := by
  unfold right
  have key : ∀ k, okTo D ps k = true := by
    intro k
    induction k with
    | zero => simp [okTo, h1, h4, hl]
    | succ k ih =>
      unfold okTo
      rw [ih, Bool.true_and]
      cases hk : ps[k]? with
      | none => rfl
      | some p =>
        simp only
        rw [hg p (List.mem_of_getElem? hk), Bool.true_and]
        cases k with
        | zero => rfl
        | succ j =>
          simp only [risesAt]
          cases hj : ps[j]? with
          | none => rfl
          | some q => simp only [decide_eq_true_eq]; exact rise_get hr (Nat.lt_succ_self j) hj hk
  exact key _
/-- A category above all that are named. -/
theorem put_above {D l : Int} {ps : List (Nat × Int)} {c : Nat} (h : ∀ p ∈ ps, p.1 < c) : put D ps c l = ps ++ (if l = D then [] else [(c, l)]) := by
  unfold put
  have e1 : ps.filter (fun p => decide (p.1 < c)) = ps := List.filter_eq_self.2 (fun p hp => by simpa using h p hp)
  have e2 : ps.filter (fun p => decide (c < p.1)) = [] := List.filter_eq_nil_iff.2 (fun p hp => by have := h p hp; simp; omega)
  rw [e1, e2, List.append_nil]
theorem at_above {D : Int} {ps : List (Nat × Int)} {c : Nat} (h : ∀ p ∈ ps, p.1 < c) : at' D ps c = D := at_out fun p hp e => by have := h p hp; omega
theorem few_lt {ps : List (Nat × Int)} (h : Few ps) {c : Nat} (hc : 100 ≤ c) : ∀ p ∈ ps, p.1 < c := fun p hp => by have := h p hp; omega
/-- A rising list below a bound is no longer than it. -/
theorem rise_len : ∀ (n : Nat) (l : List Nat), l.Pairwise (· < ·) → (∀ x ∈ l, x < n) → l.length ≤ n
  | 0, [], _, _ => Nat.le_refl _
  | 0, x :: r, _, h => absurd (h x (by simp)) (Nat.not_lt_zero _)
  | n + 1, l, hp, h => by
    rcases List.eq_nil_or_concat l with rfl | ⟨r, x, rfl⟩
    · exact Nat.zero_le _
    · rw [List.concat_eq_append] at hp h ⊢
      rw [List.pairwise_append] at hp
      have := rise_len n r hp.1 (fun y hy => by have := hp.2.2 y hy x (by simp); have := h x (by simp); omega)
      simp; omega
theorem few_len {ps : List (Nat × Int)} (hr : Rise ps) (h : Few ps) : ps.length ≤ 12 := by
  have hp : (ps.map (fun p => p.1 / 3)).Pairwise (· < ·) := by
    rw [List.pairwise_map]
    refine List.Pairwise.imp_of_mem ?_ hr
    intro p q hp hq hlt
    have := h p hp; have := h q hq
    omega
  have := rise_len 12 _ hp (fun x hx => by
    obtain ⟨p, hp, rfl⟩ := List.mem_map.1 hx
    have := h p hp
    omega)
  rwa [List.length_map] at this
theorem few_jn {D E : Int} {ps qs : List (Nat × Int)} (o1 : Ok D ps) (o2 : Ok E qs) (f1 : Few ps) (f2 : Few qs) : Few (jn D ps E qs) := fun p hp => by
  have o := jn_ok o1 o2
  have e := at_mem (D := max D E) o.1 hp
  rw [jn_at o1 o2] at e
  have hne := o.2.2 p hp
  have hc : at' D ps p.1 ≠ D ∨ at' E qs p.1 ≠ E := by
    by_cases h1 : at' D ps p.1 = D
    · by_cases h2 : at' E qs p.1 = E
      · rw [h1, h2] at e; exact absurd e.symm hne
      · exact .inr h2
    · exact .inl h1
  rcases hc with hc | hc
  · obtain ⟨q, hq, e⟩ := at_ne hc
    have := f1 q hq; rw [← e]; exact this
  · obtain ⟨q, hq, e⟩ := at_ne hc
    have := f2 q hq; rw [← e]; exact this
/-- One pair more, behind all others. -/
theorem right_more {D l : Int} {ps : List (Nat × Int)} {c : Nat} (o : Ok D ps) (f : Few ps) (h1 : 1 ≤ D) (h4 : D ≤ 4) (hv : ∀ p ∈ ps, 0 ≤ p.2 ∧ p.2 ≤ 4) (hc : 100 ≤ c) (hc2 : c ≤ 2000) (hl0 : 0 ≤ l) (hl4 : l ≤ 4) (hn : ps.length ≠ 12) : right D (put D ps c l) = true := by
  have hlen := few_len o.1 f
  have hok := put_ok (l := l) o (by omega : 1 ≤ c) (by omega)
  refine right_of h1 h4 ?_ hok.1 (fun p hp => ?_)
  · rw [put_above (few_lt f hc)]; split <;> simp <;> omega
  · have h2 := hok.2.1 p hp
    have h3 := hok.2.2 p hp
    have hmem : p ∈ ps ∨ p = (c, l) := by
      rw [put_above (few_lt f hc)] at hp
      rcases List.mem_append.1 hp with hp | hp
      · exact .inl hp
      · split at hp
        · cases hp
        · exact .inr (by simpa using hp)
    rcases hmem with hm | rfl
    · have := hv p hm; have := f p hm
      simp [goodP, h3]; omega
    · simp only at h3
      simp [goodP, h3]; omega
theorem jn_lvl {D E : Int} {ps qs : List (Nat × Int)} (o1 : Ok D ps) (o2 : Ok E qs) (b1 : ∀ c, 0 ≤ at' D ps c ∧ at' D ps c ≤ 4) (b2 : ∀ c, 0 ≤ at' E qs c ∧ at' E qs c ≤ 4) : ∀ p ∈ jn D ps E qs, 0 ≤ p.2 ∧ p.2 ≤ 4 := fun p hp => by
  have e := at_mem (D := max D E) (jn_ok o1 o2).1 hp
  rw [jn_at o1 o2] at e
  have := b1 p.1; have := b2 p.1
  omega
theorem owns_above {D : Int} {ps : List (Nat × Int)} {c : Nat} (f : Few ps) (hc : 100 ≤ c) (h1 : 1 ≤ D) : (owns (put D ps c 0)).length = (owns ps).length + 1 := by
  rw [put_above (few_lt f hc), if_neg (by omega)]
  unfold owns
  simp [List.filter_append]
end Lab
namespace Go.Proofs.Ytmbdglhihakkjaa
open Go.RowKit
set_option linter.unusedVariables false
set_option linter.unusedSimpArgs false
/-- The level that a law makes of a number. -/
theorem lvl_of (x : Int) : ∃ l : Int, 1 ≤ l ∧ l ≤ 4 ∧ RowKit.wrap64 ((RowKit.wrap64 (x.tmod 4 + 4)).tmod 4 + 1) = l := by
  have h1 : x.tmod 4 < 4 := Int.tmod_lt_of_pos x (by omega)
  have h2 : -4 < x.tmod 4 := Int.lt_tmod_of_pos x (by omega)
  have e : RowKit.wrap64 (x.tmod 4 + 4) = x.tmod 4 + 4 := by unfold RowKit.wrap64; omega
  rw [e]
  generalize hy : x.tmod 4 + 4 = y
  rw [Int.tmod_eq_emod_of_nonneg (by omega)]
  have e2 : RowKit.wrap64 (y % 4 + 1) = y % 4 + 1 := by unfold RowKit.wrap64; omega
  exact ⟨_, by omega, by omega, rfl⟩
theorem put_tight (D : Int) (c : Nat) (l : Int) : ∀ P : LP, (P.filter (fun p => decide (p.1 < c))).length + (P.filter (fun p => decide (c < p.1))).length ≤ P.length
  | [] => Nat.le_refl _
  | p :: r => by
    have ih := put_tight D c l r
    simp only [List.filter_cons]
    by_cases h1 : p.1 < c
    · have h2 : ¬ c < p.1 := by omega
      simp [h1, h2]; omega
    · by_cases h2 : c < p.1
      · simp [h1, h2]; omega
      · simp [h1, h2]; omega
theorem put_le (D : Int) (P : LP) (c : Nat) (l : Int) : (Lab.put D P c l).length ≤ P.length + 1 := by
  have := put_tight D c l P
  unfold Lab.put
  simp only [List.length_append]
  split <;> simp <;> omega
theorem LA.put {k m : Nat} {W : World} {D : Int} {a : Option Addr} {n c : Nat} {P : LP} {x : Nat} {l : Int} (h : LA k W D a n c (Lab.put D P x l)) (hm : P.length ≤ m) : LA (m + 1) W D a n c (Lab.put D P x l) :=
  ⟨h.1, by have := put_le D P x l; omega, h.2.2⟩
theorem LA.len {k : Nat} {W : World} {D : Int} {a : Option Addr} {n c : Nat} {P : LP} (h : LA k W D a n c P) : n = P.length := by
  rcases h.2.2 with ⟨e, rfl⟩ | ⟨b, off, cap, e, _⟩
  · cases e; rfl
  · cases e; rfl
section
variable {D E F G : Int} {P Q R S : LP} {c : Nat}
/-- A thread that may not have a new category has a full label. -/
theorem fresh_full (h : Lab.Fine D P) (h2 : Lab.Fine E Q) (f : Lab.Few P) (f2 : Lab.Few Q) (hc : 100 ≤ c) (hc2 : c ≤ 2000) (hr : fr D P (max D E) (Lab.jn D P E Q) c = false) : P.length = 12 ∨ (Lab.jn D P E Q).length = 12 := by
  by_cases hp : P.length = 12
  · exact .inl hp
  by_cases hj : (Lab.jn D P E Q).length = 12
  · exact .inr hj
  exfalso
  have r1 := Lab.right_more (l := 0) h.1 f h.2.1 h.2.2.1 (fun p hp => ⟨(h.2.2.2.1 p hp).1, (h.2.2.2.1 p hp).2.1⟩) hc hc2 (by omega) (by omega) hp
  have r2 := Lab.right_more (l := 4) (Lab.jn_ok h.1 h2.1) (Lab.few_jn h.1 h2.1 f f2) (by have := h.2.1; omega) (by have := h.2.2.1; have := h2.2.2.1; omega) (Lab.jn_lvl h.1 h2.1 (fine_at h) (fine_at h2)) hc hc2 (by omega) (by omega) hj
  unfold fr at hr
  rw [r1, r2] at hr
  cases hr
/-- Who makes a category may change what is at any level of it. -/
theorem fresh_change {l : Int} (h : Lab.Fine D P) (hc1 : 1 ≤ c) (hc2 : c < 4294967296) (hl1 : 1 ≤ l) (hl4 : l ≤ 4) : ch D (Lab.put D P c 0) D (Lab.put D (Lab.put D P c 0) c l) = true := by
  refine (ch_iff (Lab.put_ok h.1 hc1 hc2)).2 ⟨fun x => ?_, fun x => ?_⟩
  · rw [Lab.put_at, Lab.put_at]
    by_cases e : x = c
    · rw [if_pos e, if_pos e]; omega
    · rw [if_neg e, if_neg e, Lab.put_at, if_neg e]; omega
  · rw [Lab.put_at, Lab.put_at]
    by_cases e : x = c
    · rw [if_pos e, if_pos e]; simp; omega
    · rw [if_neg e, if_neg e]
      split
      · next e0 => rw [e0]; omega
      · omega
theorem fresh_read {l : Int} (h : Lab.Fine D P) (f : Lab.Few P) (hc : 100 ≤ c) (hlt : D < l) : rd D P D (Lab.put D P c l) = false := by
  cases hr : rd D P D (Lab.put D P c l) with
  | false => rfl
  | true =>
    have := (rd_iff h.1).1 hr c
    rw [Lab.put_at, if_pos rfl, Lab.at_above (Lab.few_lt f hc), if_neg (by have := h.2.1; omega)] at this
    omega
/-- What a thread's label becomes by itself owns what it owned. -/
theorem rise_self (h : Lab.Fine D P) (h2 : Lab.Fine F R) (hs : sf D P E Q F R = true) {c : Nat} (hc : c ∈ Lab.owns R) : Lab.at' D P c = 0 := by
  unfold sf at hs
  rw [Bool.and_eq_true] at hs
  have a := lq_iff.1 hs.1 c
  rw [mem_owned h2.1 hc] at a
  have := (fine_at h c).1
  omega
theorem give_first {H : Int} {J : LP} (hg : gv D P E Q H J F R G S = true) : lq D P F R = true ∧ lq G S E Q = true := by
  unfold gv at hg
  simp only [Bool.and_eq_true] at hg
  exact ⟨hg.1.2.1.1, hg.1.2.2⟩
variable {H A C : Int} {J B N : LP}
theorem enter_least (he : en D P E Q H J A B C N F R G S = true) : Le (lsD D A) (lsP D P A B) F R := by
  unfold en at he
  simp only [Bool.and_eq_true] at he
  exact lq_iff.1 he.1.2.1.1
/-- What is owned behind a gate the thread owned, or the gate did. -/
theorem rise_enter (h : Lab.Fine D P) (hg : Lab.Fine A B) (h2 : Lab.Fine F R) (he : en D P E Q H J A B C N F R G S = true) {c : Nat} (hc : c ∈ Lab.owns R) : Lab.at' D P c = 0 ∨ Lab.at' A B c = 0 := by
  have a := enter_least he c
  rw [ls_at h.1 hg.1, mem_owned h2.1 hc] at a
  have := fine_at h c
  have := fine_at hg c
  by_cases e1 : Lab.at' D P c = 0
  · exact .inl e1
  by_cases e2 : Lab.at' A B c = 0
  · exact .inr e2
  exfalso
  unfold Lab.turn at a
  rw [if_neg e1, if_neg e2, if_neg (by omega)] at a
  omega
/-- What a thread has of a category it keeps, unless the gate owned it. -/
theorem rise_keeps (h : Lab.Fine D P) (hg : Lab.Fine A B) (he : en D P E Q H J A B C N F R G S = true) {c : Nat} {x : Int} (hx : (c, x) ∈ P) (hlt : Lab.at' F R c < x) (h0 : 0 ≤ Lab.at' F R c) : Lab.at' A B c = 0 := by
  have a := enter_least he c
  have e := Lab.at_mem (D := D) h.1.1 hx
  simp only at e
  rw [ls_at h.1 hg.1, e] at a
  have := fine_at h c
  have := fine_at hg c
  by_cases e2 : Lab.at' A B c = 0
  · exact e2
  exfalso
  unfold Lab.turn at a
  rw [if_neg (by omega : ¬ x = 0), if_neg e2, if_neg (by omega)] at a
  omega
end
end Go.Proofs.Ytmbdglhihakkjaa
