import Derived.Test.YtlkhbbdigljpjaaSc
/- A category set. -/
namespace Lab
set_option linter.unusedVariables false
set_option linter.unusedSimpArgs false

/-- A category's level put among the pairs. -/
def put (D : Int) (ps : List (Nat × Int)) (c : Nat) (l : Int) : List (Nat × Int) := ps.filter (fun p => decide (p.1 < c)) ++ ((if l = D then [] else [(c, l)]) ++ ps.filter (fun p => decide (c < p.1)))
theorem take_filter {ps : List (Nat × Int)} {c : Nat} : ∀ {i : Nat}, IsPos ps c i → ps.take i = ps.filter (fun p => decide (p.1 < c)) := by
  intro i h
  have e : ps = ps.take i ++ ps.drop i := (List.take_append_drop i ps).symm
  conv => rhs; rw [e, List.filter_append]
  rw [List.filter_eq_self.2 fun p hp => ?_, List.filter_eq_nil_iff.2 fun p hp => ?_, List.append_nil]
  · obtain ⟨t, ht⟩ := List.mem_iff_getElem?.1 hp
    rw [List.getElem?_drop] at ht
    have := h.2.2 _ p (by omega) ht
    simpa using this
  · obtain ⟨t, ht⟩ := List.mem_iff_getElem?.1 hp
    have hlt : t < i := by have := (List.getElem?_eq_some_iff.1 ht).1; rw [List.length_take] at this; omega
    rw [List.getElem?_take_of_lt hlt] at ht
    have := h.2.1 _ p hlt ht
    simpa using this
theorem drop_filter_found {ps : List (Nat × Int)} {c i : Nat} (hr : Rise ps) (h : IsPos ps c i) (hf : ∃ p, ps[i]? = some p ∧ p.1 = c) : ps.drop (i + 1) = ps.filter (fun p => decide (c < p.1)) := by
  obtain ⟨q, hq, rfl⟩ := hf
  have e : ps = ps.take (i + 1) ++ ps.drop (i + 1) := (List.take_append_drop (i + 1) ps).symm
  conv => rhs; rw [e, List.filter_append]
  rw [List.filter_eq_nil_iff.2 fun p hp => ?_, List.filter_eq_self.2 fun p hp => ?_, List.nil_append]
  · obtain ⟨t, ht⟩ := List.mem_iff_getElem?.1 hp
    rw [List.getElem?_drop] at ht
    have := rise_get hr (s := i) (by omega) hq ht
    simpa using this
  · obtain ⟨t, ht⟩ := List.mem_iff_getElem?.1 hp
    have hlt : t < i + 1 := by have := (List.getElem?_eq_some_iff.1 ht).1; rw [List.length_take] at this; omega
    rw [List.getElem?_take_of_lt hlt] at ht
    by_cases e : t = i
    · subst e; rw [hq] at ht; cases ht; simp
    · have := h.2.1 _ p (by omega) ht
      simp; omega
theorem drop_filter_missed {ps : List (Nat × Int)} {c i : Nat} (hr : Rise ps) (h : IsPos ps c i) (hf : ¬ ∃ p, ps[i]? = some p ∧ p.1 = c) : ps.drop i = ps.filter (fun p => decide (c < p.1)) := by
  have e : ps = ps.take i ++ ps.drop i := (List.take_append_drop i ps).symm
  conv => rhs; rw [e, List.filter_append]
  rw [List.filter_eq_nil_iff.2 fun p hp => ?_, List.filter_eq_self.2 fun p hp => ?_, List.nil_append]
  · obtain ⟨t, ht⟩ := List.mem_iff_getElem?.1 hp
    rw [List.getElem?_drop] at ht
    have h1 := h.2.2 _ p (by omega) ht
    have hne : p.1 ≠ c := fun e => by
      by_cases h0 : t = 0
      · subst h0; exact hf ⟨p, by simpa using ht, e⟩
      · have hi : i < ps.length := by have := (List.getElem?_eq_some_iff.1 ht).1; omega
        have h2 := h.2.2 i _ (Nat.le_refl _) (List.getElem?_eq_getElem hi)
        have h3 := rise_get hr (s := i) (t := i + t) (by omega) (List.getElem?_eq_getElem hi) ht
        omega
    simp; omega
  · obtain ⟨t, ht⟩ := List.mem_iff_getElem?.1 hp
    have hlt : t < i := by have := (List.getElem?_eq_some_iff.1 ht).1; rw [List.length_take] at this; omega
    rw [List.getElem?_take_of_lt hlt] at ht
    have := h.2.1 _ p hlt ht
    simp; omega
theorem put_len (D : Int) (ps : List (Nat × Int)) (c : Nat) (l : Int) : (put D ps c l).length ≤ ps.length + 1 := by
  unfold put
  have : (ps.filter (fun p => decide (p.1 < c))).length + (ps.filter (fun p => decide (c < p.1))).length ≤ ps.length := by
    induction ps with
    | nil => simp
    | cons p r ih =>
      rcases Nat.lt_trichotomy p.1 c with h | h | h
      · rw [List.filter_cons_of_pos (by simpa using h), List.filter_cons_of_neg (by simp; omega)]; simp; omega
      · rw [List.filter_cons_of_neg (by simp; omega), List.filter_cons_of_neg (by simp; omega)]; simp; omega
      · rw [List.filter_cons_of_neg (by simp; omega), List.filter_cons_of_pos (by simpa using h)]; simp; omega
  rw [List.length_append, List.length_append]
  split <;> simp <;> omega
theorem put_ok {D : Int} {ps : List (Nat × Int)} {c : Nat} {l : Int} (h : Ok D ps) (h1 : 1 ≤ c) (h2 : c < 4294967296) : Ok D (put D ps c l) := by
  refine ⟨?_, fun p hp => ?_, fun p hp => ?_⟩
  · unfold put Rise
    rw [List.pairwise_append]
    refine ⟨List.Pairwise.filter _ h.1, ?_, fun p hp q hq => ?_⟩
    · rw [List.pairwise_append]
      refine ⟨by split <;> simp, List.Pairwise.filter _ h.1, fun p hp q hq => ?_⟩
      have hq' := (List.mem_filter.1 hq).2
      split at hp
      · simp at hp
      · simp at hp; subst hp; simpa using hq'
    · have hp' := (List.mem_filter.1 hp).2
      simp at hp'
      rcases List.mem_append.1 hq with hq | hq
      · split at hq
        · simp at hq
        · simp at hq; subst hq; exact hp'
      · have hq' := (List.mem_filter.1 hq).2
        simp at hq'; omega
  · unfold put at hp
    rcases List.mem_append.1 hp with hp | hp
    · exact h.2.1 p (List.mem_filter.1 hp).1
    · rcases List.mem_append.1 hp with hp | hp
      · split at hp
        · simp at hp
        · simp at hp; subst hp; exact ⟨h1, h2⟩
      · exact h.2.1 p (List.mem_filter.1 hp).1
  · unfold put at hp
    rcases List.mem_append.1 hp with hp | hp
    · exact h.2.2 p (List.mem_filter.1 hp).1
    · rcases List.mem_append.1 hp with hp | hp
      · split at hp
        · simp at hp
        · next hl => simp at hp; subst hp; exact hl
      · exact h.2.2 p (List.mem_filter.1 hp).1
theorem at_filter {D : Int} {c : Nat} {f : Nat × Int → Bool} : ∀ {ps : List (Nat × Int)}, (∀ p ∈ ps, p.1 = c → f p = true) → at' D (ps.filter f) c = at' D ps c
  | [], _ => rfl
  | p :: r, h => by
      have ih := at_filter (D := D) (c := c) (f := f) (ps := r) fun q hq => h q (by simp [hq])
      by_cases hf : f p = true
      · rw [List.filter_cons_of_pos hf, at_cons, at_cons, ih]
      · rw [List.filter_cons_of_neg hf, at_cons, ih, if_neg fun e => hf (h p (by simp) e)]
theorem put_at (D : Int) (ps : List (Nat × Int)) (c : Nat) (l : Int) (x : Nat) : at' D (put D ps c l) x = if x = c then l else at' D ps x := by
  unfold put
  rw [at_append, at_append]
  rcases Nat.lt_trichotomy x c with h | h | h
  · have h3 : at' D (ps.filter (fun p => decide (c < p.1))) x = D := at_out fun p hp e => by have := (List.mem_filter.1 hp).2; simp at this; omega
    have h2 : at' (at' D (ps.filter (fun p => decide (c < p.1))) x) (if l = D then [] else [(c, l)]) x = D := by
      rw [h3]; exact at_out fun p hp e => by
        split at hp
        · simp at hp
        · simp at hp; subst hp; simp at e; omega
    rw [h2, if_neg (by omega)]
    exact at_filter fun p _ e => by simp; omega
  · subst h
    rw [if_pos rfl]
    have h1 : ∀ E : Int, at' E (ps.filter (fun p => decide (p.1 < x))) x = E := fun E => at_out fun p hp e => by have := (List.mem_filter.1 hp).2; simp at this; omega
    have h3 : at' D (ps.filter (fun p => decide (x < p.1))) x = D := at_out fun p hp e => by have := (List.mem_filter.1 hp).2; simp at this; omega
    rw [h1, h3]
    split
    · next hl => rw [hl]; rfl
    · rw [at_cons, if_pos rfl]
  · have h1 : ∀ E : Int, at' E (ps.filter (fun p => decide (p.1 < c))) x = E := fun E => at_out fun p hp e => by have := (List.mem_filter.1 hp).2; simp at this; omega
    have h2 : ∀ E : Int, at' E (if l = D then [] else [(c, l)]) x = E := fun E => at_out fun p hp e => by
      split at hp
      · simp at hp
      · simp at hp; subst hp; simp at e; omega
    rw [h1, h2, if_neg (by omega)]
    exact at_filter fun p _ e => by simp; omega
/-- Set to the default a category is named no more. -/
theorem put_default_len {D : Int} {ps : List (Nat × Int)} {c : Nat} (h : Ok D ps) : (put D ps c D).length + (if at' D ps c = D then 0 else 1) = ps.length := by
  have hsplit : ∀ ps : List (Nat × Int), (ps.filter (fun p => decide (p.1 < c))).length + (ps.filter (fun p => decide (c < p.1))).length + (ps.filter (fun p => decide (p.1 = c))).length = ps.length := by
    intro ps
    induction ps with
    | nil => rfl
    | cons p r ih =>
      rcases Nat.lt_trichotomy p.1 c with h | h | h
      · rw [List.filter_cons_of_pos (by simpa using h), List.filter_cons_of_neg (by simp; omega), List.filter_cons_of_neg (by simp; omega)]; simp; omega
      · rw [List.filter_cons_of_neg (by simp; omega), List.filter_cons_of_neg (by simp; omega), List.filter_cons_of_pos (by simpa using h)]; simp; omega
      · rw [List.filter_cons_of_neg (by simp; omega), List.filter_cons_of_pos (by simpa using h), List.filter_cons_of_neg (by simp; omega)]; simp; omega
  have hs := hsplit ps
  have hl : (put D ps c D).length = (ps.filter (fun p => decide (p.1 < c))).length + (ps.filter (fun p => decide (c < p.1))).length := by unfold put; rw [if_pos rfl]; simp
  have ho : (ps.filter (fun p => decide (p.1 = c))).length = if at' D ps c = D then 0 else 1 := by
    clear hs hl hsplit
    induction ps with
    | nil => rw [show at' D [] c = D from rfl, if_pos rfl]; rfl
    | cons p r ih =>
      by_cases e : p.1 = c
      · rw [List.filter_cons_of_pos (by simpa using e), at_cons, if_pos e, if_neg (h.2.2 p (by simp)), List.filter_eq_nil_iff.2]
        · rfl
        · intro q hq; have := (List.pairwise_cons.1 h.1).1 q hq; simp; omega
      · rw [List.filter_cons_of_neg (by simpa using e), at_cons, if_neg e]; exact ih h.tail
  rw [hl]; omega
end Lab
