/- A category set. -/
import Derived.Test.YtmbdglhihakkjaaSa
namespace Lab
set_option linter.unusedVariables false
set_option linter.unusedSimpArgs false

/-- A category's level put among the pairs. -/
def put (D : Int) (ps : List (Nat × Int)) (c : Nat) (l : Int) : List (Nat × Int) := ps.filter (fun p => decide (p.1 < c)) ++ ((if l = D then [] else [(c, l)]) ++ ps.filter (fun p => decide (c < p.1)))
theorem take_filter {ps : List (Nat × Int)} {c : Nat} : ∀ {i : Nat}, IsPos ps c i → ps.take i = ps.filter (fun p => decide (p.1 < c)) := by
  intro i h
  have e : ps = ps.take i ++ ps.drop i := (List.take_append_drop i ps).symm
  conv => rhs; rw [e, List.filter_append]
  rw [List.filter_eq_self.2 fun p hp => ?_, List.filter_eq_nil_iff.2 fun p hp => ?_, List.append_nil]
  · obtain ⟨t, ht⟩ := List.mem_iff_getElem?.1 hp
    rw [List.getElem?_drop] at ht
    have := h.2.2 _ p (by omega) ht
    simpa using this
  · obtain ⟨t, ht⟩ := List.mem_iff_getElem?.1 hp
    have hlt : t < i := by have := (List.getElem?_eq_some_iff.1 ht).1; rw [List.length_take] at this; omega
    rw [List.getElem?_take_of_lt hlt] at ht
    have := h.2.1 _ p hlt ht
    simpa using this
theorem drop_filter_found {ps : List (Nat × Int)} {c i : Nat} (hr : Rise ps) (h : IsPos ps c i) (hf : ∃ p, ps[i]? = some p ∧ p.1 = c) : ps.drop (i + 1) = ps.filter (fun p => decide (c < p.1)) := by
  obtain ⟨q, hq, rfl⟩ := hf
  have e : ps = ps.take (i + 1) ++ ps.drop (i + 1) := (List.take_append_drop (i + 1) ps).symm
  conv => rhs; rw [e, List.filter_append]
  rw [List.filter_eq_nil_iff.2 fun p hp => ?_, List.filter_eq_self.2 fun p hp => ?_, List.nil_append]
  · obtain ⟨t, ht⟩ := List.mem_iff_getElem?.1 hp
    rw [List.getElem?_drop] at ht
    have := rise_get hr (s := i) (by omega) hq ht
    simpa using this
  · obtain ⟨t, ht⟩ := List.mem_iff_getElem?.1 hp
    have hlt : t < i + 1 := by have := (List.getElem?_eq_some_iff.1 ht).1; rw [List.length_take] at this; omega
    rw [List.getElem?_take_of_lt hlt] at ht
    by_cases e : t = i
    · subst e; rw [hq] at ht; cases ht; simp
    · have := h.2.1 _ p (by omega) ht
      simp; omega
theorem drop_filter_missed {ps : List (Nat × Int)} {c i : Nat} (hr : Rise ps) (h : IsPos ps c i) (hf : ¬ ∃ p, ps[i]? = some p ∧ p.1 = c) : ps.drop i = ps.filter (fun p => decide (c < p.1)) := by
  have e : ps = ps.take i ++ ps.drop i := (List.take_append_drop i ps).symm
  conv => rhs; rw [e, List.filter_append]
  rw [List.filter_eq_nil_iff.2 fun p hp => ?_, List.filter_eq_self.2 fun p hp => ?_, List.nil_append]
  · obtain ⟨t, ht⟩ := List.mem_iff_getElem?.1 hp
    rw [List.getElem?_drop] at ht
    have h1 := h.2.2 _ p (by omega) ht
    have hne : p.1 ≠ c := fun e => by
      by_cases h0 : t = 0
      · subst h0; exact hf ⟨p, by simpa using ht, e⟩
      · have hi : i < ps.length := by have := (List.getElem?_eq_some_iff.1 ht).1; omega
        have h2 := h.2.2 i _ (Nat.le_refl _) (List.getElem?_eq_getElem hi)
        have h3 := rise_get hr (s := i) (t := i + t) (by omega) (List.getElem?_eq_getElem hi) ht
        omega
    simp; omega
  · obtain ⟨t, ht⟩ := List.mem_iff_getElem?.1 hp
    have hlt : t < i := by have := (List.getElem?_eq_some_iff.1 ht).1; rw [List.length_take] at this; omega
    rw [List.getElem?_take_of_lt hlt] at ht
    have := h.2.1 _ p hlt ht
    simp; omega
theorem put_ok {D : Int} {ps : List (Nat × Int)} {c : Nat} {l : Int} (h : Ok D ps) (h1 : 1 ≤ c) (h2 : c < 4294967296) : Ok D (put D ps c l) := by
  refine ⟨?_, fun p hp => ?_, fun p hp => ?_⟩
  · unfold put Rise
    rw [List.pairwise_append]
    refine ⟨List.Pairwise.filter _ h.1, ?_, fun p hp q hq => ?_⟩
    · rw [List.pairwise_append]
      refine ⟨by split <;> simp, List.Pairwise.filter _ h.1, fun p hp q hq => ?_⟩
      have hq' := (List.mem_filter.1 hq).2
      split at hp
      · simp at hp
      · simp at hp; subst hp; simpa using hq'
    · have hp' := (List.mem_filter.1 hp).2
      simp at hp'
      rcases List.mem_append.1 hq with hq | hq
      · split at hq
        · simp at hq
        · simp at hq; subst hq; exact hp'
      · have hq' := (List.mem_filter.1 hq).2
        simp at hq'; omega
  · unfold put at hp
    rcases List.mem_append.1 hp with hp | hp
    · exact h.2.1 p (List.mem_filter.1 hp).1
    · rcases List.mem_append.1 hp with hp | hp
      · split at hp
        · simp at hp
        · simp at hp; subst hp; exact ⟨h1, h2⟩
      · exact h.2.1 p (List.mem_filter.1 hp).1
  · unfold put at hp
    rcases List.mem_append.1 hp with hp | hp
    · exact h.2.2 p (List.mem_filter.1 hp).1
    · rcases List.mem_append.1 hp with hp | hp
      · split at hp
        · simp at hp
        · next hl => simp at hp; subst hp; exact hl
      · exact h.2.2 p (List.mem_filter.1 hp).1
theorem at_filter {D : Int} {c : Nat} {f : Nat × Int → Bool} : ∀ {ps : List (Nat × Int)}, (∀ p ∈ ps, p.1 = c → f p = true) → at' D (ps.filter f) c = at' D ps c
  | [], _ => rfl
  | p :: r, h => by
      have ih := at_filter (D := D) (c := c) (f := f) (ps := r) fun q hq => h q (by simp [hq])
      by_cases hf : f p = true
      · rw [List.filter_cons_of_pos hf, at_cons, at_cons, ih]
      · rw [List.filter_cons_of_neg hf, at_cons, ih, if_neg fun e => hf (h p (by simp) e)]
theorem put_at (D : Int) (ps : List (Nat × Int)) (c : Nat) (l : Int) (x : Nat) : at' D (put D ps c l) x = if x = c then l else at' D ps x := by
  unfold put
  rw [at_append, at_append]
  rcases Nat.lt_trichotomy x c with h | h | h
  · have h3 : at' D (ps.filter (fun p => decide (c < p.1))) x = D := at_out fun p hp e => by have := (List.mem_filter.1 hp).2; simp at this; omega
    have h2 : at' (at' D (ps.filter (fun p => decide (c < p.1))) x) (if l = D then [] else [(c, l)]) x = D := by
      rw [h3]; exact at_out fun p hp e => by
        split at hp
        · simp at hp
        · simp at hp; subst hp; simp at e; omega
    rw [h2, if_neg (by omega)]
    exact at_filter fun p _ e => by simp; omega
  · subst h
    rw [if_pos rfl]
    have h1 : ∀ E : Int, at' E (ps.filter (fun p => decide (p.1 < x))) x = E := fun E => at_out fun p hp e => by have := (List.mem_filter.1 hp).2; simp at this; omega
    have h3 : at' D (ps.filter (fun p => decide (x < p.1))) x = D := at_out fun p hp e => by have := (List.mem_filter.1 hp).2; simp at this; omega
    rw [h1, h3]
    split
    · next hl => rw [hl]; rfl
    · rw [at_cons, if_pos rfl]
  · have h1 : ∀ E : Int, at' E (ps.filter (fun p => decide (p.1 < c))) x = E := fun E => at_out fun p hp e => by have := (List.mem_filter.1 hp).2; simp at this; omega
    have h2 : ∀ E : Int, at' E (if l = D then [] else [(c, l)]) x = E := fun E => at_out fun p hp e => by
      split at hp
      · simp at hp
      · simp at hp; subst hp; simp at e; omega
    rw [h1, h2, if_neg (by omega)]
    exact at_filter fun p _ e => by simp; omega
end Lab
-- with Ne
namespace Lab
set_option linter.unusedVariables false
set_option linter.unusedSimpArgs false

def jn (D : Int) (ps : List (Nat × Int)) (E : Int) (qs : List (Nat × Int)) : List (Nat × Int) := mk (fun x y => max x y) (max D E) (zipm D E ps qs)
def tn (a b D : Int) (ps : List (Nat × Int)) : List (Nat × Int) := mk (fun x _ => turn a b x) (turn a b D) (zipm D D ps ps)
theorem jn_ok {D E : Int} {ps qs : List (Nat × Int)} (h1 : Ok D ps) (h2 : Ok E qs) : Ok (max D E) (jn D ps E qs) := mk_ok h1 h2 _
theorem tn_ok {a b D : Int} {ps : List (Nat × Int)} (h1 : Ok D ps) : Ok (turn a b D) (tn a b D ps) := mk_ok h1 h1 _
theorem jn_at {D E : Int} {ps qs : List (Nat × Int)} (h1 : Ok D ps) (h2 : Ok E qs) (c : Nat) : at' (max D E) (jn D ps E qs) c = max (at' D ps c) (at' E qs c) := mk_at (f := fun x y => max x y) h1 h2 c
theorem tn_at {a b D : Int} {ps : List (Nat × Int)} (h1 : Ok D ps) (c : Nat) : at' (turn a b D) (tn a b D ps) c = turn a b (at' D ps c) := mk_at (f := fun x _ => turn a b x) h1 h1 c
theorem mk_length (f : Int → Int → Int) (M D E : Int) (ps qs : List (Nat × Int)) : (mk f M (zipm D E ps qs)).length ≤ ps.length + qs.length := Nat.le_trans (mk_len _ _ _) (zipm_len _ _ _ _)
theorem jn_len (D : Int) (ps : List (Nat × Int)) (E : Int) (qs : List (Nat × Int)) : (jn D ps E qs).length ≤ ps.length + qs.length := mk_length _ _ _ _ _ _
theorem tn_len (a b D : Int) (ps : List (Nat × Int)) : (tn a b D ps).length ≤ ps.length + ps.length := mk_length _ _ _ _ _ _
theorem zipm_map {D E : Int} {ps qs : List (Nat × Int)} {cs : List Nat} (h1 : Rise ps) (h2 : Rise qs) (hc : cs.Pairwise (· < ·)) (hm : ∀ c, c ∈ cs ↔ (∃ p ∈ ps, p.1 = c) ∨ ∃ q ∈ qs, q.1 = c) :
    zipm D E ps qs = cs.map (fun c => (c, at' D ps c, at' E qs c)) := by
  have e : (zipm D E ps qs).map (·.1) = cs := by
    refine rising_ext ?_ hc fun c => ?_
    · rw [List.pairwise_map]; exact zipm_rise D E h1 h2
    · rw [hm c, ← zipm_cats D E ps qs c, List.mem_map]
  rw [← e, List.map_map]
  conv => lhs; rw [← List.map_id (zipm D E ps qs)]
  refine List.map_congr_left fun t ht => ?_
  obtain ⟨a, b⟩ := zipm_at D E h1 h2 t ht
  obtain ⟨c, x, y⟩ := t
  simp only at a b
  simp [a, b]
theorem make_mk (f : Int → Int → Int) (M : Int) {D E : Int} {ps qs : List (Nat × Int)} {cs : List Nat} (h1 : Rise ps) (h2 : Rise qs) (hc : cs.Pairwise (· < ·)) (hm : ∀ c, c ∈ cs ↔ (∃ p ∈ ps, p.1 = c) ∨ ∃ q ∈ qs, q.1 = c) :
    make M cs (cs.map fun c => f (at' D ps c) (at' E qs c)) = mk f M (zipm D E ps qs) := by
  rw [zipm_map h1 h2 hc hm]
  unfold make mk
  clear hc hm
  induction cs with
  | nil => rfl
  | cons c r ih =>
    simp only [List.map_cons, List.zip_cons_cons]
    by_cases h : f (at' D ps c) (at' E qs c) = M
    · rw [List.filter_cons_of_neg (by simpa using h), List.filter_cons_of_neg (by simpa using h)]; exact ih
    · rw [List.filter_cons_of_pos (by simpa using h), List.filter_cons_of_pos (by simpa using h), List.map_cons, ih]
theorem catsOf_both {ps qs : List (Nat × Int)} {cs : List Nat} (h : CatsOf ((ps ++ qs).map (·.1)) cs) (c : Nat) : c ∈ cs ↔ (∃ p ∈ ps, p.1 = c) ∨ ∃ q ∈ qs, q.1 = c := by
  rw [h.2.1 c]; simp only [List.map_append, List.mem_append, List.mem_map]
theorem catsOf_one {ps : List (Nat × Int)} {cs : List Nat} (h : CatsOf (ps.map (·.1)) cs) (c : Nat) : c ∈ cs ↔ (∃ p ∈ ps, p.1 = c) ∨ ∃ q ∈ ps, q.1 = c := by
  rw [h.2.1 c]; simp only [List.mem_map, or_self]
theorem one_max (x y : Int) : one true x y = max x y := by unfold one; by_cases h : y < x <;> simp [h] <;> omega
theorem merge_jn {D E : Int} {ps qs : List (Nat × Int)} {cs : List Nat} (h1 : Ok D ps) (h2 : Ok E qs) (h : CatsOf ((ps ++ qs).map (·.1)) cs) :
    make (one true D E) cs (cs.map fun c => one true (at' D ps c) (at' E qs c)) = jn D ps E qs := by
  simp only [one_max]
  exact make_mk (fun x y => max x y) _ h1.1 h2.1 h.1 (catsOf_both h)
theorem turn_tn {a b D : Int} {ps : List (Nat × Int)} {cs : List Nat} (h1 : Ok D ps) (h : CatsOf (ps.map (·.1)) cs) :
    make (turn a b D) cs (cs.map fun c => turn a b (at' D ps c)) = tn a b D ps := make_mk (fun x _ => turn a b x) _ h1.1 h1.1 h.1 (catsOf_one h)
theorem make_ok {D : Int} {cs : List Nat} {f : Nat → Int} (hc : cs.Pairwise (· < ·)) (hp : ∀ c ∈ cs, 1 ≤ c ∧ c < 4294967296) : Ok D (make D cs (cs.map f)) := by
  have hz : cs.zip (cs.map f) = cs.map (fun c => (c, f c)) := by
    clear hc hp; induction cs with
    | nil => rfl
    | cons c r ih => simp [ih]
  unfold make
  rw [hz]
  refine ⟨?_, fun p h => ?_, fun p h => ?_⟩
  · unfold Rise; refine List.Pairwise.filter _ ?_; rw [List.pairwise_map]; exact hc
  · obtain ⟨c, hcm, rfl⟩ := List.mem_map.1 (List.mem_filter.1 h).1; exact hp c hcm
  · simpa using (List.mem_filter.1 h).2
theorem make_at {D : Int} {cs : List Nat} {f : Nat → Int} (hc : cs.Pairwise (· < ·)) (hp : ∀ c ∈ cs, 1 ≤ c ∧ c < 4294967296) (x : Nat) : at' D (make D cs (cs.map f)) x = if x ∈ cs then f x else D := by
  have hz : cs.zip (cs.map f) = cs.map (fun c => (c, f c)) := by
    clear hc hp; induction cs with
    | nil => rfl
    | cons c r ih => simp [ih]
  have hok := make_ok (D := D) (f := f) hc hp
  split
  · next h =>
    by_cases he : f x = D
    · rw [he]
      refine at_out fun p hp' e => ?_
      have hp2 := hp'
      unfold make at hp2
      rw [hz] at hp2
      obtain ⟨c, _, rfl⟩ := List.mem_map.1 (List.mem_filter.1 hp2).1
      simp only at e
      exact hok.2.2 _ hp' (by simp only; rw [e, he])
    · have hm : (x, f x) ∈ make D cs (cs.map f) := by
        unfold make; rw [hz]
        exact List.mem_filter.2 ⟨List.mem_map.2 ⟨x, h, rfl⟩, by simpa using he⟩
      exact at_mem hok.1 hm
  · next h =>
    refine at_out fun p hp' e => h ?_
    unfold make at hp'
    rw [hz] at hp'
    obtain ⟨c, hcm, rfl⟩ := List.mem_map.1 (List.mem_filter.1 hp').1
    simp only at e
    rw [← e]; exact hcm
theorem with_put {D l : Int} {ps : List (Nat × Int)} {c0 : Nat} {cs : List Nat} (h1 : Ok D ps) (hc1 : 1 ≤ c0) (hc2 : c0 < 4294967296) (h : CatsOf ((ps ++ [(c0, (0 : Int))]).map (·.1)) cs) :
    make D cs (cs.map fun c => if c = c0 then l else at' D ps c) = put D ps c0 l := by
  have hm : ∀ c, c ∈ cs ↔ (∃ p ∈ ps, p.1 = c) ∨ c = c0 := fun c => by rw [h.2.1 c]; simp [eq_comm]
  have hp : ∀ c ∈ cs, 1 ≤ c ∧ c < 4294967296 := fun c hc => by
    rcases (hm c).1 hc with ⟨p, hp, rfl⟩ | rfl
    · exact h1.2.1 p hp
    · exact ⟨hc1, hc2⟩
  refine ok_ext (make_ok h.1 hp) (put_ok h1 hc1 hc2) fun x => ?_
  rw [make_at h.1 hp, put_at]
  by_cases hx : x ∈ cs
  · rw [if_pos hx]
  · have hn := fun e => hx ((hm x).2 e)
    rw [if_neg hx, if_neg (fun e => hn (.inr e)), at_out fun p hp' e => hn (.inl ⟨p, hp', e⟩)]
theorem leq_is {D E : Int} {ps qs : List (Nat × Int)} {cs : List Nat} (h1 : Ok D ps) (h2 : Ok E qs) (h : CatsOf ((ps ++ qs).map (·.1)) cs) : leq cs D ps E qs = true ↔ ∀ c, at' D ps c ≤ at' E qs c := by
  unfold leq
  rw [Bool.and_eq_true, decide_eq_true_iff, List.all_eq_true]
  simp only [decide_eq_true_iff]
  constructor
  · rintro ⟨h3, h4⟩ c
    by_cases hc : c ∈ cs
    · exact h3 c hc
    · have hn := fun e => hc ((catsOf_both h c).2 e)
      rw [at_out (ps := ps) fun p hp e => hn (.inl ⟨p, hp, e⟩), at_out (ps := qs) fun p hp e => hn (.inr ⟨p, hp, e⟩)]
      exact h4
  · intro h3
    refine ⟨fun c _ => h3 c, ?_⟩
    have := h3 0
    rwa [at_zero h1, at_zero h2] at this
end Lab
