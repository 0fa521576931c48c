import Derived.Test.YtlkhbbdigljpjaaNb
/- Labels that may be, as lists of pairs: their levels tell them whole; two of them gone over side by side. -/
namespace Lab
set_option linter.unusedVariables false
set_option linter.unusedSimpArgs false

/-- The categories rise. -/
def Rise (ps : List (Nat × Int)) : Prop := ps.Pairwise (fun p q => p.1 < q.1)
theorem at_append (D : Int) (qs : List (Nat × Int)) (c : Nat) : ∀ ps : List (Nat × Int), at' D (ps ++ qs) c = at' (at' D qs c) ps c
  | [] => rfl
  | p :: r => by
      show (if p.1 = c then p.2 else at' D (r ++ qs) c) = (if p.1 = c then p.2 else at' (at' D qs c) r c)
      rw [at_append D qs c r]
theorem at_out {D : Int} {c : Nat} : ∀ {ps : List (Nat × Int)}, (∀ p ∈ ps, p.1 ≠ c) → at' D ps c = D
  | [], _ => rfl
  | p :: r, h => by
      show (if p.1 = c then p.2 else at' D r c) = D
      rw [if_neg (h p (by simp)), at_out fun q hq => h q (by simp [hq])]
theorem at_mem {D : Int} : ∀ {ps : List (Nat × Int)} {p : Nat × Int}, Rise ps → p ∈ ps → at' D ps p.1 = p.2
  | [], p, _, h => by simp at h
  | q :: r, p, hr, h => by
      show (if q.1 = p.1 then q.2 else at' D r p.1) = p.2
      rcases List.mem_cons.1 h with rfl | h
      · rw [if_pos rfl]
      · have := (List.pairwise_cons.1 hr).1 p h
        rw [if_neg (by omega)]; exact at_mem (List.pairwise_cons.1 hr).2 h
theorem at_cons (D : Int) (p : Nat × Int) (r : List (Nat × Int)) (c : Nat) : at' D (p :: r) c = if p.1 = c then p.2 else at' D r c := rfl
/-- A label that may be, as the calls make them. -/
def Ok (D : Int) (ps : List (Nat × Int)) : Prop := Rise ps ∧ (∀ p ∈ ps, 1 ≤ p.1 ∧ p.1 < 4294967296) ∧ ∀ p ∈ ps, p.2 ≠ D
theorem ok_nil (D : Int) : Ok D [] := ⟨List.Pairwise.nil, by simp, by simp⟩
theorem Ok.tail {D : Int} {p : Nat × Int} {r : List (Nat × Int)} (h : Ok D (p :: r)) : Ok D r :=
  ⟨(List.pairwise_cons.1 h.1).2, fun q hq => h.2.1 q (by simp [hq]), fun q hq => h.2.2 q (by simp [hq])⟩
theorem at_below {D : Int} {p : Nat × Int} {r : List (Nat × Int)} {c : Nat} (h : Rise (p :: r)) (hc : c < p.1) : at' D (p :: r) c = D :=
  at_out fun q hq => by
    rcases List.mem_cons.1 hq with rfl | hq
    · omega
    · have := (List.pairwise_cons.1 h).1 q hq; omega
theorem at_tail {D : Int} {p : Nat × Int} {r : List (Nat × Int)} (h : Rise (p :: r)) : at' D r p.1 = D :=
  at_out fun q hq => by have := (List.pairwise_cons.1 h).1 q hq; omega
/-- The levels tell a label. -/
theorem ok_ext {D : Int} : ∀ {ps qs : List (Nat × Int)}, Ok D ps → Ok D qs → (∀ c, at' D ps c = at' D qs c) → ps = qs
  | [], [], _, _, _ => rfl
  | [], q :: s, _, h2, h => by
      have := h q.1
      rw [at_cons, if_pos rfl] at this
      exact absurd this.symm (h2.2.2 q (by simp))
  | p :: r, [], h1, _, h => by
      have := h p.1
      rw [at_cons, if_pos rfl] at this
      exact absurd this (h1.2.2 p (by simp))
  | p :: r, q :: s, h1, h2, h => by
      have e : p.1 = q.1 := by
        rcases Nat.lt_trichotomy p.1 q.1 with hl | he | hl
        · have := h p.1
          rw [at_cons, if_pos rfl, at_below h2.1 hl] at this
          exact absurd this (h1.2.2 p (by simp))
        · exact he
        · have := h q.1
          rw [at_below h1.1 hl, at_cons, if_pos rfl] at this
          exact absurd this.symm (h2.2.2 q (by simp))
      have e2 : p.2 = q.2 := by
        have := h p.1
        rwa [at_cons, if_pos rfl, at_cons, if_pos e.symm] at this
      have e3 : r = s := ok_ext h1.tail h2.tail fun c => by
        by_cases hc : p.1 = c
        · subst hc
          rw [at_tail h1.1, e, at_tail h2.1]
        · have := h c
          rwa [at_cons, if_neg hc, at_cons, if_neg (by omega)] at this
      rw [e3, Prod.ext e e2]
theorem at_zero {D : Int} {ps : List (Nat × Int)} (h : Ok D ps) : at' D ps 0 = D := at_out fun p hp => by have := h.2.1 p hp; omega
theorem at_ne {D : Int} {ps : List (Nat × Int)} {c : Nat} (h : at' D ps c ≠ D) : ∃ p ∈ ps, p.1 = c := by
  by_cases hp : ∃ p ∈ ps, p.1 = c
  · exact hp
  · exact absurd (at_out fun p hm e => hp ⟨p, hm, e⟩) h

/-- Two labels side by side: each category that either names, with both levels. -/
def zipm (D E : Int) : List (Nat × Int) → List (Nat × Int) → List (Nat × Int × Int)
  | [], [] => []
  | p :: ps, [] => (p.1, p.2, E) :: zipm D E ps []
  | [], q :: qs => (q.1, D, q.2) :: zipm D E [] qs
  | p :: ps, q :: qs => if p.1 < q.1 then (p.1, p.2, E) :: zipm D E ps (q :: qs) else if q.1 < p.1 then (q.1, D, q.2) :: zipm D E (p :: ps) qs else (p.1, p.2, q.2) :: zipm D E ps qs
termination_by ps qs => ps.length + qs.length
theorem zipm_nn (D E : Int) : zipm D E [] [] = [] := by rw [zipm]
theorem zipm_cn (D E : Int) (p : Nat × Int) (ps : List (Nat × Int)) : zipm D E (p :: ps) [] = (p.1, p.2, E) :: zipm D E ps [] := by rw [zipm]
theorem zipm_nc (D E : Int) (q : Nat × Int) (qs : List (Nat × Int)) : zipm D E [] (q :: qs) = (q.1, D, q.2) :: zipm D E [] qs := by rw [zipm]
theorem zipm_lt (D E : Int) {p q : Nat × Int} (ps qs : List (Nat × Int)) (h : p.1 < q.1) : zipm D E (p :: ps) (q :: qs) = (p.1, p.2, E) :: zipm D E ps (q :: qs) := by rw [zipm, if_pos h]
theorem zipm_gt (D E : Int) {p q : Nat × Int} (ps qs : List (Nat × Int)) (h : q.1 < p.1) : zipm D E (p :: ps) (q :: qs) = (q.1, D, q.2) :: zipm D E (p :: ps) qs := by rw [zipm, if_neg (by omega), if_pos h]
theorem zipm_eq (D E : Int) {p q : Nat × Int} (ps qs : List (Nat × Int)) (h : p.1 = q.1) : zipm D E (p :: ps) (q :: qs) = (p.1, p.2, q.2) :: zipm D E ps qs := by rw [zipm, if_neg (by omega), if_neg (by omega)]
theorem zipm_len (D E : Int) : ∀ ps qs : List (Nat × Int), (zipm D E ps qs).length ≤ ps.length + qs.length
  | [], [] => by rw [zipm_nn]; simp
  | p :: ps, [] => by rw [zipm_cn]; have := zipm_len D E ps []; simp at this ⊢; omega
  | [], q :: qs => by rw [zipm_nc]; have := zipm_len D E [] qs; simp at this ⊢; omega
  | p :: ps, q :: qs => by
      rcases Nat.lt_trichotomy p.1 q.1 with h | h | h
      · rw [zipm_lt D E ps qs h]; have := zipm_len D E ps (q :: qs); simp at this ⊢; omega
      · rw [zipm_eq D E ps qs h]; have := zipm_len D E ps qs; simp at this ⊢; omega
      · rw [zipm_gt D E ps qs h]; have := zipm_len D E (p :: ps) qs; simp at this ⊢; omega
termination_by ps qs => ps.length + qs.length
theorem ex_cons {α : Type} (P : α → Prop) (a : α) (l : List α) : (∃ x, x ∈ a :: l ∧ P x) ↔ P a ∨ ∃ x, x ∈ l ∧ P x := by
  constructor
  · rintro ⟨x, hx, h⟩
    rcases List.mem_cons.1 hx with rfl | hx
    · exact .inl h
    · exact .inr ⟨x, hx, h⟩
  · rintro (h | ⟨x, hx, h⟩)
    · exact ⟨a, by simp, h⟩
    · exact ⟨x, by simp [hx], h⟩
theorem zipm_cats (D E : Int) : ∀ (ps qs : List (Nat × Int)) (c : Nat), (∃ t ∈ zipm D E ps qs, t.1 = c) ↔ (∃ p ∈ ps, p.1 = c) ∨ (∃ q ∈ qs, q.1 = c)
  | [], [], c => by rw [zipm_nn]; simp
  | p :: ps, [], c => by
      rw [zipm_cn]; have := zipm_cats D E ps [] c
      simp only [ex_cons, this]; simp
  | [], q :: qs, c => by
      rw [zipm_nc]; have := zipm_cats D E [] qs c
      simp only [ex_cons, this]; simp
  | p :: ps, q :: qs, c => by
      rcases Nat.lt_trichotomy p.1 q.1 with h | h | h
      · rw [zipm_lt D E ps qs h]; have := zipm_cats D E ps (q :: qs) c
        simp only [ex_cons, this]
        constructor
        · rintro (h | h | h | h) <;> simp [h]
        · rintro ((h | h) | h | h) <;> simp [h]
      · rw [zipm_eq D E ps qs h]; have := zipm_cats D E ps qs c
        simp only [ex_cons, this]
        constructor
        · rintro (h | h | h) <;> simp [h]
        · rintro ((h1 | h1) | h1 | h1) <;> first | (simp [h1]; done) | (left; omega)
      · rw [zipm_gt D E ps qs h]; have := zipm_cats D E (p :: ps) qs c
        simp only [ex_cons, this]
        constructor
        · rintro (h | (h | h) | h) <;> simp [h]
        · rintro ((h | h) | h | h) <;> simp [h]
termination_by ps qs => ps.length + qs.length
theorem zipm_at (D E : Int) : ∀ {ps qs : List (Nat × Int)}, Rise ps → Rise qs → ∀ t ∈ zipm D E ps qs, t.2.1 = at' D ps t.1 ∧ t.2.2 = at' E qs t.1
  | [], [], _, _, t, ht => by rw [zipm_nn] at ht; simp at ht
  | p :: ps, [], h1, h2, t, ht => by
      rw [zipm_cn] at ht
      rcases List.mem_cons.1 ht with rfl | ht
      · exact ⟨by rw [at_cons, if_pos rfl], rfl⟩
      · obtain ⟨a, b⟩ := zipm_at D E (List.pairwise_cons.1 h1).2 h2 t ht
        refine ⟨?_, b⟩
        rcases (zipm_cats D E ps [] t.1).1 ⟨t, ht, rfl⟩ with ⟨q, hq, e⟩ | ⟨q, hq, e⟩
        · have := (List.pairwise_cons.1 h1).1 q hq
          rw [at_cons, if_neg (by omega)]; exact a
        · simp at hq
  | [], q :: qs, h1, h2, t, ht => by
      rw [zipm_nc] at ht
      rcases List.mem_cons.1 ht with rfl | ht
      · exact ⟨rfl, by rw [at_cons, if_pos rfl]⟩
      · obtain ⟨a, b⟩ := zipm_at D E h1 (List.pairwise_cons.1 h2).2 t ht
        refine ⟨a, ?_⟩
        rcases (zipm_cats D E [] qs t.1).1 ⟨t, ht, rfl⟩ with ⟨p, hp, e⟩ | ⟨p, hp, e⟩
        · simp at hp
        · have := (List.pairwise_cons.1 h2).1 p hp
          rw [at_cons, if_neg (by omega)]; exact b
  | p :: ps, q :: qs, h1, h2, t, ht => by
      rcases Nat.lt_trichotomy p.1 q.1 with h | h | h
      · rw [zipm_lt D E ps qs h] at ht
        rcases List.mem_cons.1 ht with rfl | ht
        · exact ⟨by rw [at_cons, if_pos rfl], (at_below h2 h).symm⟩
        · obtain ⟨a, b⟩ := zipm_at D E (List.pairwise_cons.1 h1).2 h2 t ht
          refine ⟨?_, b⟩
          have hlt : p.1 < t.1 := by
            rcases (zipm_cats D E ps (q :: qs) t.1).1 ⟨t, ht, rfl⟩ with ⟨x, hx, e⟩ | ⟨x, hx, e⟩
            · have := (List.pairwise_cons.1 h1).1 x hx; omega
            · rcases List.mem_cons.1 hx with rfl | hx
              · omega
              · have := (List.pairwise_cons.1 h2).1 x hx; omega
          rw [at_cons, if_neg (by omega)]; exact a
      · rw [zipm_eq D E ps qs h] at ht
        rcases List.mem_cons.1 ht with rfl | ht
        · exact ⟨by rw [at_cons, if_pos rfl], by rw [at_cons, if_pos h.symm]⟩
        · obtain ⟨a, b⟩ := zipm_at D E (List.pairwise_cons.1 h1).2 (List.pairwise_cons.1 h2).2 t ht
          have hlt : p.1 < t.1 := by
            rcases (zipm_cats D E ps qs t.1).1 ⟨t, ht, rfl⟩ with ⟨x, hx, e⟩ | ⟨x, hx, e⟩
            · have := (List.pairwise_cons.1 h1).1 x hx; omega
            · have := (List.pairwise_cons.1 h2).1 x hx; omega
          exact ⟨by rw [at_cons, if_neg (by omega)]; exact a, by rw [at_cons, if_neg (by omega)]; exact b⟩
      · rw [zipm_gt D E ps qs h] at ht
        rcases List.mem_cons.1 ht with rfl | ht
        · exact ⟨(at_below h1 h).symm, by rw [at_cons, if_pos rfl]⟩
        · obtain ⟨a, b⟩ := zipm_at D E h1 (List.pairwise_cons.1 h2).2 t ht
          refine ⟨a, ?_⟩
          have hlt : q.1 < t.1 := by
            rcases (zipm_cats D E (p :: ps) qs t.1).1 ⟨t, ht, rfl⟩ with ⟨x, hx, e⟩ | ⟨x, hx, e⟩
            · rcases List.mem_cons.1 hx with rfl | hx
              · omega
              · have := (List.pairwise_cons.1 h1).1 x hx; omega
            · have := (List.pairwise_cons.1 h2).1 x hx; omega
          rw [at_cons, if_neg (by omega)]; exact b
termination_by ps qs => ps.length + qs.length
theorem zipm_rise (D E : Int) : ∀ {ps qs : List (Nat × Int)}, Rise ps → Rise qs → (zipm D E ps qs).Pairwise (fun s t => s.1 < t.1)
  | [], [], _, _ => by rw [zipm_nn]; exact List.Pairwise.nil
  | p :: ps, [], h1, h2 => by
      rw [zipm_cn]
      refine List.pairwise_cons.2 ⟨fun t ht => ?_, zipm_rise D E (List.pairwise_cons.1 h1).2 h2⟩
      rcases (zipm_cats D E ps [] t.1).1 ⟨t, ht, rfl⟩ with ⟨x, hx, e⟩ | ⟨x, hx, e⟩
      · have := (List.pairwise_cons.1 h1).1 x hx; show p.1 < t.1; omega
      · simp at hx
  | [], q :: qs, h1, h2 => by
      rw [zipm_nc]
      refine List.pairwise_cons.2 ⟨fun t ht => ?_, zipm_rise D E h1 (List.pairwise_cons.1 h2).2⟩
      rcases (zipm_cats D E [] qs t.1).1 ⟨t, ht, rfl⟩ with ⟨x, hx, e⟩ | ⟨x, hx, e⟩
      · simp at hx
      · have := (List.pairwise_cons.1 h2).1 x hx; show q.1 < t.1; omega
  | p :: ps, q :: qs, h1, h2 => by
      rcases Nat.lt_trichotomy p.1 q.1 with h | h | h
      · rw [zipm_lt D E ps qs h]
        refine List.pairwise_cons.2 ⟨fun t ht => ?_, zipm_rise D E (List.pairwise_cons.1 h1).2 h2⟩
        show p.1 < t.1
        rcases (zipm_cats D E ps (q :: qs) t.1).1 ⟨t, ht, rfl⟩ with ⟨x, hx, e⟩ | ⟨x, hx, e⟩
        · have := (List.pairwise_cons.1 h1).1 x hx; omega
        · rcases List.mem_cons.1 hx with rfl | hx
          · omega
          · have := (List.pairwise_cons.1 h2).1 x hx; omega
      · rw [zipm_eq D E ps qs h]
        refine List.pairwise_cons.2 ⟨fun t ht => ?_, zipm_rise D E (List.pairwise_cons.1 h1).2 (List.pairwise_cons.1 h2).2⟩
        show p.1 < t.1
        rcases (zipm_cats D E ps qs t.1).1 ⟨t, ht, rfl⟩ with ⟨x, hx, e⟩ | ⟨x, hx, e⟩
        · have := (List.pairwise_cons.1 h1).1 x hx; omega
        · have := (List.pairwise_cons.1 h2).1 x hx; omega
      · rw [zipm_gt D E ps qs h]
        refine List.pairwise_cons.2 ⟨fun t ht => ?_, zipm_rise D E h1 (List.pairwise_cons.1 h2).2⟩
        show q.1 < t.1
        rcases (zipm_cats D E (p :: ps) qs t.1).1 ⟨t, ht, rfl⟩ with ⟨x, hx, e⟩ | ⟨x, hx, e⟩
        · rcases List.mem_cons.1 hx with rfl | hx
          · omega
          · have := (List.pairwise_cons.1 h1).1 x hx; omega
        · have := (List.pairwise_cons.1 h2).1 x hx; omega
termination_by ps qs => ps.length + qs.length

/-- The pairs that are made of both levels. -/
def mk (f : Int → Int → Int) (M : Int) (z : List (Nat × Int × Int)) : List (Nat × Int) := (z.filter (fun t => f t.2.1 t.2.2 != M)).map (fun t => (t.1, f t.2.1 t.2.2))
theorem mk_snoc_hit {f : Int → Int → Int} {M : Int} {z : List (Nat × Int × Int)} {t : Nat × Int × Int} (h : f t.2.1 t.2.2 ≠ M) : mk f M (z ++ [t]) = mk f M z ++ [(t.1, f t.2.1 t.2.2)] := by simp [mk, h]
theorem mk_snoc_miss {f : Int → Int → Int} {M : Int} {z : List (Nat × Int × Int)} {t : Nat × Int × Int} (h : f t.2.1 t.2.2 = M) : mk f M (z ++ [t]) = mk f M z := by simp [mk, h]
theorem mk_len (f : Int → Int → Int) (M : Int) (z : List (Nat × Int × Int)) : (mk f M z).length ≤ z.length := by
  unfold mk; rw [List.length_map]; exact List.length_filter_le _ _
theorem mem_mk {f : Int → Int → Int} {M : Int} {z : List (Nat × Int × Int)} {p : Nat × Int} (h : p ∈ mk f M z) : ∃ t ∈ z, p = (t.1, f t.2.1 t.2.2) ∧ f t.2.1 t.2.2 ≠ M := by
  unfold mk at h
  obtain ⟨t, ht, rfl⟩ := List.mem_map.1 h
  obtain ⟨h1, h2⟩ := List.mem_filter.1 ht
  exact ⟨t, h1, rfl, by simpa using h2⟩
theorem mk_ok {f : Int → Int → Int} {D E : Int} {ps qs : List (Nat × Int)} (h1 : Ok D ps) (h2 : Ok E qs) (M : Int) : Ok M (mk f M (zipm D E ps qs)) := by
  refine ⟨?_, fun p hp => ?_, fun p hp => ?_⟩
  · unfold mk Rise
    rw [List.pairwise_map]
    exact List.Pairwise.filter _ (zipm_rise D E h1.1 h2.1)
  · obtain ⟨t, ht, rfl, _⟩ := mem_mk hp
    rcases (zipm_cats D E ps qs t.1).1 ⟨t, ht, rfl⟩ with ⟨x, hx, e⟩ | ⟨x, hx, e⟩
    · have := h1.2.1 x hx; show 1 ≤ t.1 ∧ t.1 < 4294967296; omega
    · have := h2.2.1 x hx; show 1 ≤ t.1 ∧ t.1 < 4294967296; omega
  · obtain ⟨t, ht, rfl, h⟩ := mem_mk hp
    exact h
theorem mk_at {f : Int → Int → Int} {D E : Int} {ps qs : List (Nat × Int)} (h1 : Ok D ps) (h2 : Ok E qs) (c : Nat) :
    at' (f D E) (mk f (f D E) (zipm D E ps qs)) c = f (at' D ps c) (at' E qs c) := by
  by_cases hc : ∃ t ∈ zipm D E ps qs, t.1 = c
  · obtain ⟨t, ht, rfl⟩ := hc
    obtain ⟨a, b⟩ := zipm_at D E h1.1 h2.1 t ht
    rw [← a, ← b]
    by_cases hf : f t.2.1 t.2.2 = f D E
    · rw [hf]
      refine at_out fun p hp e => ?_
      obtain ⟨s, hs, rfl, hn⟩ := mem_mk hp
      obtain ⟨a', b'⟩ := zipm_at D E h1.1 h2.1 s hs
      simp only at e
      rw [e, ← a] at a'
      rw [e, ← b] at b'
      rw [a', b'] at hn
      exact hn hf
    · have hm : (t.1, f t.2.1 t.2.2) ∈ mk f (f D E) (zipm D E ps qs) := by
        unfold mk
        exact List.mem_map.2 ⟨t, List.mem_filter.2 ⟨ht, by simpa using hf⟩, rfl⟩
      exact at_mem (mk_ok h1 h2 _).1 hm
  · have hn := fun h => hc ((zipm_cats D E ps qs c).2 h)
    rw [at_out (ps := ps) fun p hp e => hn (.inl ⟨p, hp, e⟩), at_out (ps := qs) fun p hp e => hn (.inr ⟨p, hp, e⟩)]
    refine at_out fun p hp e => ?_
    obtain ⟨s, hs, rfl, _⟩ := mem_mk hp
    exact hc ⟨s, hs, e⟩
/-- Is each level at most the other's: over those that either names. -/
theorem leq_zip {D E : Int} {ps qs : List (Nat × Int)} (h1 : Ok D ps) (h2 : Ok E qs) :
    (D ≤ E ∧ ∀ t ∈ zipm D E ps qs, t.2.1 ≤ t.2.2) ↔ ∀ c, at' D ps c ≤ at' E qs c := by
  constructor
  · rintro ⟨hd, hz⟩ c
    by_cases hc : ∃ t ∈ zipm D E ps qs, t.1 = c
    · obtain ⟨t, ht, rfl⟩ := hc
      obtain ⟨a, b⟩ := zipm_at D E h1.1 h2.1 t ht
      rw [← a, ← b]; exact hz t ht
    · have hn := fun h => hc ((zipm_cats D E ps qs c).2 h)
      rw [at_out (ps := ps) fun p hp e => hn (.inl ⟨p, hp, e⟩), at_out (ps := qs) fun p hp e => hn (.inr ⟨p, hp, e⟩)]
      exact hd
  · intro h
    refine ⟨?_, fun t ht => ?_⟩
    · have := h 0
      rwa [at_zero h1, at_zero h2] at this
    · obtain ⟨a, b⟩ := zipm_at D E h1.1 h2.1 t ht
      rw [a, b]; exact h t.1
end Lab
