/- Labels as lists: what the document's answer makes of them. -/

namespace Lab
set_option linter.unusedVariables false
set_option linter.unusedSimpArgs false

theorem take_snoc_eq {ps qs : List (Nat × Int)} {k : Nat} {p : Nat × Int} (h : ps.take k = qs.take k) (hp : ps[k]? = some p) (hq : qs[k]? = some p) : ps.take (k + 1) = qs.take (k + 1) := by
  rw [List.take_add_one, List.take_add_one, h, hp, hq]
theorem ne_at {ps qs : List (Nat × Int)} {k : Nat} {p q : Nat × Int} (hp : ps[k]? = some p) (hq : qs[k]? = some q) (h : p ≠ q) : ¬ ps = qs := by
  intro e; rw [e, hq] at hp; exact h (Option.some.inj hp).symm
theorem take_all {ps qs : List (Nat × Int)} {k : Nat} (h : ps.take k = qs.take k) (h1 : ps.length ≤ k) (h2 : qs.length ≤ k) : ps = qs := by
  rw [List.take_of_length_le h1, List.take_of_length_le h2] at h; exact h
end Lab
-- with Nb
namespace Lab
set_option linter.unusedVariables false
set_option linter.unusedSimpArgs false

/-- The greater of two levels, or the lesser. -/
def one (j : Bool) (x y : Int) : Int := if decide (y < x) = j then x else y
/-- The pairs of a label that is made of levels. -/
def make (D : Int) (cs : List Nat) (ls : List Int) : List (Nat × Int) := (cs.zip ls).filter (fun p => p.2 != D)
/-- A level put for another one. -/
def turn (f t x : Int) : Int := if x = f then t else x
end Lab
-- with Nc
namespace Lab
set_option linter.unusedVariables false
set_option linter.unusedSimpArgs false

/-- The categories rise. -/
def Rise (ps : List (Nat × Int)) : Prop := ps.Pairwise (fun p q => p.1 < q.1)
/-- A label that may be, as the calls make them. -/
def Ok (D : Int) (ps : List (Nat × Int)) : Prop := Rise ps ∧ (∀ p ∈ ps, 1 ≤ p.1 ∧ p.1 < 4294967296) ∧ ∀ p ∈ ps, p.2 ≠ D
/-- Two labels side by side: each category that either names, with both levels. -/
def zipm (D E : Int) : List (Nat × Int) → List (Nat × Int) → List (Nat × Int × Int)
  | [], [] => []
  | p :: ps, [] => (p.1, p.2, E) :: zipm D E ps []
  | [], q :: qs => (q.1, D, q.2) :: zipm D E [] qs
  | p :: ps, q :: qs => if p.1 < q.1 then (p.1, p.2, E) :: zipm D E ps (q :: qs) else if q.1 < p.1 then (q.1, D, q.2) :: zipm D E (p :: ps) qs else (p.1, p.2, q.2) :: zipm D E ps qs
termination_by ps qs => ps.length + qs.length
theorem zipm_nn (D E : Int) : zipm D E [] [] = [] := by rw [zipm]
theorem zipm_cn (D E : Int) (p : Nat × Int) (ps : List (Nat × Int)) : zipm D E (p :: ps) [] = (p.1, p.2, E) :: zipm D E ps [] := by rw [zipm]
theorem zipm_nc (D E : Int) (q : Nat × Int) (qs : List (Nat × Int)) : zipm D E [] (q :: qs) = (q.1, D, q.2) :: zipm D E [] qs := by rw [zipm]
theorem zipm_lt (D E : Int) {p q : Nat × Int} (ps qs : List (Nat × Int)) (h : p.1 < q.1) : zipm D E (p :: ps) (q :: qs) = (p.1, p.2, E) :: zipm D E ps (q :: qs) := by rw [zipm, if_pos h]
theorem zipm_gt (D E : Int) {p q : Nat × Int} (ps qs : List (Nat × Int)) (h : q.1 < p.1) : zipm D E (p :: ps) (q :: qs) = (q.1, D, q.2) :: zipm D E (p :: ps) qs := by rw [zipm, if_neg (by omega), if_pos h]
theorem zipm_eq (D E : Int) {p q : Nat × Int} (ps qs : List (Nat × Int)) (h : p.1 = q.1) : zipm D E (p :: ps) (q :: qs) = (p.1, p.2, q.2) :: zipm D E ps qs := by rw [zipm, if_neg (by omega), if_neg (by omega)]
theorem zipm_len (D E : Int) : ∀ ps qs : List (Nat × Int), (zipm D E ps qs).length ≤ ps.length + qs.length
  | [], [] => by rw [zipm_nn]; simp
  | p :: ps, [] => by rw [zipm_cn]; have := zipm_len D E ps []; simp at this ⊢; omega
  | [], q :: qs => by rw [zipm_nc]; have := zipm_len D E [] qs; simp at this ⊢; omega
  | p :: ps, q :: qs => by
      rcases Nat.lt_trichotomy p.1 q.1 with h | h | h
      · rw [zipm_lt D E ps qs h]; have := zipm_len D E ps (q :: qs); simp at this ⊢; omega
      · rw [zipm_eq D E ps qs h]; have := zipm_len D E ps qs; simp at this ⊢; omega
      · rw [zipm_gt D E ps qs h]; have := zipm_len D E (p :: ps) qs; simp at this ⊢; omega
termination_by ps qs => ps.length + qs.length
theorem ex_cons {α : Type} (P : α → Prop) (a : α) (l : List α) : (∃ x, x ∈ a :: l ∧ P x) ↔ P a ∨ ∃ x, x ∈ l ∧ P x := by
  constructor
  · rintro ⟨x, hx, h⟩
    rcases List.mem_cons.1 hx with rfl | hx
    · exact .inl h
    · exact .inr ⟨x, hx, h⟩
  · rintro (h | ⟨x, hx, h⟩)
    · exact ⟨a, by simp, h⟩
    · exact ⟨x, by simp [hx], h⟩
theorem zipm_cats (D E : Int) : ∀ (ps qs : List (Nat × Int)) (c : Nat), (∃ t ∈ zipm D E ps qs, t.1 = c) ↔ (∃ p ∈ ps, p.1 = c) ∨ (∃ q ∈ qs, q.1 = c)
  | [], [], c => by rw [zipm_nn]; simp
  | p :: ps, [], c => by
      rw [zipm_cn]; have := zipm_cats D E ps [] c
      simp only [ex_cons, this]; simp
  | [], q :: qs, c => by
      rw [zipm_nc]; have := zipm_cats D E [] qs c
      simp only [ex_cons, this]; simp
  | p :: ps, q :: qs, c => by
      rcases Nat.lt_trichotomy p.1 q.1 with h | h | h
      · rw [zipm_lt D E ps qs h]; have := zipm_cats D E ps (q :: qs) c
        simp only [ex_cons, this]
        constructor
        · rintro (h | h | h | h) <;> simp [h]
        · rintro ((h | h) | h | h) <;> simp [h]
      · rw [zipm_eq D E ps qs h]; have := zipm_cats D E ps qs c
        simp only [ex_cons, this]
        constructor
        · rintro (h | h | h) <;> simp [h]
        · rintro ((h1 | h1) | h1 | h1) <;> first | (simp [h1]; done) | (left; omega)
      · rw [zipm_gt D E ps qs h]; have := zipm_cats D E (p :: ps) qs c
        simp only [ex_cons, this]
        constructor
        · rintro (h | (h | h) | h) <;> simp [h]
        · rintro ((h | h) | h | h) <;> simp [h]
termination_by ps qs => ps.length + qs.length
theorem zipm_rise (D E : Int) : ∀ {ps qs : List (Nat × Int)}, Rise ps → Rise qs → (zipm D E ps qs).Pairwise (fun s t => s.1 < t.1)
  | [], [], _, _ => by rw [zipm_nn]; exact List.Pairwise.nil
  | p :: ps, [], h1, h2 => by
      rw [zipm_cn]
      refine List.pairwise_cons.2 ⟨fun t ht => ?_, zipm_rise D E (List.pairwise_cons.1 h1).2 h2⟩
      rcases (zipm_cats D E ps [] t.1).1 ⟨t, ht, rfl⟩ with ⟨x, hx, e⟩ | ⟨x, hx, e⟩
      · have := (List.pairwise_cons.1 h1).1 x hx; show p.1 < t.1; omega
      · simp at hx
  | [], q :: qs, h1, h2 => by
      rw [zipm_nc]
      refine List.pairwise_cons.2 ⟨fun t ht => ?_, zipm_rise D E h1 (List.pairwise_cons.1 h2).2⟩
      rcases (zipm_cats D E [] qs t.1).1 ⟨t, ht, rfl⟩ with ⟨x, hx, e⟩ | ⟨x, hx, e⟩
      · simp at hx
      · have := (List.pairwise_cons.1 h2).1 x hx; show q.1 < t.1; omega
  | p :: ps, q :: qs, h1, h2 => by
      rcases Nat.lt_trichotomy p.1 q.1 with h | h | h
      · rw [zipm_lt D E ps qs h]
        refine List.pairwise_cons.2 ⟨fun t ht => ?_, zipm_rise D E (List.pairwise_cons.1 h1).2 h2⟩
        show p.1 < t.1
        rcases (zipm_cats D E ps (q :: qs) t.1).1 ⟨t, ht, rfl⟩ with ⟨x, hx, e⟩ | ⟨x, hx, e⟩
        · have := (List.pairwise_cons.1 h1).1 x hx; omega
        · rcases List.mem_cons.1 hx with rfl | hx
          · omega
          · have := (List.pairwise_cons.1 h2).1 x hx; omega
      · rw [zipm_eq D E ps qs h]
        refine List.pairwise_cons.2 ⟨fun t ht => ?_, zipm_rise D E (List.pairwise_cons.1 h1).2 (List.pairwise_cons.1 h2).2⟩
        show p.1 < t.1
        rcases (zipm_cats D E ps qs t.1).1 ⟨t, ht, rfl⟩ with ⟨x, hx, e⟩ | ⟨x, hx, e⟩
        · have := (List.pairwise_cons.1 h1).1 x hx; omega
        · have := (List.pairwise_cons.1 h2).1 x hx; omega
      · rw [zipm_gt D E ps qs h]
        refine List.pairwise_cons.2 ⟨fun t ht => ?_, zipm_rise D E h1 (List.pairwise_cons.1 h2).2⟩
        show q.1 < t.1
        rcases (zipm_cats D E (p :: ps) qs t.1).1 ⟨t, ht, rfl⟩ with ⟨x, hx, e⟩ | ⟨x, hx, e⟩
        · rcases List.mem_cons.1 hx with rfl | hx
          · omega
          · have := (List.pairwise_cons.1 h1).1 x hx; omega
        · have := (List.pairwise_cons.1 h2).1 x hx; omega
termination_by ps qs => ps.length + qs.length
/-- The pairs that are made of both levels. -/
def mk (f : Int → Int → Int) (M : Int) (z : List (Nat × Int × Int)) : List (Nat × Int) := (z.filter (fun t => f t.2.1 t.2.2 != M)).map (fun t => (t.1, f t.2.1 t.2.2))
theorem mk_snoc_hit {f : Int → Int → Int} {M : Int} {z : List (Nat × Int × Int)} {t : Nat × Int × Int} (h : f t.2.1 t.2.2 ≠ M) : mk f M (z ++ [t]) = mk f M z ++ [(t.1, f t.2.1 t.2.2)] := by simp [mk, h]
theorem mk_snoc_miss {f : Int → Int → Int} {M : Int} {z : List (Nat × Int × Int)} {t : Nat × Int × Int} (h : f t.2.1 t.2.2 = M) : mk f M (z ++ [t]) = mk f M z := by simp [mk, h]
theorem mk_len (f : Int → Int → Int) (M : Int) (z : List (Nat × Int × Int)) : (mk f M z).length ≤ z.length := by
  unfold mk; rw [List.length_map]; exact List.length_filter_le _ _
theorem mem_mk {f : Int → Int → Int} {M : Int} {z : List (Nat × Int × Int)} {p : Nat × Int} (h : p ∈ mk f M z) : ∃ t ∈ z, p = (t.1, f t.2.1 t.2.2) ∧ f t.2.1 t.2.2 ≠ M := by
  unfold mk at h
  obtain ⟨t, ht, rfl⟩ := List.mem_map.1 h
  obtain ⟨h1, h2⟩ := List.mem_filter.1 ht
  exact ⟨t, h1, rfl, by simpa using h2⟩
theorem mk_ok {f : Int → Int → Int} {D E : Int} {ps qs : List (Nat × Int)} (h1 : Ok D ps) (h2 : Ok E qs) (M : Int) : Ok M (mk f M (zipm D E ps qs)) := by
  refine ⟨?_, fun p hp => ?_, fun p hp => ?_⟩
  · unfold mk Rise
    rw [List.pairwise_map]
    exact List.Pairwise.filter _ (zipm_rise D E h1.1 h2.1)
  · obtain ⟨t, ht, rfl, _⟩ := mem_mk hp
    rcases (zipm_cats D E ps qs t.1).1 ⟨t, ht, rfl⟩ with ⟨x, hx, e⟩ | ⟨x, hx, e⟩
    · have := h1.2.1 x hx; show 1 ≤ t.1 ∧ t.1 < 4294967296; omega
    · have := h2.2.1 x hx; show 1 ≤ t.1 ∧ t.1 < 4294967296; omega
  · obtain ⟨t, ht, rfl, h⟩ := mem_mk hp
    exact h
end Lab
