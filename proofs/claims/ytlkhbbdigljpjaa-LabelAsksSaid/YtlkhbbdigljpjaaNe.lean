import Derived.Test.YtlkhbbdigljpjaaNd
/- What the document's answers make of labels that may be is what going over both makes. -/
namespace Lab
set_option linter.unusedVariables false
set_option linter.unusedSimpArgs false

def jn (D : Int) (ps : List (Nat × Int)) (E : Int) (qs : List (Nat × Int)) : List (Nat × Int) := mk (fun x y => max x y) (max D E) (zipm D E ps qs)
def mt (D : Int) (ps : List (Nat × Int)) (E : Int) (qs : List (Nat × Int)) : List (Nat × Int) := mk (fun x y => min x y) (min D E) (zipm D E ps qs)
def tn (a b D : Int) (ps : List (Nat × Int)) : List (Nat × Int) := mk (fun x _ => turn a b x) (turn a b D) (zipm D D ps ps)
theorem jn_ok {D E : Int} {ps qs : List (Nat × Int)} (h1 : Ok D ps) (h2 : Ok E qs) : Ok (max D E) (jn D ps E qs) := mk_ok h1 h2 _
theorem mt_ok {D E : Int} {ps qs : List (Nat × Int)} (h1 : Ok D ps) (h2 : Ok E qs) : Ok (min D E) (mt D ps E qs) := mk_ok h1 h2 _
theorem tn_ok {a b D : Int} {ps : List (Nat × Int)} (h1 : Ok D ps) : Ok (turn a b D) (tn a b D ps) := mk_ok h1 h1 _
theorem jn_at {D E : Int} {ps qs : List (Nat × Int)} (h1 : Ok D ps) (h2 : Ok E qs) (c : Nat) : at' (max D E) (jn D ps E qs) c = max (at' D ps c) (at' E qs c) := mk_at (f := fun x y => max x y) h1 h2 c
theorem mt_at {D E : Int} {ps qs : List (Nat × Int)} (h1 : Ok D ps) (h2 : Ok E qs) (c : Nat) : at' (min D E) (mt D ps E qs) c = min (at' D ps c) (at' E qs c) := mk_at (f := fun x y => min x y) h1 h2 c
theorem tn_at {a b D : Int} {ps : List (Nat × Int)} (h1 : Ok D ps) (c : Nat) : at' (turn a b D) (tn a b D ps) c = turn a b (at' D ps c) := mk_at (f := fun x _ => turn a b x) h1 h1 c
theorem mk_length (f : Int → Int → Int) (M D E : Int) (ps qs : List (Nat × Int)) : (mk f M (zipm D E ps qs)).length ≤ ps.length + qs.length := Nat.le_trans (mk_len _ _ _) (zipm_len _ _ _ _)
theorem jn_len (D : Int) (ps : List (Nat × Int)) (E : Int) (qs : List (Nat × Int)) : (jn D ps E qs).length ≤ ps.length + qs.length := mk_length _ _ _ _ _ _
theorem mt_len (D : Int) (ps : List (Nat × Int)) (E : Int) (qs : List (Nat × Int)) : (mt D ps E qs).length ≤ ps.length + qs.length := mk_length _ _ _ _ _ _
theorem tn_len (a b D : Int) (ps : List (Nat × Int)) : (tn a b D ps).length ≤ ps.length + ps.length := mk_length _ _ _ _ _ _
theorem zipm_map {D E : Int} {ps qs : List (Nat × Int)} {cs : List Nat} (h1 : Rise ps) (h2 : Rise qs) (hc : cs.Pairwise (· < ·)) (hm : ∀ c, c ∈ cs ↔ (∃ p ∈ ps, p.1 = c) ∨ ∃ q ∈ qs, q.1 = c) :
    zipm D E ps qs = cs.map (fun c => (c, at' D ps c, at' E qs c)) := by
  have e : (zipm D E ps qs).map (·.1) = cs := by
    refine rising_ext ?_ hc fun c => ?_
    · rw [List.pairwise_map]; exact zipm_rise D E h1 h2
    · rw [hm c, ← zipm_cats D E ps qs c, List.mem_map]
  rw [← e, List.map_map]
  conv => lhs; rw [← List.map_id (zipm D E ps qs)]
  refine List.map_congr_left fun t ht => ?_
  obtain ⟨a, b⟩ := zipm_at D E h1 h2 t ht
  obtain ⟨c, x, y⟩ := t
  simp only at a b
  simp [a, b]
theorem make_mk (f : Int → Int → Int) (M : Int) {D E : Int} {ps qs : List (Nat × Int)} {cs : List Nat} (h1 : Rise ps) (h2 : Rise qs) (hc : cs.Pairwise (· < ·)) (hm : ∀ c, c ∈ cs ↔ (∃ p ∈ ps, p.1 = c) ∨ ∃ q ∈ qs, q.1 = c) :
    make M cs (cs.map fun c => f (at' D ps c) (at' E qs c)) = mk f M (zipm D E ps qs) := by
  rw [zipm_map h1 h2 hc hm]
  unfold make mk
  clear hc hm
  induction cs with
  | nil => rfl
  | cons c r ih =>
    simp only [List.map_cons, List.zip_cons_cons]
    by_cases h : f (at' D ps c) (at' E qs c) = M
    · rw [List.filter_cons_of_neg (by simpa using h), List.filter_cons_of_neg (by simpa using h)]; exact ih
    · rw [List.filter_cons_of_pos (by simpa using h), List.filter_cons_of_pos (by simpa using h), List.map_cons, ih]
theorem catsOf_both {ps qs : List (Nat × Int)} {cs : List Nat} (h : CatsOf ((ps ++ qs).map (·.1)) cs) (c : Nat) : c ∈ cs ↔ (∃ p ∈ ps, p.1 = c) ∨ ∃ q ∈ qs, q.1 = c := by
  rw [h.2.1 c]; simp only [List.map_append, List.mem_append, List.mem_map]
theorem catsOf_one {ps : List (Nat × Int)} {cs : List Nat} (h : CatsOf (ps.map (·.1)) cs) (c : Nat) : c ∈ cs ↔ (∃ p ∈ ps, p.1 = c) ∨ ∃ q ∈ ps, q.1 = c := by
  rw [h.2.1 c]; simp only [List.mem_map, or_self]
theorem one_max (x y : Int) : one true x y = max x y := by unfold one; by_cases h : y < x <;> simp [h] <;> omega
theorem one_min (x y : Int) : one false x y = min x y := by unfold one; by_cases h : y < x <;> simp [h] <;> omega
theorem merge_jn {D E : Int} {ps qs : List (Nat × Int)} {cs : List Nat} (h1 : Ok D ps) (h2 : Ok E qs) (h : CatsOf ((ps ++ qs).map (·.1)) cs) :
    make (one true D E) cs (cs.map fun c => one true (at' D ps c) (at' E qs c)) = jn D ps E qs := by
  simp only [one_max]
  exact make_mk (fun x y => max x y) _ h1.1 h2.1 h.1 (catsOf_both h)
theorem merge_mt {D E : Int} {ps qs : List (Nat × Int)} {cs : List Nat} (h1 : Ok D ps) (h2 : Ok E qs) (h : CatsOf ((ps ++ qs).map (·.1)) cs) :
    make (one false D E) cs (cs.map fun c => one false (at' D ps c) (at' E qs c)) = mt D ps E qs := by
  simp only [one_min]
  exact make_mk (fun x y => min x y) _ h1.1 h2.1 h.1 (catsOf_both h)
theorem turn_tn {a b D : Int} {ps : List (Nat × Int)} {cs : List Nat} (h1 : Ok D ps) (h : CatsOf (ps.map (·.1)) cs) :
    make (turn a b D) cs (cs.map fun c => turn a b (at' D ps c)) = tn a b D ps := make_mk (fun x _ => turn a b x) _ h1.1 h1.1 h.1 (catsOf_one h)
theorem make_ok {D : Int} {cs : List Nat} {f : Nat → Int} (hc : cs.Pairwise (· < ·)) (hp : ∀ c ∈ cs, 1 ≤ c ∧ c < 4294967296) : Ok D (make D cs (cs.map f)) := by
  have hz : cs.zip (cs.map f) = cs.map (fun c => (c, f c)) := by
    clear hc hp; induction cs with
    | nil => rfl
    | cons c r ih => simp [ih]
  unfold make
  rw [hz]
  refine ⟨?_, fun p h => ?_, fun p h => ?_⟩
  · unfold Rise; refine List.Pairwise.filter _ ?_; rw [List.pairwise_map]; exact hc
  · obtain ⟨c, hcm, rfl⟩ := List.mem_map.1 (List.mem_filter.1 h).1; exact hp c hcm
  · simpa using (List.mem_filter.1 h).2
theorem make_at {D : Int} {cs : List Nat} {f : Nat → Int} (hc : cs.Pairwise (· < ·)) (hp : ∀ c ∈ cs, 1 ≤ c ∧ c < 4294967296) (x : Nat) : at' D (make D cs (cs.map f)) x = if x ∈ cs then f x else D := by
  have hz : cs.zip (cs.map f) = cs.map (fun c => (c, f c)) := by
    clear hc hp; induction cs with
    | nil => rfl
    | cons c r ih => simp [ih]
  have hok := make_ok (D := D) (f := f) hc hp
  split
  · next h =>
    by_cases he : f x = D
    · rw [he]
      refine at_out fun p hp' e => ?_
      have hp2 := hp'
      unfold make at hp2
      rw [hz] at hp2
      obtain ⟨c, _, rfl⟩ := List.mem_map.1 (List.mem_filter.1 hp2).1
      simp only at e
      exact hok.2.2 _ hp' (by simp only; rw [e, he])
    · have hm : (x, f x) ∈ make D cs (cs.map f) := by
        unfold make; rw [hz]
        exact List.mem_filter.2 ⟨List.mem_map.2 ⟨x, h, rfl⟩, by simpa using he⟩
      exact at_mem hok.1 hm
  · next h =>
    refine at_out fun p hp' e => h ?_
    unfold make at hp'
    rw [hz] at hp'
    obtain ⟨c, hcm, rfl⟩ := List.mem_map.1 (List.mem_filter.1 hp').1
    simp only at e
    rw [← e]; exact hcm
theorem with_put {D l : Int} {ps : List (Nat × Int)} {c0 : Nat} {cs : List Nat} (h1 : Ok D ps) (hc1 : 1 ≤ c0) (hc2 : c0 < 4294967296) (h : CatsOf ((ps ++ [(c0, (0 : Int))]).map (·.1)) cs) :
    make D cs (cs.map fun c => if c = c0 then l else at' D ps c) = put D ps c0 l := by
  have hm : ∀ c, c ∈ cs ↔ (∃ p ∈ ps, p.1 = c) ∨ c = c0 := fun c => by rw [h.2.1 c]; simp [eq_comm]
  have hp : ∀ c ∈ cs, 1 ≤ c ∧ c < 4294967296 := fun c hc => by
    rcases (hm c).1 hc with ⟨p, hp, rfl⟩ | rfl
    · exact h1.2.1 p hp
    · exact ⟨hc1, hc2⟩
  refine ok_ext (make_ok h.1 hp) (put_ok h1 hc1 hc2) fun x => ?_
  rw [make_at h.1 hp, put_at]
  by_cases hx : x ∈ cs
  · rw [if_pos hx]
  · have hn := fun e => hx ((hm x).2 e)
    rw [if_neg hx, if_neg (fun e => hn (.inr e)), at_out fun p hp' e => hn (.inl ⟨p, hp', e⟩)]
theorem leq_is {D E : Int} {ps qs : List (Nat × Int)} {cs : List Nat} (h1 : Ok D ps) (h2 : Ok E qs) (h : CatsOf ((ps ++ qs).map (·.1)) cs) : leq cs D ps E qs = true ↔ ∀ c, at' D ps c ≤ at' E qs c := by
  unfold leq
  rw [Bool.and_eq_true, decide_eq_true_iff, List.all_eq_true]
  simp only [decide_eq_true_iff]
  constructor
  · rintro ⟨h3, h4⟩ c
    by_cases hc : c ∈ cs
    · exact h3 c hc
    · have hn := fun e => hc ((catsOf_both h c).2 e)
      rw [at_out (ps := ps) fun p hp e => hn (.inl ⟨p, hp, e⟩), at_out (ps := qs) fun p hp e => hn (.inr ⟨p, hp, e⟩)]
      exact h4
  · intro h3
    refine ⟨fun c _ => h3 c, ?_⟩
    have := h3 0
    rwa [at_zero h1, at_zero h2] at this
end Lab
