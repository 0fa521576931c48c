/- Labels as lists: what the document's answer makes of them. -/

namespace Lab
set_option linter.unusedVariables false
set_option linter.unusedSimpArgs false

/-- A category's level. -/
def at' (D : Int) : List (Nat × Int) → Nat → Int
  | [], _ => D
  | p :: r, c => if p.1 = c then p.2 else at' D r c
theorem at_drop_hit {D : Int} {ps : List (Nat × Int)} {c k : Nat} {p : Nat × Int} (h : ps[k]? = some p) (e : p.1 = c) : at' D (ps.drop k) c = p.2 := by
  obtain ⟨hk, hp⟩ := List.getElem?_eq_some_iff.1 h
  rw [List.drop_eq_getElem_cons hk, hp]
  unfold at'; rw [if_pos e]
theorem at_drop_miss {D : Int} {ps : List (Nat × Int)} {c k : Nat} {p : Nat × Int} (h : ps[k]? = some p) (e : p.1 ≠ c) : at' D (ps.drop k) c = at' D (ps.drop (k + 1)) c := by
  obtain ⟨hk, hp⟩ := List.getElem?_eq_some_iff.1 h
  rw [List.drop_eq_getElem_cons hk, hp]
  conv => lhs; unfold at'
  rw [if_neg e]
theorem at_drop_end {D : Int} {ps : List (Nat × Int)} {c k : Nat} (h : ps.length ≤ k) : at' D (ps.drop k) c = D := by
  rw [List.drop_eq_nil_of_le h]; rfl
theorem take_snoc_eq {ps qs : List (Nat × Int)} {k : Nat} {p : Nat × Int} (h : ps.take k = qs.take k) (hp : ps[k]? = some p) (hq : qs[k]? = some p) : ps.take (k + 1) = qs.take (k + 1) := by
  rw [List.take_add_one, List.take_add_one, h, hp, hq]
theorem ne_at {ps qs : List (Nat × Int)} {k : Nat} {p q : Nat × Int} (hp : ps[k]? = some p) (hq : qs[k]? = some q) (h : p ≠ q) : ¬ ps = qs := by
  intro e; rw [e, hq] at hp; exact h (Option.some.inj hp).symm
theorem take_all {ps qs : List (Nat × Int)} {k : Nat} (h : ps.take k = qs.take k) (h1 : ps.length ≤ k) (h2 : qs.length ≤ k) : ps = qs := by
  rw [List.take_of_length_le h1, List.take_of_length_le h2] at h; exact h
/-- The categories that are owned. -/
def owns (ps : List (Nat × Int)) : List Nat := (ps.filter (fun p => p.2 == 0)).map (·.1)
theorem owns_hit {ps : List (Nat × Int)} {k : Nat} {p : Nat × Int} (hp : ps[k]? = some p) (h : p.2 = 0) : owns (ps.take (k + 1)) = owns (ps.take k) ++ [p.1] := by
  unfold owns; rw [List.take_add_one, hp, List.filter_append, List.map_append]; simp [h]
theorem owns_miss {ps : List (Nat × Int)} {k : Nat} {p : Nat × Int} (hp : ps[k]? = some p) (h : p.2 ≠ 0) : owns (ps.take (k + 1)) = owns (ps.take k) := by
  unfold owns; rw [List.take_add_one, hp, List.filter_append, List.map_append]; simp [h]
theorem owns_len (ps : List (Nat × Int)) (k : Nat) : (owns (ps.take k)).length ≤ k := by
  unfold owns; rw [List.length_map]; exact Nat.le_trans (List.length_filter_le _ _) (List.length_take_le _ _)
end Lab
-- with Nb
namespace Lab
set_option linter.unusedVariables false
set_option linter.unusedSimpArgs false

/-- One look at a category: the least so far above a bound. -/
def look (l b c : Nat) : Nat := if l < c ∧ (b = 0 ∨ c < b) then c else b
/-- The least category above a bound; 0: there is none. -/
def best (l : Nat) (xs : List Nat) : Nat := xs.foldl (look l) 0
theorem best_snoc {l : Nat} {xs : List Nat} {k c : Nat} (h : xs[k]? = some c) : best l (xs.take (k + 1)) = look l (best l (xs.take k)) c := by
  unfold best; rw [List.take_add_one, h, List.foldl_append]; rfl
def BestIs (l b : Nat) (xs : List Nat) : Prop := (b = 0 → ∀ c ∈ xs, c ≤ l) ∧ (b ≠ 0 → b ∈ xs ∧ l < b ∧ ∀ c ∈ xs, l < c → b ≤ c)
theorem bestIs_step {l b c : Nat} {xs : List Nat} (h : BestIs l b xs) : BestIs l (look l b c) (xs ++ [c]) := by
  obtain ⟨h1, h2⟩ := h
  unfold look
  split
  case isTrue hc =>
    refine ⟨fun e => by omega, fun _ => ⟨by simp, hc.1, fun d hd hl => ?_⟩⟩
    rcases List.mem_append.1 hd with hd | hd
    · by_cases hb : b = 0
      · have := h1 hb d hd; omega
      · have := (h2 hb).2.2 d hd hl; omega
    · simp at hd; omega
  case isFalse hc =>
    refine ⟨fun e d hd => ?_, fun e => ⟨by simp [(h2 e).1], (h2 e).2.1, fun d hd hl => ?_⟩⟩
    · rcases List.mem_append.1 hd with hd | hd
      · exact h1 e d hd
      · simp at hd; omega
    · rcases List.mem_append.1 hd with hd | hd
      · exact (h2 e).2.2 d hd hl
      · simp at hd; omega
theorem bestIs_fold {l : Nat} : ∀ (xs seen : List Nat) (b : Nat), BestIs l b seen → BestIs l (xs.foldl (look l) b) (seen ++ xs)
  | [], seen, b, h => by simpa using h
  | c :: r, seen, b, h => by
      have := bestIs_fold r (seen ++ [c]) _ (bestIs_step (c := c) h)
      simpa using this
theorem best_is (l : Nat) (xs : List Nat) : BestIs l (best l xs) xs := by
  have := bestIs_fold (l := l) xs [] 0 ⟨fun _ c hc => by simp at hc, fun h => by simp at h⟩
  simpa [best] using this
/-- The last of a list, or 0. -/
def last (cs : List Nat) : Nat := cs.getLastD 0
@[simp] theorem last_snoc (cs : List Nat) (c : Nat) : last (cs ++ [c]) = c := by unfold last; rw [List.getLastD_eq_getLast?]; simp
theorem last_get {cs : List Nat} (h : 0 < cs.length) : cs[cs.length - 1]? = some (last cs) := by
  unfold last
  rw [List.getLastD_eq_getLast?, ← List.getLast?_eq_getElem?]
  cases e : cs.getLast? with
  | none => rw [List.getLast?_eq_none_iff] at e; subst e; simp at h
  | some v => rfl
/-- How many are above a bound. -/
def above (l : Nat) (xs : List Nat) : Nat := (xs.filter (fun c => decide (l < c))).length
theorem above_le (l : Nat) (xs : List Nat) : above l xs ≤ xs.length := List.length_filter_le _ _
theorem above_mono {l l' : Nat} (h : l ≤ l') : ∀ xs : List Nat, above l' xs ≤ above l xs
  | [] => by simp [above]
  | c :: r => by
      have := above_mono h r
      unfold above at this ⊢
      simp only [List.filter_cons]
      repeat' split
      all_goals simp_all
      all_goals omega
theorem above_lt {l l' : Nat} (h : l < l') : ∀ xs : List Nat, l' ∈ xs → above l' xs + 1 ≤ above l xs
  | [], hm => by simp at hm
  | c :: r, hm => by
      rcases List.mem_cons.1 hm with rfl | hm
      · have := above_mono (Nat.le_of_lt h) r
        unfold above at this ⊢
        simp [List.filter_cons, h]; omega
      · have := above_lt h r hm
        unfold above at this ⊢
        simp only [List.filter_cons]
        repeat' split
        all_goals simp_all
        all_goals omega
/-- What has been gathered so far. -/
def Gathered (xs out : List Nat) : Prop :=
  out.Pairwise (· < ·) ∧ (∀ c ∈ out, c ∈ xs ∧ c ≤ last out) ∧ (∀ c ∈ xs, 1 ≤ c → c ≤ last out → c ∈ out) ∧ out.length + above (last out) xs ≤ xs.length
theorem gathered_nil (xs : List Nat) : Gathered xs [] := ⟨List.Pairwise.nil, by simp, fun c _ h1 h2 => by simp [last] at h2; omega, by simpa using above_le _ _⟩
theorem gathered_snoc {xs out : List Nat} (h : Gathered xs out) (hb : best (last out) xs ≠ 0) :
    Gathered xs (out ++ [best (last out) xs]) ∧ above (last (out ++ [best (last out) xs])) xs + 1 ≤ above (last out) xs := by
  obtain ⟨h1, h2, h3, h4⟩ := h
  obtain ⟨b1, b2, b3⟩ := (best_is (last out) xs).2 hb
  generalize best (last out) xs = b at *
  have ha := above_lt b2 xs b1
  refine ⟨⟨?_, ?_, ?_, ?_⟩, by rw [last_snoc]; exact ha⟩
  · rw [List.pairwise_append]
    refine ⟨h1, by simp, fun x hx y hy => ?_⟩
    simp at hy; subst hy
    have := (h2 x hx).2; omega
  · intro c hc
    rw [last_snoc]
    rcases List.mem_append.1 hc with hc | hc
    · have := h2 c hc; exact ⟨this.1, by omega⟩
    · simp at hc; subst hc; exact ⟨b1, Nat.le_refl _⟩
  · intro c hc c1 cl
    rw [last_snoc] at cl
    by_cases hl : c ≤ last out
    · exact List.mem_append_left _ (h3 c hc c1 hl)
    · have := b3 c hc (by omega)
      have : c = b := by omega
      simp [this]
  · rw [last_snoc, List.length_append]; simp; omega
/-- The categories of some numbers: rising, each once. -/
def CatsOf (xs cs : List Nat) : Prop := cs.Pairwise (· < ·) ∧ (∀ c, c ∈ cs ↔ c ∈ xs) ∧ cs.length ≤ xs.length
theorem gathered_end {xs out : List Nat} (h : Gathered xs out) (hp : ∀ c ∈ xs, 1 ≤ c) (hb : best (last out) xs = 0) : CatsOf xs out := by
  obtain ⟨h1, h2, h3, h4⟩ := h
  refine ⟨h1, fun c => ⟨fun hc => (h2 c hc).1, fun hc => h3 c hc (hp c hc) ((best_is (last out) xs).1 hb c hc)⟩, by omega⟩
/-- Rising lists of the same numbers are the same. -/
theorem rising_ext : ∀ {cs ds : List Nat}, cs.Pairwise (· < ·) → ds.Pairwise (· < ·) → (∀ c, c ∈ cs ↔ c ∈ ds) → cs = ds
  | [], [], _, _, _ => rfl
  | [], d :: ds, _, _, h => by have := (h d).2 (by simp); simp at this
  | c :: cs, [], _, _, h => by have := (h c).1 (by simp); simp at this
  | c :: cs, d :: ds, h1, h2, h => by
      rw [List.pairwise_cons] at h1 h2
      have e : c = d := by
        have a1 := (h c).1 (by simp)
        have a2 := (h d).2 (by simp)
        rcases List.mem_cons.1 a1 with a1 | a1
        · exact a1
        · rcases List.mem_cons.1 a2 with a2 | a2
          · exact a2.symm
          · have := h1.1 d a2; have := h2.1 c a1; omega
      subst e
      refine congrArg (c :: ·) (rising_ext h1.2 h2.2 fun x => ?_)
      have := h x
      simp only [List.mem_cons] at this
      constructor
      · intro hx; rcases this.1 (.inr hx) with e | e
        · have := h1.1 x hx; omega
        · exact e
      · intro hx; rcases this.2 (.inr hx) with e | e
        · have := h2.1 x hx; omega
        · exact e
/-- The greater of two levels, or the lesser. -/
def one (j : Bool) (x y : Int) : Int := if decide (y < x) = j then x else y
/-- The pairs of a label that is made of levels. -/
def make (D : Int) (cs : List Nat) (ls : List Int) : List (Nat × Int) := (cs.zip ls).filter (fun p => p.2 != D)
theorem zip_get {cs : List Nat} {ls : List Int} {k c : Nat} {l : Int} (hc : cs[k]? = some c) (hl : ls[k]? = some l) : (cs.zip ls)[k]? = some (c, l) := by
  rw [List.getElem?_zip_eq_some]; exact ⟨hc, hl⟩
theorem make_hit {D : Int} {cs : List Nat} {ls : List Int} {k c : Nat} {l : Int} (hc : cs[k]? = some c) (hl : ls[k]? = some l) (h : l ≠ D) :
    ((cs.zip ls).take (k + 1)).filter (fun p => p.2 != D) = ((cs.zip ls).take k).filter (fun p => p.2 != D) ++ [(c, l)] := by
  rw [List.take_add_one, zip_get hc hl, List.filter_append]; simp [h]
theorem make_miss {D : Int} {cs : List Nat} {ls : List Int} {k c : Nat} {l : Int} (hc : cs[k]? = some c) (hl : ls[k]? = some l) (h : l = D) :
    ((cs.zip ls).take (k + 1)).filter (fun p => p.2 != D) = ((cs.zip ls).take k).filter (fun p => p.2 != D) := by
  rw [List.take_add_one, zip_get hc hl, List.filter_append]; simp [h]
theorem make_len (D : Int) (cs : List Nat) (ls : List Int) (k : Nat) : (((cs.zip ls).take k).filter (fun p => p.2 != D)).length ≤ k :=
  Nat.le_trans (List.length_filter_le _ _) (List.length_take_le _ _)
/-- A level put for another one. -/
def turn (f t x : Int) : Int := if x = f then t else x
/-- Is each level at most the other's? -/
def leq (cs : List Nat) (D1 : Int) (ps : List (Nat × Int)) (D2 : Int) (qs : List (Nat × Int)) : Bool := cs.all (fun c => decide (at' D1 ps c ≤ at' D2 qs c)) && decide (D1 ≤ D2)
theorem all_snoc {f : Nat → Bool} {cs : List Nat} {k c : Nat} (hc : cs[k]? = some c) (h : (cs.take k).all f = true) (hf : f c = true) : (cs.take (k + 1)).all f = true := by
  rw [List.take_add_one, hc, List.all_append, h]; simp [hf]
theorem all_stop {f : Nat → Bool} {cs : List Nat} {k c : Nat} (hc : cs[k]? = some c) (hf : f c = false) : cs.all f = false := by
  rw [List.all_eq_false]; exact ⟨c, List.mem_of_getElem? hc, by simp [hf]⟩
/-- May a pair be, as far as it goes by itself? -/
def goodP (D : Int) (p : Nat × Int) : Bool := decide (1 ≤ p.1) && decide (p.1 ≤ 1073741824) && decide (0 ≤ p.2) && decide (p.2 ≤ 4) && (p.2 != D)
/-- Does it rise? -/
def risesAt (ps : List (Nat × Int)) (p : Nat × Int) : Nat → Bool
  | 0 => true
  | j + 1 => match ps[j]? with
    | none => true
    | some q => decide (q.1 < p.1)
/-- May a label be, as far as its first pairs go? -/
def okTo (D : Int) (ps : List (Nat × Int)) : Nat → Bool
  | 0 => decide (1 ≤ D) && decide (D ≤ 4) && decide (ps.length ≤ 12)
  | k + 1 => okTo D ps k && match ps[k]? with
    | none => true
    | some p => goodP D p && risesAt ps p k
def right (D : Int) (ps : List (Nat × Int)) : Bool := okTo D ps ps.length
theorem okTo_step {D : Int} {ps : List (Nat × Int)} {k : Nat} {p : Nat × Int} (h : ps[k]? = some p) : okTo D ps (k + 1) = (okTo D ps k && (goodP D p && risesAt ps p k)) := by
  show (okTo D ps k && match ps[k]? with | none => true | some p => goodP D p && risesAt ps p k) = _
  rw [h]
end Lab
-- with Nc
namespace Lab
set_option linter.unusedVariables false
set_option linter.unusedSimpArgs false

/-- The categories rise. -/
def Rise (ps : List (Nat × Int)) : Prop := ps.Pairwise (fun p q => p.1 < q.1)
theorem at_out {D : Int} {c : Nat} : ∀ {ps : List (Nat × Int)}, (∀ p ∈ ps, p.1 ≠ c) → at' D ps c = D
  | [], _ => rfl
  | p :: r, h => by
      show (if p.1 = c then p.2 else at' D r c) = D
      rw [if_neg (h p (by simp)), at_out fun q hq => h q (by simp [hq])]
theorem at_cons (D : Int) (p : Nat × Int) (r : List (Nat × Int)) (c : Nat) : at' D (p :: r) c = if p.1 = c then p.2 else at' D r c := rfl
/-- A label that may be, as the calls make them. -/
def Ok (D : Int) (ps : List (Nat × Int)) : Prop := Rise ps ∧ (∀ p ∈ ps, 1 ≤ p.1 ∧ p.1 < 4294967296) ∧ ∀ p ∈ ps, p.2 ≠ D
theorem ok_nil (D : Int) : Ok D [] := ⟨List.Pairwise.nil, by simp, by simp⟩
theorem at_below {D : Int} {p : Nat × Int} {r : List (Nat × Int)} {c : Nat} (h : Rise (p :: r)) (hc : c < p.1) : at' D (p :: r) c = D :=
  at_out fun q hq => by
    rcases List.mem_cons.1 hq with rfl | hq
    · omega
    · have := (List.pairwise_cons.1 h).1 q hq; omega
theorem at_zero {D : Int} {ps : List (Nat × Int)} (h : Ok D ps) : at' D ps 0 = D := at_out fun p hp => by have := h.2.1 p hp; omega
/-- Two labels side by side: each category that either names, with both levels. -/
def zipm (D E : Int) : List (Nat × Int) → List (Nat × Int) → List (Nat × Int × Int)
  | [], [] => []
  | p :: ps, [] => (p.1, p.2, E) :: zipm D E ps []
  | [], q :: qs => (q.1, D, q.2) :: zipm D E [] qs
  | p :: ps, q :: qs => if p.1 < q.1 then (p.1, p.2, E) :: zipm D E ps (q :: qs) else if q.1 < p.1 then (q.1, D, q.2) :: zipm D E (p :: ps) qs else (p.1, p.2, q.2) :: zipm D E ps qs
termination_by ps qs => ps.length + qs.length
theorem zipm_nn (D E : Int) : zipm D E [] [] = [] := by rw [zipm]
theorem zipm_cn (D E : Int) (p : Nat × Int) (ps : List (Nat × Int)) : zipm D E (p :: ps) [] = (p.1, p.2, E) :: zipm D E ps [] := by rw [zipm]
theorem zipm_nc (D E : Int) (q : Nat × Int) (qs : List (Nat × Int)) : zipm D E [] (q :: qs) = (q.1, D, q.2) :: zipm D E [] qs := by rw [zipm]
theorem zipm_lt (D E : Int) {p q : Nat × Int} (ps qs : List (Nat × Int)) (h : p.1 < q.1) : zipm D E (p :: ps) (q :: qs) = (p.1, p.2, E) :: zipm D E ps (q :: qs) := by rw [zipm, if_pos h]
theorem zipm_gt (D E : Int) {p q : Nat × Int} (ps qs : List (Nat × Int)) (h : q.1 < p.1) : zipm D E (p :: ps) (q :: qs) = (q.1, D, q.2) :: zipm D E (p :: ps) qs := by rw [zipm, if_neg (by omega), if_pos h]
theorem zipm_eq (D E : Int) {p q : Nat × Int} (ps qs : List (Nat × Int)) (h : p.1 = q.1) : zipm D E (p :: ps) (q :: qs) = (p.1, p.2, q.2) :: zipm D E ps qs := by rw [zipm, if_neg (by omega), if_neg (by omega)]
theorem zipm_len (D E : Int) : ∀ ps qs : List (Nat × Int), (zipm D E ps qs).length ≤ ps.length + qs.length
  | [], [] => by rw [zipm_nn]; simp
  | p :: ps, [] => by rw [zipm_cn]; have := zipm_len D E ps []; simp at this ⊢; omega
  | [], q :: qs => by rw [zipm_nc]; have := zipm_len D E [] qs; simp at this ⊢; omega
  | p :: ps, q :: qs => by
      rcases Nat.lt_trichotomy p.1 q.1 with h | h | h
      · rw [zipm_lt D E ps qs h]; have := zipm_len D E ps (q :: qs); simp at this ⊢; omega
      · rw [zipm_eq D E ps qs h]; have := zipm_len D E ps qs; simp at this ⊢; omega
      · rw [zipm_gt D E ps qs h]; have := zipm_len D E (p :: ps) qs; simp at this ⊢; omega
termination_by ps qs => ps.length + qs.length
theorem ex_cons {α : Type} (P : α → Prop) (a : α) (l : List α) : (∃ x, x ∈ a :: l ∧ P x) ↔ P a ∨ ∃ x, x ∈ l ∧ P x := by
  constructor
  · rintro ⟨x, hx, h⟩
    rcases List.mem_cons.1 hx with rfl | hx
    · exact .inl h
    · exact .inr ⟨x, hx, h⟩
  · rintro (h | ⟨x, hx, h⟩)
    · exact ⟨a, by simp, h⟩
    · exact ⟨x, by simp [hx], h⟩
theorem zipm_cats (D E : Int) : ∀ (ps qs : List (Nat × Int)) (c : Nat), (∃ t ∈ zipm D E ps qs, t.1 = c) ↔ (∃ p ∈ ps, p.1 = c) ∨ (∃ q ∈ qs, q.1 = c)
  | [], [], c => by rw [zipm_nn]; simp
  | p :: ps, [], c => by
      rw [zipm_cn]; have := zipm_cats D E ps [] c
      simp only [ex_cons, this]; simp
  | [], q :: qs, c => by
      rw [zipm_nc]; have := zipm_cats D E [] qs c
      simp only [ex_cons, this]; simp
  | p :: ps, q :: qs, c => by
      rcases Nat.lt_trichotomy p.1 q.1 with h | h | h
      · rw [zipm_lt D E ps qs h]; have := zipm_cats D E ps (q :: qs) c
        simp only [ex_cons, this]
        constructor
        · rintro (h | h | h | h) <;> simp [h]
        · rintro ((h | h) | h | h) <;> simp [h]
      · rw [zipm_eq D E ps qs h]; have := zipm_cats D E ps qs c
        simp only [ex_cons, this]
        constructor
        · rintro (h | h | h) <;> simp [h]
        · rintro ((h1 | h1) | h1 | h1) <;> first | (simp [h1]; done) | (left; omega)
      · rw [zipm_gt D E ps qs h]; have := zipm_cats D E (p :: ps) qs c
        simp only [ex_cons, this]
        constructor
        · rintro (h | (h | h) | h) <;> simp [h]
        · rintro ((h | h) | h | h) <;> simp [h]
termination_by ps qs => ps.length + qs.length
theorem zipm_at (D E : Int) : ∀ {ps qs : List (Nat × Int)}, Rise ps → Rise qs → ∀ t ∈ zipm D E ps qs, t.2.1 = at' D ps t.1 ∧ t.2.2 = at' E qs t.1
  | [], [], _, _, t, ht => by rw [zipm_nn] at ht; simp at ht
  | p :: ps, [], h1, h2, t, ht => by
      rw [zipm_cn] at ht
      rcases List.mem_cons.1 ht with rfl | ht
      · exact ⟨by rw [at_cons, if_pos rfl], rfl⟩
      · obtain ⟨a, b⟩ := zipm_at D E (List.pairwise_cons.1 h1).2 h2 t ht
        refine ⟨?_, b⟩
        rcases (zipm_cats D E ps [] t.1).1 ⟨t, ht, rfl⟩ with ⟨q, hq, e⟩ | ⟨q, hq, e⟩
        · have := (List.pairwise_cons.1 h1).1 q hq
          rw [at_cons, if_neg (by omega)]; exact a
        · simp at hq
  | [], q :: qs, h1, h2, t, ht => by
      rw [zipm_nc] at ht
      rcases List.mem_cons.1 ht with rfl | ht
      · exact ⟨rfl, by rw [at_cons, if_pos rfl]⟩
      · obtain ⟨a, b⟩ := zipm_at D E h1 (List.pairwise_cons.1 h2).2 t ht
        refine ⟨a, ?_⟩
        rcases (zipm_cats D E [] qs t.1).1 ⟨t, ht, rfl⟩ with ⟨p, hp, e⟩ | ⟨p, hp, e⟩
        · simp at hp
        · have := (List.pairwise_cons.1 h2).1 p hp
          rw [at_cons, if_neg (by omega)]; exact b
  | p :: ps, q :: qs, h1, h2, t, ht => by
      rcases Nat.lt_trichotomy p.1 q.1 with h | h | h
      · rw [zipm_lt D E ps qs h] at ht
        rcases List.mem_cons.1 ht with rfl | ht
        · exact ⟨by rw [at_cons, if_pos rfl], (at_below h2 h).symm⟩
        · obtain ⟨a, b⟩ := zipm_at D E (List.pairwise_cons.1 h1).2 h2 t ht
          refine ⟨?_, b⟩
          have hlt : p.1 < t.1 := by
            rcases (zipm_cats D E ps (q :: qs) t.1).1 ⟨t, ht, rfl⟩ with ⟨x, hx, e⟩ | ⟨x, hx, e⟩
            · have := (List.pairwise_cons.1 h1).1 x hx; omega
            · rcases List.mem_cons.1 hx with rfl | hx
              · omega
              · have := (List.pairwise_cons.1 h2).1 x hx; omega
          rw [at_cons, if_neg (by omega)]; exact a
      · rw [zipm_eq D E ps qs h] at ht
        rcases List.mem_cons.1 ht with rfl | ht
        · exact ⟨by rw [at_cons, if_pos rfl], by rw [at_cons, if_pos h.symm]⟩
        · obtain ⟨a, b⟩ := zipm_at D E (List.pairwise_cons.1 h1).2 (List.pairwise_cons.1 h2).2 t ht
          have hlt : p.1 < t.1 := by
            rcases (zipm_cats D E ps qs t.1).1 ⟨t, ht, rfl⟩ with ⟨x, hx, e⟩ | ⟨x, hx, e⟩
            · have := (List.pairwise_cons.1 h1).1 x hx; omega
            · have := (List.pairwise_cons.1 h2).1 x hx; omega
          exact ⟨by rw [at_cons, if_neg (by omega)]; exact a, by rw [at_cons, if_neg (by omega)]; exact b⟩
      · rw [zipm_gt D E ps qs h] at ht
        rcases List.mem_cons.1 ht with rfl | ht
        · exact ⟨(at_below h1 h).symm, by rw [at_cons, if_pos rfl]⟩
        · obtain ⟨a, b⟩ := zipm_at D E h1 (List.pairwise_cons.1 h2).2 t ht
          refine ⟨a, ?_⟩
          have hlt : q.1 < t.1 := by
            rcases (zipm_cats D E (p :: ps) qs t.1).1 ⟨t, ht, rfl⟩ with ⟨x, hx, e⟩ | ⟨x, hx, e⟩
            · rcases List.mem_cons.1 hx with rfl | hx
              · omega
              · have := (List.pairwise_cons.1 h1).1 x hx; omega
            · have := (List.pairwise_cons.1 h2).1 x hx; omega
          rw [at_cons, if_neg (by omega)]; exact b
termination_by ps qs => ps.length + qs.length
theorem zipm_rise (D E : Int) : ∀ {ps qs : List (Nat × Int)}, Rise ps → Rise qs → (zipm D E ps qs).Pairwise (fun s t => s.1 < t.1)
  | [], [], _, _ => by rw [zipm_nn]; exact List.Pairwise.nil
  | p :: ps, [], h1, h2 => by
      rw [zipm_cn]
      refine List.pairwise_cons.2 ⟨fun t ht => ?_, zipm_rise D E (List.pairwise_cons.1 h1).2 h2⟩
      rcases (zipm_cats D E ps [] t.1).1 ⟨t, ht, rfl⟩ with ⟨x, hx, e⟩ | ⟨x, hx, e⟩
      · have := (List.pairwise_cons.1 h1).1 x hx; show p.1 < t.1; omega
      · simp at hx
  | [], q :: qs, h1, h2 => by
      rw [zipm_nc]
      refine List.pairwise_cons.2 ⟨fun t ht => ?_, zipm_rise D E h1 (List.pairwise_cons.1 h2).2⟩
      rcases (zipm_cats D E [] qs t.1).1 ⟨t, ht, rfl⟩ with ⟨x, hx, e⟩ | ⟨x, hx, e⟩
      · simp at hx
      · have := (List.pairwise_cons.1 h2).1 x hx; show q.1 < t.1; omega
  | p :: ps, q :: qs, h1, h2 => by
      rcases Nat.lt_trichotomy p.1 q.1 with h | h | h
      · rw [zipm_lt D E ps qs h]
        refine List.pairwise_cons.2 ⟨fun t ht => ?_, zipm_rise D E (List.pairwise_cons.1 h1).2 h2⟩
        show p.1 < t.1
        rcases (zipm_cats D E ps (q :: qs) t.1).1 ⟨t, ht, rfl⟩ with ⟨x, hx, e⟩ | ⟨x, hx, e⟩
        · have := (List.pairwise_cons.1 h1).1 x hx; omega
        · rcases List.mem_cons.1 hx with rfl | hx
          · omega
          · have := (List.pairwise_cons.1 h2).1 x hx; omega
      · rw [zipm_eq D E ps qs h]
        refine List.pairwise_cons.2 ⟨fun t ht => ?_, zipm_rise D E (List.pairwise_cons.1 h1).2 (List.pairwise_cons.1 h2).2⟩
        show p.1 < t.1
        rcases (zipm_cats D E ps qs t.1).1 ⟨t, ht, rfl⟩ with ⟨x, hx, e⟩ | ⟨x, hx, e⟩
        · have := (List.pairwise_cons.1 h1).1 x hx; omega
        · have := (List.pairwise_cons.1 h2).1 x hx; omega
      · rw [zipm_gt D E ps qs h]
        refine List.pairwise_cons.2 ⟨fun t ht => ?_, zipm_rise D E h1 (List.pairwise_cons.1 h2).2⟩
        show q.1 < t.1
        rcases (zipm_cats D E (p :: ps) qs t.1).1 ⟨t, ht, rfl⟩ with ⟨x, hx, e⟩ | ⟨x, hx, e⟩
        · rcases List.mem_cons.1 hx with rfl | hx
          · omega
          · have := (List.pairwise_cons.1 h1).1 x hx; omega
        · have := (List.pairwise_cons.1 h2).1 x hx; omega
termination_by ps qs => ps.length + qs.length
/-- The pairs that are made of both levels. -/
def mk (f : Int → Int → Int) (M : Int) (z : List (Nat × Int × Int)) : List (Nat × Int) := (z.filter (fun t => f t.2.1 t.2.2 != M)).map (fun t => (t.1, f t.2.1 t.2.2))
theorem mk_snoc_hit {f : Int → Int → Int} {M : Int} {z : List (Nat × Int × Int)} {t : Nat × Int × Int} (h : f t.2.1 t.2.2 ≠ M) : mk f M (z ++ [t]) = mk f M z ++ [(t.1, f t.2.1 t.2.2)] := by simp [mk, h]
theorem mk_snoc_miss {f : Int → Int → Int} {M : Int} {z : List (Nat × Int × Int)} {t : Nat × Int × Int} (h : f t.2.1 t.2.2 = M) : mk f M (z ++ [t]) = mk f M z := by simp [mk, h]
theorem mk_len (f : Int → Int → Int) (M : Int) (z : List (Nat × Int × Int)) : (mk f M z).length ≤ z.length := by
  unfold mk; rw [List.length_map]; exact List.length_filter_le _ _
theorem mem_mk {f : Int → Int → Int} {M : Int} {z : List (Nat × Int × Int)} {p : Nat × Int} (h : p ∈ mk f M z) : ∃ t ∈ z, p = (t.1, f t.2.1 t.2.2) ∧ f t.2.1 t.2.2 ≠ M := by
  unfold mk at h
  obtain ⟨t, ht, rfl⟩ := List.mem_map.1 h
  obtain ⟨h1, h2⟩ := List.mem_filter.1 ht
  exact ⟨t, h1, rfl, by simpa using h2⟩
theorem mk_ok {f : Int → Int → Int} {D E : Int} {ps qs : List (Nat × Int)} (h1 : Ok D ps) (h2 : Ok E qs) (M : Int) : Ok M (mk f M (zipm D E ps qs)) := by
  refine ⟨?_, fun p hp => ?_, fun p hp => ?_⟩
  · unfold mk Rise
    rw [List.pairwise_map]
    exact List.Pairwise.filter _ (zipm_rise D E h1.1 h2.1)
  · obtain ⟨t, ht, rfl, _⟩ := mem_mk hp
    rcases (zipm_cats D E ps qs t.1).1 ⟨t, ht, rfl⟩ with ⟨x, hx, e⟩ | ⟨x, hx, e⟩
    · have := h1.2.1 x hx; show 1 ≤ t.1 ∧ t.1 < 4294967296; omega
    · have := h2.2.1 x hx; show 1 ≤ t.1 ∧ t.1 < 4294967296; omega
  · obtain ⟨t, ht, rfl, h⟩ := mem_mk hp
    exact h
/-- Is each level at most the other's: over those that either names. -/
theorem leq_zip {D E : Int} {ps qs : List (Nat × Int)} (h1 : Ok D ps) (h2 : Ok E qs) :
    (D ≤ E ∧ ∀ t ∈ zipm D E ps qs, t.2.1 ≤ t.2.2) ↔ ∀ c, at' D ps c ≤ at' E qs c := by
  constructor
  · rintro ⟨hd, hz⟩ c
    by_cases hc : ∃ t ∈ zipm D E ps qs, t.1 = c
    · obtain ⟨t, ht, rfl⟩ := hc
      obtain ⟨a, b⟩ := zipm_at D E h1.1 h2.1 t ht
      rw [← a, ← b]; exact hz t ht
    · have hn := fun h => hc ((zipm_cats D E ps qs c).2 h)
      rw [at_out (ps := ps) fun p hp e => hn (.inl ⟨p, hp, e⟩), at_out (ps := qs) fun p hp e => hn (.inr ⟨p, hp, e⟩)]
      exact hd
  · intro h
    refine ⟨?_, fun t ht => ?_⟩
    · have := h 0
      rwa [at_zero h1, at_zero h2] at this
    · obtain ⟨a, b⟩ := zipm_at D E h1.1 h2.1 t ht
      rw [a, b]; exact h t.1
end Lab
