import Derived.Test.YtlkhbbdigljpjaaNa
/- The categories that lists of pairs name, rising, each once. -/
namespace Lab
set_option linter.unusedVariables false
set_option linter.unusedSimpArgs false

/-- One look at a category: the least so far above a bound. -/
def look (l b c : Nat) : Nat := if l < c ∧ (b = 0 ∨ c < b) then c else b
/-- The least category above a bound; 0: there is none. -/
def best (l : Nat) (xs : List Nat) : Nat := xs.foldl (look l) 0
theorem best_snoc {l : Nat} {xs : List Nat} {k c : Nat} (h : xs[k]? = some c) : best l (xs.take (k + 1)) = look l (best l (xs.take k)) c := by
  unfold best; rw [List.take_add_one, h, List.foldl_append]; rfl
def BestIs (l b : Nat) (xs : List Nat) : Prop := (b = 0 → ∀ c ∈ xs, c ≤ l) ∧ (b ≠ 0 → b ∈ xs ∧ l < b ∧ ∀ c ∈ xs, l < c → b ≤ c)
theorem bestIs_step {l b c : Nat} {xs : List Nat} (h : BestIs l b xs) : BestIs l (look l b c) (xs ++ [c]) := by
  obtain ⟨h1, h2⟩ := h
  unfold look
  split
  case isTrue hc =>
    refine ⟨fun e => by omega, fun _ => ⟨by simp, hc.1, fun d hd hl => ?_⟩⟩
    rcases List.mem_append.1 hd with hd | hd
    · by_cases hb : b = 0
      · have := h1 hb d hd; omega
      · have := (h2 hb).2.2 d hd hl; omega
    · simp at hd; omega
  case isFalse hc =>
    refine ⟨fun e d hd => ?_, fun e => ⟨by simp [(h2 e).1], (h2 e).2.1, fun d hd hl => ?_⟩⟩
    · rcases List.mem_append.1 hd with hd | hd
      · exact h1 e d hd
      · simp at hd; omega
    · rcases List.mem_append.1 hd with hd | hd
      · exact (h2 e).2.2 d hd hl
      · simp at hd; omega
theorem bestIs_fold {l : Nat} : ∀ (xs seen : List Nat) (b : Nat), BestIs l b seen → BestIs l (xs.foldl (look l) b) (seen ++ xs)
  | [], seen, b, h => by simpa using h
  | c :: r, seen, b, h => by
      have := bestIs_fold r (seen ++ [c]) _ (bestIs_step (c := c) h)
      simpa using this
theorem best_is (l : Nat) (xs : List Nat) : BestIs l (best l xs) xs := by
  have := bestIs_fold (l := l) xs [] 0 ⟨fun _ c hc => by simp at hc, fun h => by simp at h⟩
  simpa [best] using this
/-- The last of a list, or 0. -/
def last (cs : List Nat) : Nat := cs.getLastD 0
@[simp] theorem last_snoc (cs : List Nat) (c : Nat) : last (cs ++ [c]) = c := by unfold last; rw [List.getLastD_eq_getLast?]; simp
theorem last_get {cs : List Nat} (h : 0 < cs.length) : cs[cs.length - 1]? = some (last cs) := by
  unfold last
  rw [List.getLastD_eq_getLast?, ← List.getLast?_eq_getElem?]
  cases e : cs.getLast? with
  | none => rw [List.getLast?_eq_none_iff] at e; subst e; simp at h
  | some v => rfl
/-- How many are above a bound. -/
def above (l : Nat) (xs : List Nat) : Nat := (xs.filter (fun c => decide (l < c))).length
theorem above_le (l : Nat) (xs : List Nat) : above l xs ≤ xs.length := List.length_filter_le _ _
theorem above_mono {l l' : Nat} (h : l ≤ l') : ∀ xs : List Nat, above l' xs ≤ above l xs
  | [] => by simp [above]
  | c :: r => by
      have := above_mono h r
      unfold above at this ⊢
      simp only [List.filter_cons]
      repeat' split
      all_goals simp_all
      all_goals omega
theorem above_lt {l l' : Nat} (h : l < l') : ∀ xs : List Nat, l' ∈ xs → above l' xs + 1 ≤ above l xs
  | [], hm => by simp at hm
  | c :: r, hm => by
      rcases List.mem_cons.1 hm with rfl | hm
      · have := above_mono (Nat.le_of_lt h) r
        unfold above at this ⊢
        simp [List.filter_cons, h]; omega
      · have := above_lt h r hm
        unfold above at this ⊢
        simp only [List.filter_cons]
        repeat' split
        all_goals simp_all
        all_goals omega
/-- What has been gathered so far. -/
def Gathered (xs out : List Nat) : Prop :=
  out.Pairwise (· < ·) ∧ (∀ c ∈ out, c ∈ xs ∧ c ≤ last out) ∧ (∀ c ∈ xs, 1 ≤ c → c ≤ last out → c ∈ out) ∧ out.length + above (last out) xs ≤ xs.length
theorem gathered_nil (xs : List Nat) : Gathered xs [] := ⟨List.Pairwise.nil, by simp, fun c _ h1 h2 => by simp [last] at h2; omega, by simpa using above_le _ _⟩
theorem gathered_snoc {xs out : List Nat} (h : Gathered xs out) (hb : best (last out) xs ≠ 0) :
    Gathered xs (out ++ [best (last out) xs]) ∧ above (last (out ++ [best (last out) xs])) xs + 1 ≤ above (last out) xs := by
  obtain ⟨h1, h2, h3, h4⟩ := h
  obtain ⟨b1, b2, b3⟩ := (best_is (last out) xs).2 hb
  generalize best (last out) xs = b at *
  have ha := above_lt b2 xs b1
  refine ⟨⟨?_, ?_, ?_, ?_⟩, by rw [last_snoc]; exact ha⟩
  · rw [List.pairwise_append]
    refine ⟨h1, by simp, fun x hx y hy => ?_⟩
    simp at hy; subst hy
    have := (h2 x hx).2; omega
  · intro c hc
    rw [last_snoc]
    rcases List.mem_append.1 hc with hc | hc
    · have := h2 c hc; exact ⟨this.1, by omega⟩
    · simp at hc; subst hc; exact ⟨b1, Nat.le_refl _⟩
  · intro c hc c1 cl
    rw [last_snoc] at cl
    by_cases hl : c ≤ last out
    · exact List.mem_append_left _ (h3 c hc c1 hl)
    · have := b3 c hc (by omega)
      have : c = b := by omega
      simp [this]
  · rw [last_snoc, List.length_append]; simp; omega
/-- The categories of some numbers: rising, each once. -/
def CatsOf (xs cs : List Nat) : Prop := cs.Pairwise (· < ·) ∧ (∀ c, c ∈ cs ↔ c ∈ xs) ∧ cs.length ≤ xs.length
theorem gathered_end {xs out : List Nat} (h : Gathered xs out) (hp : ∀ c ∈ xs, 1 ≤ c) (hb : best (last out) xs = 0) : CatsOf xs out := by
  obtain ⟨h1, h2, h3, h4⟩ := h
  refine ⟨h1, fun c => ⟨fun hc => (h2 c hc).1, fun hc => h3 c hc (hp c hc) ((best_is (last out) xs).1 hb c hc)⟩, by omega⟩
/-- Rising lists of the same numbers are the same. -/
theorem rising_ext : ∀ {cs ds : List Nat}, cs.Pairwise (· < ·) → ds.Pairwise (· < ·) → (∀ c, c ∈ cs ↔ c ∈ ds) → cs = ds
  | [], [], _, _, _ => rfl
  | [], d :: ds, _, _, h => by have := (h d).2 (by simp); simp at this
  | c :: cs, [], _, _, h => by have := (h c).1 (by simp); simp at this
  | c :: cs, d :: ds, h1, h2, h => by
      rw [List.pairwise_cons] at h1 h2
      have e : c = d := by
        have a1 := (h c).1 (by simp)
        have a2 := (h d).2 (by simp)
        rcases List.mem_cons.1 a1 with a1 | a1
        · exact a1
        · rcases List.mem_cons.1 a2 with a2 | a2
          · exact a2.symm
          · have := h1.1 d a2; have := h2.1 c a1; omega
      subst e
      refine congrArg (c :: ·) (rising_ext h1.2 h2.2 fun x => ?_)
      have := h x
      simp only [List.mem_cons] at this
      constructor
      · intro hx; rcases this.1 (.inr hx) with e | e
        · have := h1.1 x hx; omega
        · exact e
      · intro hx; rcases this.2 (.inr hx) with e | e
        · have := h2.1 x hx; omega
        · exact e
/-- The greater of two levels, or the lesser. -/
def one (j : Bool) (x y : Int) : Int := if decide (y < x) = j then x else y
/-- The pairs of a label that is made of levels. -/
def make (D : Int) (cs : List Nat) (ls : List Int) : List (Nat × Int) := (cs.zip ls).filter (fun p => p.2 != D)
theorem zip_get {cs : List Nat} {ls : List Int} {k c : Nat} {l : Int} (hc : cs[k]? = some c) (hl : ls[k]? = some l) : (cs.zip ls)[k]? = some (c, l) := by
  rw [List.getElem?_zip_eq_some]; exact ⟨hc, hl⟩
theorem make_hit {D : Int} {cs : List Nat} {ls : List Int} {k c : Nat} {l : Int} (hc : cs[k]? = some c) (hl : ls[k]? = some l) (h : l ≠ D) :
    ((cs.zip ls).take (k + 1)).filter (fun p => p.2 != D) = ((cs.zip ls).take k).filter (fun p => p.2 != D) ++ [(c, l)] := by
  rw [List.take_add_one, zip_get hc hl, List.filter_append]; simp [h]
theorem make_miss {D : Int} {cs : List Nat} {ls : List Int} {k c : Nat} {l : Int} (hc : cs[k]? = some c) (hl : ls[k]? = some l) (h : l = D) :
    ((cs.zip ls).take (k + 1)).filter (fun p => p.2 != D) = ((cs.zip ls).take k).filter (fun p => p.2 != D) := by
  rw [List.take_add_one, zip_get hc hl, List.filter_append]; simp [h]
theorem make_len (D : Int) (cs : List Nat) (ls : List Int) (k : Nat) : (((cs.zip ls).take k).filter (fun p => p.2 != D)).length ≤ k :=
  Nat.le_trans (List.length_filter_le _ _) (List.length_take_le _ _)
theorem make_length (D : Int) (cs : List Nat) (ls : List Int) : (make D cs ls).length ≤ cs.length := by
  unfold make; exact Nat.le_trans (List.length_filter_le _ _) (by rw [List.length_zip]; omega)
/-- A level put for another one. -/
def turn (f t x : Int) : Int := if x = f then t else x
/-- Is each level at most the other's? -/
def leq (cs : List Nat) (D1 : Int) (ps : List (Nat × Int)) (D2 : Int) (qs : List (Nat × Int)) : Bool := cs.all (fun c => decide (at' D1 ps c ≤ at' D2 qs c)) && decide (D1 ≤ D2)
theorem all_snoc {f : Nat → Bool} {cs : List Nat} {k c : Nat} (hc : cs[k]? = some c) (h : (cs.take k).all f = true) (hf : f c = true) : (cs.take (k + 1)).all f = true := by
  rw [List.take_add_one, hc, List.all_append, h]; simp [hf]
theorem all_stop {f : Nat → Bool} {cs : List Nat} {k c : Nat} (hc : cs[k]? = some c) (hf : f c = false) : cs.all f = false := by
  rw [List.all_eq_false]; exact ⟨c, List.mem_of_getElem? hc, by simp [hf]⟩
/-- May a pair be, as far as it goes by itself? -/
def goodP (D : Int) (p : Nat × Int) : Bool := decide (1 ≤ p.1) && decide (p.1 ≤ 1073741824) && decide (0 ≤ p.2) && decide (p.2 ≤ 4) && (p.2 != D)
/-- Does it rise? -/
def risesAt (ps : List (Nat × Int)) (p : Nat × Int) : Nat → Bool
  | 0 => true
  | j + 1 => match ps[j]? with
    | none => true
    | some q => decide (q.1 < p.1)
/-- May a label be, as far as its first pairs go? -/
def okTo (D : Int) (ps : List (Nat × Int)) : Nat → Bool
  | 0 => decide (1 ≤ D) && decide (D ≤ 4) && decide (ps.length ≤ 12)
  | k + 1 => okTo D ps k && match ps[k]? with
    | none => true
    | some p => goodP D p && risesAt ps p k
def right (D : Int) (ps : List (Nat × Int)) : Bool := okTo D ps ps.length
theorem okTo_step {D : Int} {ps : List (Nat × Int)} {k : Nat} {p : Nat × Int} (h : ps[k]? = some p) : okTo D ps (k + 1) = (okTo D ps k && (goodP D p && risesAt ps p k)) := by
  show (okTo D ps k && match ps[k]? with | none => true | some p => goodP D p && risesAt ps p k) = _
  rw [h]
end Lab
