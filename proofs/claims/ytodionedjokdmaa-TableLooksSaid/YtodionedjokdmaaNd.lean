/- A category set. -/
import Derived.Test.YtodionedjokdmaaSa
namespace Lab
set_option linter.unusedVariables false
set_option linter.unusedSimpArgs false

/-- A category's level put among the pairs. -/
def put (D : Int) (ps : List (Nat × Int)) (c : Nat) (l : Int) : List (Nat × Int) := ps.filter (fun p => decide (p.1 < c)) ++ ((if l = D then [] else [(c, l)]) ++ ps.filter (fun p => decide (c < p.1)))
theorem take_filter {ps : List (Nat × Int)} {c : Nat} : ∀ {i : Nat}, IsPos ps c i → ps.take i = ps.filter (fun p => decide (p.1 < c)) := by
  intro i h
  have e : ps = ps.take i ++ ps.drop i := (List.take_append_drop i ps).symm
  conv => rhs; rw [e, List.filter_append]
  rw [List.filter_eq_self.2 fun p hp => ?_, List.filter_eq_nil_iff.2 fun p hp => ?_, List.append_nil]
  · obtain ⟨t, ht⟩ := List.mem_iff_getElem?.1 hp
    rw [List.getElem?_drop] at ht
    have := h.2.2 _ p (by omega) ht
    simpa using this
  · obtain ⟨t, ht⟩ := List.mem_iff_getElem?.1 hp
    have hlt : t < i := by have := (List.getElem?_eq_some_iff.1 ht).1; rw [List.length_take] at this; omega
    rw [List.getElem?_take_of_lt hlt] at ht
    have := h.2.1 _ p hlt ht
    simpa using this
theorem drop_filter_found {ps : List (Nat × Int)} {c i : Nat} (hr : Rise ps) (h : IsPos ps c i) (hf : ∃ p, ps[i]? = some p ∧ p.1 = c) : ps.drop (i + 1) = ps.filter (fun p => decide (c < p.1)) := by
  obtain ⟨q, hq, rfl⟩ := hf
  have e : ps = ps.take (i + 1) ++ ps.drop (i + 1) := (List.take_append_drop (i + 1) ps).symm
  conv => rhs; rw [e, List.filter_append]
  rw [List.filter_eq_nil_iff.2 fun p hp => ?_, List.filter_eq_self.2 fun p hp => ?_, List.nil_append]
  · obtain ⟨t, ht⟩ := List.mem_iff_getElem?.1 hp
    rw [List.getElem?_drop] at ht
    have := rise_get hr (s := i) (by omega) hq ht
    simpa using this
  · obtain ⟨t, ht⟩ := List.mem_iff_getElem?.1 hp
    have hlt : t < i + 1 := by have := (List.getElem?_eq_some_iff.1 ht).1; rw [List.length_take] at this; omega
    rw [List.getElem?_take_of_lt hlt] at ht
    by_cases e : t = i
    · subst e; rw [hq] at ht; cases ht; simp
    · have := h.2.1 _ p (by omega) ht
      simp; omega
theorem drop_filter_missed {ps : List (Nat × Int)} {c i : Nat} (hr : Rise ps) (h : IsPos ps c i) (hf : ¬ ∃ p, ps[i]? = some p ∧ p.1 = c) : ps.drop i = ps.filter (fun p => decide (c < p.1)) := by
  have e : ps = ps.take i ++ ps.drop i := (List.take_append_drop i ps).symm
  conv => rhs; rw [e, List.filter_append]
  rw [List.filter_eq_nil_iff.2 fun p hp => ?_, List.filter_eq_self.2 fun p hp => ?_, List.nil_append]
  · obtain ⟨t, ht⟩ := List.mem_iff_getElem?.1 hp
    rw [List.getElem?_drop] at ht
    have h1 := h.2.2 _ p (by omega) ht
    have hne : p.1 ≠ c := fun e => by
      by_cases h0 : t = 0
      · subst h0; exact hf ⟨p, by simpa using ht, e⟩
      · have hi : i < ps.length := by have := (List.getElem?_eq_some_iff.1 ht).1; omega
        have h2 := h.2.2 i _ (Nat.le_refl _) (List.getElem?_eq_getElem hi)
        have h3 := rise_get hr (s := i) (t := i + t) (by omega) (List.getElem?_eq_getElem hi) ht
        omega
    simp; omega
  · obtain ⟨t, ht⟩ := List.mem_iff_getElem?.1 hp
    have hlt : t < i := by have := (List.getElem?_eq_some_iff.1 ht).1; rw [List.length_take] at this; omega
    rw [List.getElem?_take_of_lt hlt] at ht
    have := h.2.1 _ p hlt ht
    simp; omega
theorem put_ok {D : Int} {ps : List (Nat × Int)} {c : Nat} {l : Int} (h : Ok D ps) (h1 : 1 ≤ c) (h2 : c < 4294967296) : Ok D (put D ps c l) := by
  refine ⟨?_, fun p hp => ?_, fun p hp => ?_⟩
  · unfold put Rise
    rw [List.pairwise_append]
    refine ⟨List.Pairwise.filter _ h.1, ?_, fun p hp q hq => ?_⟩
    · rw [List.pairwise_append]
      refine ⟨by split <;> simp, List.Pairwise.filter _ h.1, fun p hp q hq => ?_⟩
      have hq' := (List.mem_filter.1 hq).2
      split at hp
      · simp at hp
      · simp at hp; subst hp; simpa using hq'
    · have hp' := (List.mem_filter.1 hp).2
      simp at hp'
      rcases List.mem_append.1 hq with hq | hq
      · split at hq
        · simp at hq
        · simp at hq; subst hq; exact hp'
      · have hq' := (List.mem_filter.1 hq).2
        simp at hq'; omega
  · unfold put at hp
    rcases List.mem_append.1 hp with hp | hp
    · exact h.2.1 p (List.mem_filter.1 hp).1
    · rcases List.mem_append.1 hp with hp | hp
      · split at hp
        · simp at hp
        · simp at hp; subst hp; exact ⟨h1, h2⟩
      · exact h.2.1 p (List.mem_filter.1 hp).1
  · unfold put at hp
    rcases List.mem_append.1 hp with hp | hp
    · exact h.2.2 p (List.mem_filter.1 hp).1
    · rcases List.mem_append.1 hp with hp | hp
      · split at hp
        · simp at hp
        · next hl => simp at hp; subst hp; exact hl
      · exact h.2.2 p (List.mem_filter.1 hp).1
end Lab
-- with Ne
namespace Lab
set_option linter.unusedVariables false
set_option linter.unusedSimpArgs false

def tn (a b D : Int) (ps : List (Nat × Int)) : List (Nat × Int) := mk (fun x _ => turn a b x) (turn a b D) (zipm D D ps ps)
theorem tn_ok {a b D : Int} {ps : List (Nat × Int)} (h1 : Ok D ps) : Ok (turn a b D) (tn a b D ps) := mk_ok h1 h1 _
theorem mk_length (f : Int → Int → Int) (M D E : Int) (ps qs : List (Nat × Int)) : (mk f M (zipm D E ps qs)).length ≤ ps.length + qs.length := Nat.le_trans (mk_len _ _ _) (zipm_len _ _ _ _)
theorem tn_len (a b D : Int) (ps : List (Nat × Int)) : (tn a b D ps).length ≤ ps.length + ps.length := mk_length _ _ _ _ _ _
end Lab
