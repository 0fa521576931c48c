/- Labels as lists: what the document's answer makes of them. -/
namespace Lab
set_option linter.unusedVariables false
set_option linter.unusedSimpArgs false

/-- A category's level. -/
def at' (D : Int) : List (Nat × Int) → Nat → Int
  | [], _ => D
  | p :: r, c => if p.1 = c then p.2 else at' D r c
theorem at_drop_hit {D : Int} {ps : List (Nat × Int)} {c k : Nat} {p : Nat × Int} (h : ps[k]? = some p) (e : p.1 = c) : at' D (ps.drop k) c = p.2 := by
  obtain ⟨hk, hp⟩ := List.getElem?_eq_some_iff.1 h
  rw [List.drop_eq_getElem_cons hk, hp]
  unfold at'; rw [if_pos e]
theorem at_drop_miss {D : Int} {ps : List (Nat × Int)} {c k : Nat} {p : Nat × Int} (h : ps[k]? = some p) (e : p.1 ≠ c) : at' D (ps.drop k) c = at' D (ps.drop (k + 1)) c := by
  obtain ⟨hk, hp⟩ := List.getElem?_eq_some_iff.1 h
  rw [List.drop_eq_getElem_cons hk, hp]
  conv => lhs; unfold at'
  rw [if_neg e]
theorem at_drop_end {D : Int} {ps : List (Nat × Int)} {c k : Nat} (h : ps.length ≤ k) : at' D (ps.drop k) c = D := by
  rw [List.drop_eq_nil_of_le h]; rfl
theorem take_snoc_eq {ps qs : List (Nat × Int)} {k : Nat} {p : Nat × Int} (h : ps.take k = qs.take k) (hp : ps[k]? = some p) (hq : qs[k]? = some p) : ps.take (k + 1) = qs.take (k + 1) := by
  rw [List.take_add_one, List.take_add_one, h, hp, hq]
theorem ne_at {ps qs : List (Nat × Int)} {k : Nat} {p q : Nat × Int} (hp : ps[k]? = some p) (hq : qs[k]? = some q) (h : p ≠ q) : ¬ ps = qs := by
  intro e; rw [e, hq] at hp; exact h (Option.some.inj hp).symm
theorem take_all {ps qs : List (Nat × Int)} {k : Nat} (h : ps.take k = qs.take k) (h1 : ps.length ≤ k) (h2 : qs.length ≤ k) : ps = qs := by
  rw [List.take_of_length_le h1, List.take_of_length_le h2] at h; exact h
/-- The categories that are owned. -/
def owns (ps : List (Nat × Int)) : List Nat := (ps.filter (fun p => p.2 == 0)).map (·.1)
theorem owns_hit {ps : List (Nat × Int)} {k : Nat} {p : Nat × Int} (hp : ps[k]? = some p) (h : p.2 = 0) : owns (ps.take (k + 1)) = owns (ps.take k) ++ [p.1] := by
  unfold owns; rw [List.take_add_one, hp, List.filter_append, List.map_append]; simp [h]
theorem owns_miss {ps : List (Nat × Int)} {k : Nat} {p : Nat × Int} (hp : ps[k]? = some p) (h : p.2 ≠ 0) : owns (ps.take (k + 1)) = owns (ps.take k) := by
  unfold owns; rw [List.take_add_one, hp, List.filter_append, List.map_append]; simp [h]
theorem owns_len (ps : List (Nat × Int)) (k : Nat) : (owns (ps.take k)).length ≤ k := by
  unfold owns; rw [List.length_map]; exact Nat.le_trans (List.length_filter_le _ _) (List.length_take_le _ _)
end Lab
