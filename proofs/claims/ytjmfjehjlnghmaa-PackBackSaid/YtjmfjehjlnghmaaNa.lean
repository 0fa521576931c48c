/- Labels as lists: what the document's answer makes of them. -/
namespace Lab
set_option linter.unusedVariables false
set_option linter.unusedSimpArgs false

theorem take_snoc_eq {ps qs : List (Nat × Int)} {k : Nat} {p : Nat × Int} (h : ps.take k = qs.take k) (hp : ps[k]? = some p) (hq : qs[k]? = some p) : ps.take (k + 1) = qs.take (k + 1) := by
  rw [List.take_add_one, List.take_add_one, h, hp, hq]
theorem ne_at {ps qs : List (Nat × Int)} {k : Nat} {p q : Nat × Int} (hp : ps[k]? = some p) (hq : qs[k]? = some q) (h : p ≠ q) : ¬ ps = qs := by
  intro e; rw [e, hq] at hp; exact h (Option.some.inj hp).symm
theorem take_all {ps qs : List (Nat × Int)} {k : Nat} (h : ps.take k = qs.take k) (h1 : ps.length ≤ k) (h2 : qs.length ≤ k) : ps = qs := by
  rw [List.take_of_length_le h1, List.take_of_length_le h2] at h; exact h
/-- The categories that are owned. -/
def owns (ps : List (Nat × Int)) : List Nat := (ps.filter (fun p => p.2 == 0)).map (·.1)
end Lab
