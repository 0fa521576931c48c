import Derived.Test.YtjmfjehjlnghmaaNb
/- Labels that may be, as lists of pairs: their levels tell them whole; two of them gone over side by side. -/
namespace Lab
set_option linter.unusedVariables false
set_option linter.unusedSimpArgs false

/-- The categories rise. -/
def Rise (ps : List (Nat × Int)) : Prop := ps.Pairwise (fun p q => p.1 < q.1)
/-- A label that may be, as the calls make them. -/
def Ok (D : Int) (ps : List (Nat × Int)) : Prop := Rise ps ∧ (∀ p ∈ ps, 1 ≤ p.1 ∧ p.1 < 4294967296) ∧ ∀ p ∈ ps, p.2 ≠ D
theorem ok_nil (D : Int) : Ok D [] := ⟨List.Pairwise.nil, by simp, by simp⟩
/-- The pairs that are made of both levels. -/
def mk (f : Int → Int → Int) (M : Int) (z : List (Nat × Int × Int)) : List (Nat × Int) := (z.filter (fun t => f t.2.1 t.2.2 != M)).map (fun t => (t.1, f t.2.1 t.2.2))
end Lab
