import Derived.Test.YtjmfjehjlnghmaaNa
/- The categories that lists of pairs name, rising, each once. -/
namespace Lab
set_option linter.unusedVariables false
set_option linter.unusedSimpArgs false

/-- The greater of two levels, or the lesser. -/
def one (j : Bool) (x y : Int) : Int := if decide (y < x) = j then x else y
/-- The pairs of a label that is made of levels. -/
def make (D : Int) (cs : List Nat) (ls : List Int) : List (Nat × Int) := (cs.zip ls).filter (fun p => p.2 != D)
/-- May a pair be, as far as it goes by itself? -/
def goodP (D : Int) (p : Nat × Int) : Bool := decide (1 ≤ p.1) && decide (p.1 ≤ 1073741824) && decide (0 ≤ p.2) && decide (p.2 ≤ 4) && (p.2 != D)
/-- Does it rise? -/
def risesAt (ps : List (Nat × Int)) (p : Nat × Int) : Nat → Bool
  | 0 => true
  | j + 1 => match ps[j]? with
    | none => true
    | some q => decide (q.1 < p.1)
/-- May a label be, as far as its first pairs go? -/
def okTo (D : Int) (ps : List (Nat × Int)) : Nat → Bool
  | 0 => decide (1 ≤ D) && decide (D ≤ 4) && decide (ps.length ≤ 12)
  | k + 1 => okTo D ps k && match ps[k]? with
    | none => true
    | some p => goodP D p && risesAt ps p k
def right (D : Int) (ps : List (Nat × Int)) : Bool := okTo D ps ps.length
theorem okTo_step {D : Int} {ps : List (Nat × Int)} {k : Nat} {p : Nat × Int} (h : ps[k]? = some p) : okTo D ps (k + 1) = (okTo D ps k && (goodP D p && risesAt ps p k)) := by
  show (okTo D ps k && match ps[k]? with | none => true | some p => goodP D p && risesAt ps p k) = _
  rw [h]
end Lab
