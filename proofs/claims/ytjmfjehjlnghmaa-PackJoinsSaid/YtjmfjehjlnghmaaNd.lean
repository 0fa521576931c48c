import Derived.Test.YtjmfjehjlnghmaaRb
import Derived.Test.YtjmfjehjlnghmaaNc
/- A category set. -/
namespace Lab
set_option linter.unusedVariables false
set_option linter.unusedSimpArgs false

/-- A category's level put among the pairs. -/
def put (D : Int) (ps : List (Nat × Int)) (c : Nat) (l : Int) : List (Nat × Int) := ps.filter (fun p => decide (p.1 < c)) ++ ((if l = D then [] else [(c, l)]) ++ ps.filter (fun p => decide (c < p.1)))
end Lab
