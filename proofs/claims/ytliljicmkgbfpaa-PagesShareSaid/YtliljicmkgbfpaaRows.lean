/-
  No cell of these rows narrows 'for every input' (looked for: loops, veiled, ifaces, maps, wideKeys, modest, calm, conditions, laid).
  DERIVED. THE GIVEN ROWS OF THIS SEAT. 4 by the template 'for every input the law returns true; each argument reads behind the call as it read before'; 0 by the template 'total and deterministic' (their statements: YtliljicmkgbfpaaTotals.lean).
  GIVEN WITH THE SEED: the statements are not yours to turn. If you find one false, say at which input.
  Laid BY PROGRAM, IN A SANDBOX (cutbox-rows.mjs): the forced cells as the released guide's own fill.sh prints them over the translation 8033a7891c98f654… (all of the seat's roots in one cut). By AI agents, Wed Nov 11 2026. No macro, syntax, notation, axiom, sorry.
-/
import Derived.Test.YtliljicmkgbfpaaChecked
import GoSem.Claim
import GoSem.ClaimJoined
import GoSem.ClaimMapViews
import Derived.JoinedTies
import Derived.KernelRfl
namespace Go.Proofs.Ytliljicmkgbfpaa
/- THE CELL 'sum', in the pinned program and in every row, IS THE sha256 OF THE DUMP (.gsa) THAT YtliljicmkgbfpaaProg.lean LOADS. Nothing in Lean hashes anything: it is a label: what it is worth is what the hold of that sum in a sandbox is worth. -/
noncomputable def Try.pinned : Pinned := { name := "ytliljicmkgbfpaa", sum := "8033a7891c98f65457aa083a42ab23da7d43b72339fd8763a7f6791970e814e4", checked := Try.checked }
namespace Rows
def none {H : Type} : Left H := { results := [], args := [] }

/-- 'glacislaw07.PagesRuns': WHATEVER THE INPUT: true; the input reads as it did. -/
def pagesRunsSpec : ChangeSpec := { name := "pagesRuns", fn := fun _ => fun
  | [d] => { results := [.lit (.bool true)], args := [d] }
  | _ => none }
def pagesRunsRow : OpenClaim := { program := "ytliljicmkgbfpaa", sum := "8033a7891c98f65457aa083a42ab23da7d43b72339fd8763a7f6791970e814e4", func := "glacis/glacislaw07.PagesRuns", spec := "pagesRuns", unfollowed := true, recurses := true, apart := false }
def PagesRunsSaid : Prop := pagesRunsRow.holds Try.pinned (OpenSpec.ofChange pagesRunsSpec)

/-- ITS FALSE NEIGHBOUR: 'it returns false'. Refute it at one input. -/
def pagesRunsWrong : ChangeSpec := { name := "pagesRuns", fn := fun _ => fun
  | [d] => { results := [.lit (.bool false)], args := [d] }
  | _ => none }
def PagesRunsWrongFalsely : Prop := pagesRunsRow.holds Try.pinned (OpenSpec.ofChange pagesRunsWrong)

/-- 'glacislaw07.PagesStops': WHATEVER THE INPUT: true; the input reads as it did. -/
def pagesStopsSpec : ChangeSpec := { name := "pagesStops", fn := fun _ => fun
  | [d1, d2, d3] => { results := [.lit (.bool true)], args := [d1, d2, d3] }
  | _ => none }
def pagesStopsRow : OpenClaim := { program := "ytliljicmkgbfpaa", sum := "8033a7891c98f65457aa083a42ab23da7d43b72339fd8763a7f6791970e814e4", func := "glacis/glacislaw07.PagesStops", spec := "pagesStops", unfollowed := true, recurses := true, apart := false }
def PagesStopsSaid : Prop := pagesStopsRow.holds Try.pinned (OpenSpec.ofChange pagesStopsSpec)

/-- ITS FALSE NEIGHBOUR: 'it returns false'. Refute it at one input. -/
def pagesStopsWrong : ChangeSpec := { name := "pagesStops", fn := fun _ => fun
  | [d1, d2, d3] => { results := [.lit (.bool false)], args := [d1, d2, d3] }
  | _ => none }
def PagesStopsWrongFalsely : Prop := pagesStopsRow.holds Try.pinned (OpenSpec.ofChange pagesStopsWrong)

/-- 'glacislaw07.PagesShare': WHATEVER THE INPUT: true; the input reads as it did. -/
def pagesShareSpec : ChangeSpec := { name := "pagesShare", fn := fun _ => fun
  | [d1, d2] => { results := [.lit (.bool true)], args := [d1, d2] }
  | _ => none }
def pagesShareRow : OpenClaim := { program := "ytliljicmkgbfpaa", sum := "8033a7891c98f65457aa083a42ab23da7d43b72339fd8763a7f6791970e814e4", func := "glacis/glacislaw07.PagesShare", spec := "pagesShare", apart := false }
def PagesShareSaid : Prop := pagesShareRow.holds Try.pinned (OpenSpec.ofChange pagesShareSpec)

/-- ITS FALSE NEIGHBOUR: 'it returns false'. Refute it at one input. -/
def pagesShareWrong : ChangeSpec := { name := "pagesShare", fn := fun _ => fun
  | [d1, d2] => { results := [.lit (.bool false)], args := [d1, d2] }
  | _ => none }
def PagesShareWrongFalsely : Prop := pagesShareRow.holds Try.pinned (OpenSpec.ofChange pagesShareWrong)

/-- 'glacislaw07.PagesApart': WHATEVER THE INPUT: true; the input reads as it did. -/
def pagesApartSpec : ChangeSpec := { name := "pagesApart", fn := fun _ => fun
  | [d] => { results := [.lit (.bool true)], args := [d] }
  | _ => none }
def pagesApartRow : OpenClaim := { program := "ytliljicmkgbfpaa", sum := "8033a7891c98f65457aa083a42ab23da7d43b72339fd8763a7f6791970e814e4", func := "glacis/glacislaw07.PagesApart", spec := "pagesApart", unfollowed := true, recurses := true, apart := false }
def PagesApartSaid : Prop := pagesApartRow.holds Try.pinned (OpenSpec.ofChange pagesApartSpec)

/-- ITS FALSE NEIGHBOUR: 'it returns false'. Refute it at one input. -/
def pagesApartWrong : ChangeSpec := { name := "pagesApart", fn := fun _ => fun
  | [d] => { results := [.lit (.bool false)], args := [d] }
  | _ => none }
def PagesApartWrongFalsely : Prop := pagesApartRow.holds Try.pinned (OpenSpec.ofChange pagesApartWrong)

/- THE SECOND FORM. 'bulk': how many values and letters a reading holds, each counted each time it is reached (what is shared counts as often as it is met; a slice's spare places count too). A statement '..UptoSaid' is the law's where the arguments, and the package variables that the reading takes, are together of bulk at most 1048576: NARROWER than '..Said'. Prove '..Said' where nothing that the law and all that it calls make is longer than what came in: it says more and counts as full. Else prove '..UptoSaid'. A law counts once. -/
mutual
def uptoBulk {H : Type} : DataW H → Nat
  | .lit (.string bytes) => bytes.length + 1
  | .lit _ => 1
  | .nil => 1
  | .ptr d => uptoBulk d + 1
  | .slice elems spare => uptoBulkAll elems + uptoBulkAll spare + 1
  | .agg parts => uptoBulkAll parts + 1
  | .iface _ d => uptoBulk d + 1
  | .map entries => uptoBulkEntries entries + 1
  | .held _ => 1
def uptoBulkAll {H : Type} : List (DataW H) → Nat
  | [] => 0
  | d :: r => uptoBulk d + uptoBulkAll r
def uptoBulkEntries {H : Type} : List (Lit × DataW H) → Nat
  | [] => 0
  | x :: r => uptoBulkEntry x + uptoBulkEntries r
def uptoBulkEntry {H : Type} : Lit × DataW H → Nat
  | (.string bytes, d) => bytes.length + uptoBulk d + 1
  | (_, d) => uptoBulk d + 1
 end
def uptoSmall : (H : Type) → List (DataW H) → Bool := fun _ ds => decide (uptoBulkAll ds ≤ 1048576)
def OpenSpec.upto (s : _root_.Go.ChangeSpec) : _root_.Go.OpenSpec := { _root_.Go.OpenSpec.ofChange s with cond := some uptoSmall }

/-- 'glacislaw07.PagesRuns', WHERE WHAT IT READS IS OF BULK AT MOST 1048576: true; the input reads as it did. -/
def pagesRunsUptoRow : OpenClaim := { program := "ytliljicmkgbfpaa", sum := "8033a7891c98f65457aa083a42ab23da7d43b72339fd8763a7f6791970e814e4", func := "glacis/glacislaw07.PagesRuns", spec := "pagesRuns", unfollowed := true, recurses := true, apart := false, narrowed := true }
def PagesRunsUptoSaid : Prop := pagesRunsUptoRow.holds Try.pinned (OpenSpec.upto pagesRunsSpec)

/-- 'glacislaw07.PagesStops', WHERE WHAT IT READS IS OF BULK AT MOST 1048576: true; the input reads as it did. -/
def pagesStopsUptoRow : OpenClaim := { program := "ytliljicmkgbfpaa", sum := "8033a7891c98f65457aa083a42ab23da7d43b72339fd8763a7f6791970e814e4", func := "glacis/glacislaw07.PagesStops", spec := "pagesStops", unfollowed := true, recurses := true, apart := false, narrowed := true }
def PagesStopsUptoSaid : Prop := pagesStopsUptoRow.holds Try.pinned (OpenSpec.upto pagesStopsSpec)

/-- 'glacislaw07.PagesShare', WHERE WHAT IT READS IS OF BULK AT MOST 1048576: true; the input reads as it did. -/
def pagesShareUptoRow : OpenClaim := { program := "ytliljicmkgbfpaa", sum := "8033a7891c98f65457aa083a42ab23da7d43b72339fd8763a7f6791970e814e4", func := "glacis/glacislaw07.PagesShare", spec := "pagesShare", apart := false, narrowed := true }
def PagesShareUptoSaid : Prop := pagesShareUptoRow.holds Try.pinned (OpenSpec.upto pagesShareSpec)

/-- 'glacislaw07.PagesApart', WHERE WHAT IT READS IS OF BULK AT MOST 1048576: true; the input reads as it did. -/
def pagesApartUptoRow : OpenClaim := { program := "ytliljicmkgbfpaa", sum := "8033a7891c98f65457aa083a42ab23da7d43b72339fd8763a7f6791970e814e4", func := "glacis/glacislaw07.PagesApart", spec := "pagesApart", unfollowed := true, recurses := true, apart := false, narrowed := true }
def PagesApartUptoSaid : Prop := pagesApartUptoRow.holds Try.pinned (OpenSpec.upto pagesApartSpec)

end Rows
end Go.Proofs.Ytliljicmkgbfpaa
