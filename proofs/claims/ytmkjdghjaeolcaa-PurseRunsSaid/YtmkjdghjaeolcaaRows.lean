/-
  No cell of these rows narrows 'for every input' (looked for: loops, veiled, ifaces, maps, wideKeys, modest, calm, conditions, laid).
  DERIVED. THE GIVEN ROWS OF THIS SEAT. 4 by the template 'for every input the law returns true; each argument reads behind the call as it read before'; 0 by the template 'total and deterministic' (their statements: YtmkjdghjaeolcaaTotals.lean).
  GIVEN WITH THE SEED: the statements are not yours to turn. If you find one false, say at which input.
  Laid BY PROGRAM, IN A SANDBOX (cutbox-rows.mjs): the forced cells as the released guide's own fill.sh prints them over the translation f51337039b7aa577… (all of the seat's roots in one cut). By AI agents, Wed Nov 11 2026. No macro, syntax, notation, axiom, sorry.
-/
import Derived.Test.YtmkjdghjaeolcaaChecked
import GoSem.Claim
import GoSem.ClaimJoined
import GoSem.ClaimMapViews
import Derived.JoinedTies
import Derived.KernelRfl
namespace Go.Proofs.Ytmkjdghjaeolcaa
/- THE CELL 'sum', in the pinned program and in every row, IS THE sha256 OF THE DUMP (.gsa) THAT YtmkjdghjaeolcaaProg.lean LOADS. Nothing in Lean hashes anything: it is a label: what it is worth is what the hold of that sum in a sandbox is worth. -/
noncomputable def Try.pinned : Pinned := { name := "ytmkjdghjaeolcaa", sum := "f51337039b7aa577000c0bbc60a9a0a18f02d3326477417b086b725d4f32654e", checked := Try.checked }
namespace Rows
def none {H : Type} : Left H := { results := [], args := [] }

/-- 'glacislaw12.PurseRuns': WHATEVER THE INPUT: true; the input reads as it did. -/
def purseRunsSpec : ChangeSpec := { name := "purseRuns", fn := fun _ => fun
  | [d1, d2] => { results := [.lit (.bool true)], args := [d1, d2] }
  | _ => none }
def purseRunsRow : OpenClaim := { program := "ytmkjdghjaeolcaa", sum := "f51337039b7aa577000c0bbc60a9a0a18f02d3326477417b086b725d4f32654e", func := "glacis/glacislaw12.PurseRuns", spec := "purseRuns", apart := false }
def PurseRunsSaid : Prop := purseRunsRow.holds Try.pinned (OpenSpec.ofChange purseRunsSpec)

/-- ITS FALSE NEIGHBOUR: 'it returns false'. Refute it at one input. -/
def purseRunsWrong : ChangeSpec := { name := "purseRuns", fn := fun _ => fun
  | [d1, d2] => { results := [.lit (.bool false)], args := [d1, d2] }
  | _ => none }
def PurseRunsWrongFalsely : Prop := purseRunsRow.holds Try.pinned (OpenSpec.ofChange purseRunsWrong)

/-- 'glacislaw12.PurseRight': WHATEVER THE INPUT: true; the input reads as it did. -/
def purseRightSpec : ChangeSpec := { name := "purseRight", fn := fun _ => fun
  | [d1, d2, d3] => { results := [.lit (.bool true)], args := [d1, d2, d3] }
  | _ => none }
def purseRightRow : OpenClaim := { program := "ytmkjdghjaeolcaa", sum := "f51337039b7aa577000c0bbc60a9a0a18f02d3326477417b086b725d4f32654e", func := "glacis/glacislaw12.PurseRight", spec := "purseRight", apart := false }
def PurseRightSaid : Prop := purseRightRow.holds Try.pinned (OpenSpec.ofChange purseRightSpec)

/-- ITS FALSE NEIGHBOUR: 'it returns false'. Refute it at one input. -/
def purseRightWrong : ChangeSpec := { name := "purseRight", fn := fun _ => fun
  | [d1, d2, d3] => { results := [.lit (.bool false)], args := [d1, d2, d3] }
  | _ => none }
def PurseRightWrongFalsely : Prop := purseRightRow.holds Try.pinned (OpenSpec.ofChange purseRightWrong)

/-- 'glacislaw12.PurseWays': WHATEVER THE INPUT: true; the input reads as it did. -/
def purseWaysSpec : ChangeSpec := { name := "purseWays", fn := fun _ => fun
  | [d1, d2, d3] => { results := [.lit (.bool true)], args := [d1, d2, d3] }
  | _ => none }
def purseWaysRow : OpenClaim := { program := "ytmkjdghjaeolcaa", sum := "f51337039b7aa577000c0bbc60a9a0a18f02d3326477417b086b725d4f32654e", func := "glacis/glacislaw12.PurseWays", spec := "purseWays", apart := false }
def PurseWaysSaid : Prop := purseWaysRow.holds Try.pinned (OpenSpec.ofChange purseWaysSpec)

/-- ITS FALSE NEIGHBOUR: 'it returns false'. Refute it at one input. -/
def purseWaysWrong : ChangeSpec := { name := "purseWays", fn := fun _ => fun
  | [d1, d2, d3] => { results := [.lit (.bool false)], args := [d1, d2, d3] }
  | _ => none }
def PurseWaysWrongFalsely : Prop := purseWaysRow.holds Try.pinned (OpenSpec.ofChange purseWaysWrong)

/-- 'glacislaw12.PurseTree': WHATEVER THE INPUT: true; the input reads as it did. -/
def purseTreeSpec : ChangeSpec := { name := "purseTree", fn := fun _ => fun
  | [d1, d2, d3] => { results := [.lit (.bool true)], args := [d1, d2, d3] }
  | _ => none }
def purseTreeRow : OpenClaim := { program := "ytmkjdghjaeolcaa", sum := "f51337039b7aa577000c0bbc60a9a0a18f02d3326477417b086b725d4f32654e", func := "glacis/glacislaw12.PurseTree", spec := "purseTree", apart := false }
def PurseTreeSaid : Prop := purseTreeRow.holds Try.pinned (OpenSpec.ofChange purseTreeSpec)

/-- ITS FALSE NEIGHBOUR: 'it returns false'. Refute it at one input. -/
def purseTreeWrong : ChangeSpec := { name := "purseTree", fn := fun _ => fun
  | [d1, d2, d3] => { results := [.lit (.bool false)], args := [d1, d2, d3] }
  | _ => none }
def PurseTreeWrongFalsely : Prop := purseTreeRow.holds Try.pinned (OpenSpec.ofChange purseTreeWrong)

/- THE SECOND FORM. 'bulk': how many values and letters a reading holds, each counted each time it is reached (what is shared counts as often as it is met; a slice's spare places count too). A statement '..UptoSaid' is the law's where the arguments, and the package variables that the reading takes, are together of bulk at most 1048576: NARROWER than '..Said'. Prove '..Said' where nothing that the law and all that it calls make is longer than what came in: it says more and counts as full. Else prove '..UptoSaid'. A law counts once. -/
mutual
def uptoBulk {H : Type} : DataW H → Nat
  | .lit (.string bytes) => bytes.length + 1
  | .lit _ => 1
  | .nil => 1
  | .ptr d => uptoBulk d + 1
  | .slice elems spare => uptoBulkAll elems + uptoBulkAll spare + 1
  | .agg parts => uptoBulkAll parts + 1
  | .iface _ d => uptoBulk d + 1
  | .map entries => uptoBulkEntries entries + 1
  | .held _ => 1
def uptoBulkAll {H : Type} : List (DataW H) → Nat
  | [] => 0
  | d :: r => uptoBulk d + uptoBulkAll r
def uptoBulkEntries {H : Type} : List (Lit × DataW H) → Nat
  | [] => 0
  | x :: r => uptoBulkEntry x + uptoBulkEntries r
def uptoBulkEntry {H : Type} : Lit × DataW H → Nat
  | (.string bytes, d) => bytes.length + uptoBulk d + 1
  | (_, d) => uptoBulk d + 1
 end
def uptoSmall : (H : Type) → List (DataW H) → Bool := fun _ ds => decide (uptoBulkAll ds ≤ 1048576)
def OpenSpec.upto (s : _root_.Go.ChangeSpec) : _root_.Go.OpenSpec := { _root_.Go.OpenSpec.ofChange s with cond := some uptoSmall }

/-- 'glacislaw12.PurseRuns', WHERE WHAT IT READS IS OF BULK AT MOST 1048576: true; the input reads as it did. -/
def purseRunsUptoRow : OpenClaim := { program := "ytmkjdghjaeolcaa", sum := "f51337039b7aa577000c0bbc60a9a0a18f02d3326477417b086b725d4f32654e", func := "glacis/glacislaw12.PurseRuns", spec := "purseRuns", apart := false, narrowed := true }
def PurseRunsUptoSaid : Prop := purseRunsUptoRow.holds Try.pinned (OpenSpec.upto purseRunsSpec)

/-- 'glacislaw12.PurseRight', WHERE WHAT IT READS IS OF BULK AT MOST 1048576: true; the input reads as it did. -/
def purseRightUptoRow : OpenClaim := { program := "ytmkjdghjaeolcaa", sum := "f51337039b7aa577000c0bbc60a9a0a18f02d3326477417b086b725d4f32654e", func := "glacis/glacislaw12.PurseRight", spec := "purseRight", apart := false, narrowed := true }
def PurseRightUptoSaid : Prop := purseRightUptoRow.holds Try.pinned (OpenSpec.upto purseRightSpec)

/-- 'glacislaw12.PurseWays', WHERE WHAT IT READS IS OF BULK AT MOST 1048576: true; the input reads as it did. -/
def purseWaysUptoRow : OpenClaim := { program := "ytmkjdghjaeolcaa", sum := "f51337039b7aa577000c0bbc60a9a0a18f02d3326477417b086b725d4f32654e", func := "glacis/glacislaw12.PurseWays", spec := "purseWays", apart := false, narrowed := true }
def PurseWaysUptoSaid : Prop := purseWaysUptoRow.holds Try.pinned (OpenSpec.upto purseWaysSpec)

/-- 'glacislaw12.PurseTree', WHERE WHAT IT READS IS OF BULK AT MOST 1048576: true; the input reads as it did. -/
def purseTreeUptoRow : OpenClaim := { program := "ytmkjdghjaeolcaa", sum := "f51337039b7aa577000c0bbc60a9a0a18f02d3326477417b086b725d4f32654e", func := "glacis/glacislaw12.PurseTree", spec := "purseTree", apart := false, narrowed := true }
def PurseTreeUptoSaid : Prop := purseTreeUptoRow.holds Try.pinned (OpenSpec.upto purseTreeSpec)

end Rows
end Go.Proofs.Ytmkjdghjaeolcaa
