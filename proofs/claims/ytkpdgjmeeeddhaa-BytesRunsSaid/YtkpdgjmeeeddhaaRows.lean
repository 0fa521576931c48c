/-
  No cell of these rows narrows 'for every input' (looked for: loops, veiled, ifaces, maps, wideKeys, modest, calm, conditions, laid).
  DERIVED. THE GIVEN ROWS OF THIS SEAT. 4 by the template 'for every input the law returns true; each argument reads behind the call as it read before'; 0 by the template 'total and deterministic' (their statements: YtkpdgjmeeeddhaaTotals.lean).
  GIVEN WITH THE SEED: the statements are not yours to turn. If you find one false, say at which input.
  Laid BY PROGRAM, IN A SANDBOX (cutbox-rows.mjs): the forced cells as the released guide's own fill.sh prints them over the translation 6129cf10bbe4ca44… (all of the seat's roots in one cut). By AI agents, Wed Nov 11 2026. No macro, syntax, notation, axiom, sorry.
-/
import Derived.Test.YtkpdgjmeeeddhaaChecked
import GoSem.Claim
import GoSem.ClaimJoined
import GoSem.ClaimMapViews
import Derived.JoinedTies
import Derived.KernelRfl
namespace Go.Proofs.Ytkpdgjmeeeddhaa
/- THE CELL 'sum', in the pinned program and in every row, IS THE sha256 OF THE DUMP (.gsa) THAT YtkpdgjmeeeddhaaProg.lean LOADS. Nothing in Lean hashes anything: it is a label: what it is worth is what the hold of that sum in a sandbox is worth. -/
noncomputable def Try.pinned : Pinned := { name := "ytkpdgjmeeeddhaa", sum := "6129cf10bbe4ca44d63df01d42f9f2ebdc09a91bdd709a294970737695d8d87d", checked := Try.checked }
namespace Rows
def none {H : Type} : Left H := { results := [], args := [] }

/-- 'glacislaw14.BytesRuns': WHATEVER THE INPUT: true; the input reads as it did. -/
def bytesRunsSpec : ChangeSpec := { name := "bytesRuns", fn := fun _ => fun
  | [d] => { results := [.lit (.bool true)], args := [d] }
  | _ => none }
def bytesRunsRow : OpenClaim := { program := "ytkpdgjmeeeddhaa", sum := "6129cf10bbe4ca44d63df01d42f9f2ebdc09a91bdd709a294970737695d8d87d", func := "glacis/glacislaw14.BytesRuns", spec := "bytesRuns", unfollowed := true, recurses := true, apart := false }
def BytesRunsSaid : Prop := bytesRunsRow.holds Try.pinned (OpenSpec.ofChange bytesRunsSpec)

/-- ITS FALSE NEIGHBOUR: 'it returns false'. Refute it at one input. -/
def bytesRunsWrong : ChangeSpec := { name := "bytesRuns", fn := fun _ => fun
  | [d] => { results := [.lit (.bool false)], args := [d] }
  | _ => none }
def BytesRunsWrongFalsely : Prop := bytesRunsRow.holds Try.pinned (OpenSpec.ofChange bytesRunsWrong)

/-- 'glacislaw14.BytesFrames': WHATEVER THE INPUT: true; the input reads as it did. -/
def bytesFramesSpec : ChangeSpec := { name := "bytesFrames", fn := fun _ => fun
  | [d1, d2] => { results := [.lit (.bool true)], args := [d1, d2] }
  | _ => none }
def bytesFramesRow : OpenClaim := { program := "ytkpdgjmeeeddhaa", sum := "6129cf10bbe4ca44d63df01d42f9f2ebdc09a91bdd709a294970737695d8d87d", func := "glacis/glacislaw14.BytesFrames", spec := "bytesFrames", apart := false }
def BytesFramesSaid : Prop := bytesFramesRow.holds Try.pinned (OpenSpec.ofChange bytesFramesSpec)

/-- ITS FALSE NEIGHBOUR: 'it returns false'. Refute it at one input. -/
def bytesFramesWrong : ChangeSpec := { name := "bytesFrames", fn := fun _ => fun
  | [d1, d2] => { results := [.lit (.bool false)], args := [d1, d2] }
  | _ => none }
def BytesFramesWrongFalsely : Prop := bytesFramesRow.holds Try.pinned (OpenSpec.ofChange bytesFramesWrong)

/-- 'glacislaw14.BytesNums': WHATEVER THE INPUT: true; the input reads as it did. -/
def bytesNumsSpec : ChangeSpec := { name := "bytesNums", fn := fun _ => fun
  | [d1, d2, d3] => { results := [.lit (.bool true)], args := [d1, d2, d3] }
  | _ => none }
def bytesNumsRow : OpenClaim := { program := "ytkpdgjmeeeddhaa", sum := "6129cf10bbe4ca44d63df01d42f9f2ebdc09a91bdd709a294970737695d8d87d", func := "glacis/glacislaw14.BytesNums", spec := "bytesNums", apart := false }
def BytesNumsSaid : Prop := bytesNumsRow.holds Try.pinned (OpenSpec.ofChange bytesNumsSpec)

/-- ITS FALSE NEIGHBOUR: 'it returns false'. Refute it at one input. -/
def bytesNumsWrong : ChangeSpec := { name := "bytesNums", fn := fun _ => fun
  | [d1, d2, d3] => { results := [.lit (.bool false)], args := [d1, d2, d3] }
  | _ => none }
def BytesNumsWrongFalsely : Prop := bytesNumsRow.holds Try.pinned (OpenSpec.ofChange bytesNumsWrong)

/-- 'glacislaw14.BytesGrow': WHATEVER THE INPUT: true; the input reads as it did. -/
def bytesGrowSpec : ChangeSpec := { name := "bytesGrow", fn := fun _ => fun
  | [d1, d2] => { results := [.lit (.bool true)], args := [d1, d2] }
  | _ => none }
def bytesGrowRow : OpenClaim := { program := "ytkpdgjmeeeddhaa", sum := "6129cf10bbe4ca44d63df01d42f9f2ebdc09a91bdd709a294970737695d8d87d", func := "glacis/glacislaw14.BytesGrow", spec := "bytesGrow", apart := false }
def BytesGrowSaid : Prop := bytesGrowRow.holds Try.pinned (OpenSpec.ofChange bytesGrowSpec)

/-- ITS FALSE NEIGHBOUR: 'it returns false'. Refute it at one input. -/
def bytesGrowWrong : ChangeSpec := { name := "bytesGrow", fn := fun _ => fun
  | [d1, d2] => { results := [.lit (.bool false)], args := [d1, d2] }
  | _ => none }
def BytesGrowWrongFalsely : Prop := bytesGrowRow.holds Try.pinned (OpenSpec.ofChange bytesGrowWrong)

/- THE SECOND FORM. 'bulk': how many values and letters a reading holds, each counted each time it is reached (what is shared counts as often as it is met; a slice's spare places count too). A statement '..UptoSaid' is the law's where the arguments, and the package variables that the reading takes, are together of bulk at most 1048576: NARROWER than '..Said'. Prove '..Said' where nothing that the law and all that it calls make is longer than what came in: it says more and counts as full. Else prove '..UptoSaid'. A law counts once. -/
mutual
def uptoBulk {H : Type} : DataW H → Nat
  | .lit (.string bytes) => bytes.length + 1
  | .lit _ => 1
  | .nil => 1
  | .ptr d => uptoBulk d + 1
  | .slice elems spare => uptoBulkAll elems + uptoBulkAll spare + 1
  | .agg parts => uptoBulkAll parts + 1
  | .iface _ d => uptoBulk d + 1
  | .map entries => uptoBulkEntries entries + 1
  | .held _ => 1
def uptoBulkAll {H : Type} : List (DataW H) → Nat
  | [] => 0
  | d :: r => uptoBulk d + uptoBulkAll r
def uptoBulkEntries {H : Type} : List (Lit × DataW H) → Nat
  | [] => 0
  | x :: r => uptoBulkEntry x + uptoBulkEntries r
def uptoBulkEntry {H : Type} : Lit × DataW H → Nat
  | (.string bytes, d) => bytes.length + uptoBulk d + 1
  | (_, d) => uptoBulk d + 1
 end
def uptoSmall : (H : Type) → List (DataW H) → Bool := fun _ ds => decide (uptoBulkAll ds ≤ 1048576)
def OpenSpec.upto (s : _root_.Go.ChangeSpec) : _root_.Go.OpenSpec := { _root_.Go.OpenSpec.ofChange s with cond := some uptoSmall }

/-- 'glacislaw14.BytesRuns', WHERE WHAT IT READS IS OF BULK AT MOST 1048576: true; the input reads as it did. -/
def bytesRunsUptoRow : OpenClaim := { program := "ytkpdgjmeeeddhaa", sum := "6129cf10bbe4ca44d63df01d42f9f2ebdc09a91bdd709a294970737695d8d87d", func := "glacis/glacislaw14.BytesRuns", spec := "bytesRuns", unfollowed := true, recurses := true, apart := false, narrowed := true }
def BytesRunsUptoSaid : Prop := bytesRunsUptoRow.holds Try.pinned (OpenSpec.upto bytesRunsSpec)

/-- 'glacislaw14.BytesFrames', WHERE WHAT IT READS IS OF BULK AT MOST 1048576: true; the input reads as it did. -/
def bytesFramesUptoRow : OpenClaim := { program := "ytkpdgjmeeeddhaa", sum := "6129cf10bbe4ca44d63df01d42f9f2ebdc09a91bdd709a294970737695d8d87d", func := "glacis/glacislaw14.BytesFrames", spec := "bytesFrames", apart := false, narrowed := true }
def BytesFramesUptoSaid : Prop := bytesFramesUptoRow.holds Try.pinned (OpenSpec.upto bytesFramesSpec)

/-- 'glacislaw14.BytesNums', WHERE WHAT IT READS IS OF BULK AT MOST 1048576: true; the input reads as it did. -/
def bytesNumsUptoRow : OpenClaim := { program := "ytkpdgjmeeeddhaa", sum := "6129cf10bbe4ca44d63df01d42f9f2ebdc09a91bdd709a294970737695d8d87d", func := "glacis/glacislaw14.BytesNums", spec := "bytesNums", apart := false, narrowed := true }
def BytesNumsUptoSaid : Prop := bytesNumsUptoRow.holds Try.pinned (OpenSpec.upto bytesNumsSpec)

/-- 'glacislaw14.BytesGrow', WHERE WHAT IT READS IS OF BULK AT MOST 1048576: true; the input reads as it did. -/
def bytesGrowUptoRow : OpenClaim := { program := "ytkpdgjmeeeddhaa", sum := "6129cf10bbe4ca44d63df01d42f9f2ebdc09a91bdd709a294970737695d8d87d", func := "glacis/glacislaw14.BytesGrow", spec := "bytesGrow", apart := false, narrowed := true }
def BytesGrowUptoSaid : Prop := bytesGrowUptoRow.holds Try.pinned (OpenSpec.upto bytesGrowSpec)

end Rows
end Go.Proofs.Ytkpdgjmeeeddhaa
