/-
  No cell of these rows narrows 'for every input' (looked for: loops, veiled, ifaces, maps, wideKeys, modest, calm, conditions, laid).
  DERIVED. THE GIVEN ROWS OF THIS SEAT. 4 by the template 'for every input the law returns true; each argument reads behind the call as it read before'; 0 by the template 'total and deterministic' (their statements: YtoccgbfnbpkphaaTotals.lean).
  GIVEN WITH THE SEED: the statements are not yours to turn. If you find one false, say at which input.
  Laid BY PROGRAM, IN A SANDBOX (cutbox-rows.mjs): the forced cells as the released guide's own fill.sh prints them over the translation e6694b38b8b1c4a8… (all of the seat's roots in one cut). By AI agents, Wed Nov 11 2026. No macro, syntax, notation, axiom, sorry.
-/
import Derived.Test.YtoccgbfnbpkphaaChecked
import GoSem.Claim
import GoSem.ClaimJoined
import GoSem.ClaimMapViews
import Derived.JoinedTies
import Derived.KernelRfl
namespace Go.Proofs.Ytoccgbfnbpkphaa
/- THE CELL 'sum', in the pinned program and in every row, IS THE sha256 OF THE DUMP (.gsa) THAT YtoccgbfnbpkphaaProg.lean LOADS. Nothing in Lean hashes anything: it is a label: what it is worth is what the hold of that sum in a sandbox is worth. -/
noncomputable def Try.pinned : Pinned := { name := "ytoccgbfnbpkphaa", sum := "e6694b38b8b1c4a86f8a5590e87de1c0409e97a32956b9b70796bdd6fe5caad5", checked := Try.checked }
namespace Rows
def none {H : Type} : Left H := { results := [], args := [] }

/-- 'glacislaw10.RingRuns': WHATEVER THE INPUT: true; the input reads as it did. -/
def ringRunsSpec : ChangeSpec := { name := "ringRuns", fn := fun _ => fun
  | [d] => { results := [.lit (.bool true)], args := [d] }
  | _ => none }
def ringRunsRow : OpenClaim := { program := "ytoccgbfnbpkphaa", sum := "e6694b38b8b1c4a86f8a5590e87de1c0409e97a32956b9b70796bdd6fe5caad5", func := "glacis/glacislaw10.RingRuns", spec := "ringRuns", unfollowed := true, recurses := true, apart := false }
def RingRunsSaid : Prop := ringRunsRow.holds Try.pinned (OpenSpec.ofChange ringRunsSpec)

/-- ITS FALSE NEIGHBOUR: 'it returns false'. Refute it at one input. -/
def ringRunsWrong : ChangeSpec := { name := "ringRuns", fn := fun _ => fun
  | [d] => { results := [.lit (.bool false)], args := [d] }
  | _ => none }
def RingRunsWrongFalsely : Prop := ringRunsRow.holds Try.pinned (OpenSpec.ofChange ringRunsWrong)

/-- 'glacislaw10.RingMemory': WHATEVER THE INPUT: true; the input reads as it did. -/
def ringMemorySpec : ChangeSpec := { name := "ringMemory", fn := fun _ => fun
  | [d1, d2] => { results := [.lit (.bool true)], args := [d1, d2] }
  | _ => none }
def ringMemoryRow : OpenClaim := { program := "ytoccgbfnbpkphaa", sum := "e6694b38b8b1c4a86f8a5590e87de1c0409e97a32956b9b70796bdd6fe5caad5", func := "glacis/glacislaw10.RingMemory", spec := "ringMemory", unfollowed := true, recurses := true, apart := false }
def RingMemorySaid : Prop := ringMemoryRow.holds Try.pinned (OpenSpec.ofChange ringMemorySpec)

/-- ITS FALSE NEIGHBOUR: 'it returns false'. Refute it at one input. -/
def ringMemoryWrong : ChangeSpec := { name := "ringMemory", fn := fun _ => fun
  | [d1, d2] => { results := [.lit (.bool false)], args := [d1, d2] }
  | _ => none }
def RingMemoryWrongFalsely : Prop := ringMemoryRow.holds Try.pinned (OpenSpec.ofChange ringMemoryWrong)

/-- 'glacislaw10.RingFull': WHATEVER THE INPUT: true; the input reads as it did. -/
def ringFullSpec : ChangeSpec := { name := "ringFull", fn := fun _ => fun
  | [d] => { results := [.lit (.bool true)], args := [d] }
  | _ => none }
def ringFullRow : OpenClaim := { program := "ytoccgbfnbpkphaa", sum := "e6694b38b8b1c4a86f8a5590e87de1c0409e97a32956b9b70796bdd6fe5caad5", func := "glacis/glacislaw10.RingFull", spec := "ringFull", apart := false }
def RingFullSaid : Prop := ringFullRow.holds Try.pinned (OpenSpec.ofChange ringFullSpec)

/-- ITS FALSE NEIGHBOUR: 'it returns false'. Refute it at one input. -/
def ringFullWrong : ChangeSpec := { name := "ringFull", fn := fun _ => fun
  | [d] => { results := [.lit (.bool false)], args := [d] }
  | _ => none }
def RingFullWrongFalsely : Prop := ringFullRow.holds Try.pinned (OpenSpec.ofChange ringFullWrong)

/-- 'glacislaw10.RingCut': WHATEVER THE INPUT: true; the input reads as it did. -/
def ringCutSpec : ChangeSpec := { name := "ringCut", fn := fun _ => fun
  | [d1, d2] => { results := [.lit (.bool true)], args := [d1, d2] }
  | _ => none }
def ringCutRow : OpenClaim := { program := "ytoccgbfnbpkphaa", sum := "e6694b38b8b1c4a86f8a5590e87de1c0409e97a32956b9b70796bdd6fe5caad5", func := "glacis/glacislaw10.RingCut", spec := "ringCut", apart := false }
def RingCutSaid : Prop := ringCutRow.holds Try.pinned (OpenSpec.ofChange ringCutSpec)

/-- ITS FALSE NEIGHBOUR: 'it returns false'. Refute it at one input. -/
def ringCutWrong : ChangeSpec := { name := "ringCut", fn := fun _ => fun
  | [d1, d2] => { results := [.lit (.bool false)], args := [d1, d2] }
  | _ => none }
def RingCutWrongFalsely : Prop := ringCutRow.holds Try.pinned (OpenSpec.ofChange ringCutWrong)

/- THE SECOND FORM. 'bulk': how many values and letters a reading holds, each counted each time it is reached (what is shared counts as often as it is met; a slice's spare places count too). A statement '..UptoSaid' is the law's where the arguments, and the package variables that the reading takes, are together of bulk at most 1048576: NARROWER than '..Said'. Prove '..Said' where nothing that the law and all that it calls make is longer than what came in: it says more and counts as full. Else prove '..UptoSaid'. A law counts once. -/
mutual
def uptoBulk {H : Type} : DataW H → Nat
  | .lit (.string bytes) => bytes.length + 1
  | .lit _ => 1
  | .nil => 1
  | .ptr d => uptoBulk d + 1
  | .slice elems spare => uptoBulkAll elems + uptoBulkAll spare + 1
  | .agg parts => uptoBulkAll parts + 1
  | .iface _ d => uptoBulk d + 1
  | .map entries => uptoBulkEntries entries + 1
  | .held _ => 1
def uptoBulkAll {H : Type} : List (DataW H) → Nat
  | [] => 0
  | d :: r => uptoBulk d + uptoBulkAll r
def uptoBulkEntries {H : Type} : List (Lit × DataW H) → Nat
  | [] => 0
  | x :: r => uptoBulkEntry x + uptoBulkEntries r
def uptoBulkEntry {H : Type} : Lit × DataW H → Nat
  | (.string bytes, d) => bytes.length + uptoBulk d + 1
  | (_, d) => uptoBulk d + 1
 end
def uptoSmall : (H : Type) → List (DataW H) → Bool := fun _ ds => decide (uptoBulkAll ds ≤ 1048576)
def OpenSpec.upto (s : _root_.Go.ChangeSpec) : _root_.Go.OpenSpec := { _root_.Go.OpenSpec.ofChange s with cond := some uptoSmall }

/-- 'glacislaw10.RingRuns', WHERE WHAT IT READS IS OF BULK AT MOST 1048576: true; the input reads as it did. -/
def ringRunsUptoRow : OpenClaim := { program := "ytoccgbfnbpkphaa", sum := "e6694b38b8b1c4a86f8a5590e87de1c0409e97a32956b9b70796bdd6fe5caad5", func := "glacis/glacislaw10.RingRuns", spec := "ringRuns", unfollowed := true, recurses := true, apart := false, narrowed := true }
def RingRunsUptoSaid : Prop := ringRunsUptoRow.holds Try.pinned (OpenSpec.upto ringRunsSpec)

/-- 'glacislaw10.RingMemory', WHERE WHAT IT READS IS OF BULK AT MOST 1048576: true; the input reads as it did. -/
def ringMemoryUptoRow : OpenClaim := { program := "ytoccgbfnbpkphaa", sum := "e6694b38b8b1c4a86f8a5590e87de1c0409e97a32956b9b70796bdd6fe5caad5", func := "glacis/glacislaw10.RingMemory", spec := "ringMemory", unfollowed := true, recurses := true, apart := false, narrowed := true }
def RingMemoryUptoSaid : Prop := ringMemoryUptoRow.holds Try.pinned (OpenSpec.upto ringMemorySpec)

/-- 'glacislaw10.RingFull', WHERE WHAT IT READS IS OF BULK AT MOST 1048576: true; the input reads as it did. -/
def ringFullUptoRow : OpenClaim := { program := "ytoccgbfnbpkphaa", sum := "e6694b38b8b1c4a86f8a5590e87de1c0409e97a32956b9b70796bdd6fe5caad5", func := "glacis/glacislaw10.RingFull", spec := "ringFull", apart := false, narrowed := true }
def RingFullUptoSaid : Prop := ringFullUptoRow.holds Try.pinned (OpenSpec.upto ringFullSpec)

/-- 'glacislaw10.RingCut', WHERE WHAT IT READS IS OF BULK AT MOST 1048576: true; the input reads as it did. -/
def ringCutUptoRow : OpenClaim := { program := "ytoccgbfnbpkphaa", sum := "e6694b38b8b1c4a86f8a5590e87de1c0409e97a32956b9b70796bdd6fe5caad5", func := "glacis/glacislaw10.RingCut", spec := "ringCut", apart := false, narrowed := true }
def RingCutUptoSaid : Prop := ringCutUptoRow.holds Try.pinned (OpenSpec.upto ringCutSpec)

end Rows
end Go.Proofs.Ytoccgbfnbpkphaa
