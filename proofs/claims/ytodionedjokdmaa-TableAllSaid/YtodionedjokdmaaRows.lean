/-
  No cell of these rows narrows 'for every input' (looked for: loops, veiled, ifaces, maps, wideKeys, modest, calm, conditions, laid).
  DERIVED. THE GIVEN ROWS OF THIS SEAT. 5 by the template 'for every input the law returns true; each argument reads behind the call as it read before'; 0 by the template 'total and deterministic' (their statements: YtodionedjokdmaaTotals.lean).
  GIVEN WITH THE SEED: the statements are not yours to turn. If you find one false, say at which input.
  Laid BY PROGRAM, IN A SANDBOX (cutbox-rows.mjs): the forced cells as the released guide's own fill.sh prints them over the translation a1fe0a238246a5d2… (all of the seat's roots in one cut). By AI agents, Wed Nov 11 2026. No macro, syntax, notation, axiom, sorry.
-/
import Derived.Test.YtodionedjokdmaaChecked
import GoSem.Claim
import GoSem.ClaimJoined
import GoSem.ClaimMapViews
import Derived.JoinedTies
import Derived.KernelRfl
namespace Go.Proofs.Ytodionedjokdmaa
/- THE CELL 'sum', in the pinned program and in every row, IS THE sha256 OF THE DUMP (.gsa) THAT YtodionedjokdmaaProg.lean LOADS. Nothing in Lean hashes anything: it is a label: what it is worth is what the hold of that sum in a sandbox is worth. -/
noncomputable def Try.pinned : Pinned := { name := "ytodionedjokdmaa", sum := "a1fe0a238246a5d2930be72cd220a5e97945caf5b78b9dbcd896c1afe1b5623f", checked := Try.checked }
namespace Rows
def none {H : Type} : Left H := { results := [], args := [] }

/-- 'glacislaw19.TableRuns': WHATEVER THE INPUT: true; the input reads as it did. -/
def tableRunsSpec : ChangeSpec := { name := "tableRuns", fn := fun _ => fun
  | [d] => { results := [.lit (.bool true)], args := [d] }
  | _ => none }
def tableRunsRow : OpenClaim := { program := "ytodionedjokdmaa", sum := "a1fe0a238246a5d2930be72cd220a5e97945caf5b78b9dbcd896c1afe1b5623f", func := "glacis/glacislaw19.TableRuns", spec := "tableRuns", unfollowed := true, recurses := true, apart := false }
def TableRunsSaid : Prop := tableRunsRow.holds Try.pinned (OpenSpec.ofChange tableRunsSpec)

/-- ITS FALSE NEIGHBOUR: 'it returns false'. Refute it at one input. -/
def tableRunsWrong : ChangeSpec := { name := "tableRuns", fn := fun _ => fun
  | [d] => { results := [.lit (.bool false)], args := [d] }
  | _ => none }
def TableRunsWrongFalsely : Prop := tableRunsRow.holds Try.pinned (OpenSpec.ofChange tableRunsWrong)

/-- 'glacislaw19.TableThreads': WHATEVER THE INPUT: true; the input reads as it did. -/
def tableThreadsSpec : ChangeSpec := { name := "tableThreads", fn := fun _ => fun
  | [d] => { results := [.lit (.bool true)], args := [d] }
  | _ => none }
def tableThreadsRow : OpenClaim := { program := "ytodionedjokdmaa", sum := "a1fe0a238246a5d2930be72cd220a5e97945caf5b78b9dbcd896c1afe1b5623f", func := "glacis/glacislaw19.TableThreads", spec := "tableThreads", unfollowed := true, recurses := true, apart := false }
def TableThreadsSaid : Prop := tableThreadsRow.holds Try.pinned (OpenSpec.ofChange tableThreadsSpec)

/-- ITS FALSE NEIGHBOUR: 'it returns false'. Refute it at one input. -/
def tableThreadsWrong : ChangeSpec := { name := "tableThreads", fn := fun _ => fun
  | [d] => { results := [.lit (.bool false)], args := [d] }
  | _ => none }
def TableThreadsWrongFalsely : Prop := tableThreadsRow.holds Try.pinned (OpenSpec.ofChange tableThreadsWrong)

/-- 'glacislaw19.TableLooks': WHATEVER THE INPUT: true; the input reads as it did. -/
def tableLooksSpec : ChangeSpec := { name := "tableLooks", fn := fun _ => fun
  | [d1, d2] => { results := [.lit (.bool true)], args := [d1, d2] }
  | _ => none }
def tableLooksRow : OpenClaim := { program := "ytodionedjokdmaa", sum := "a1fe0a238246a5d2930be72cd220a5e97945caf5b78b9dbcd896c1afe1b5623f", func := "glacis/glacislaw19.TableLooks", spec := "tableLooks", unfollowed := true, recurses := true, apart := false }
def TableLooksSaid : Prop := tableLooksRow.holds Try.pinned (OpenSpec.ofChange tableLooksSpec)

/-- ITS FALSE NEIGHBOUR: 'it returns false'. Refute it at one input. -/
def tableLooksWrong : ChangeSpec := { name := "tableLooks", fn := fun _ => fun
  | [d1, d2] => { results := [.lit (.bool false)], args := [d1, d2] }
  | _ => none }
def TableLooksWrongFalsely : Prop := tableLooksRow.holds Try.pinned (OpenSpec.ofChange tableLooksWrong)

/-- 'glacislaw19.TableAll': WHATEVER THE INPUT: true; the input reads as it did. -/
def tableAllSpec : ChangeSpec := { name := "tableAll", fn := fun _ => fun
  | [d1, d2] => { results := [.lit (.bool true)], args := [d1, d2] }
  | _ => none }
def tableAllRow : OpenClaim := { program := "ytodionedjokdmaa", sum := "a1fe0a238246a5d2930be72cd220a5e97945caf5b78b9dbcd896c1afe1b5623f", func := "glacis/glacislaw19.TableAll", spec := "tableAll", unfollowed := true, recurses := true, apart := false }
def TableAllSaid : Prop := tableAllRow.holds Try.pinned (OpenSpec.ofChange tableAllSpec)

/-- ITS FALSE NEIGHBOUR: 'it returns false'. Refute it at one input. -/
def tableAllWrong : ChangeSpec := { name := "tableAll", fn := fun _ => fun
  | [d1, d2] => { results := [.lit (.bool false)], args := [d1, d2] }
  | _ => none }
def TableAllWrongFalsely : Prop := tableAllRow.holds Try.pinned (OpenSpec.ofChange tableAllWrong)

/-- 'glacislaw19.TableKids': WHATEVER THE INPUT: true; the input reads as it did. -/
def tableKidsSpec : ChangeSpec := { name := "tableKids", fn := fun _ => fun
  | [d] => { results := [.lit (.bool true)], args := [d] }
  | _ => none }
def tableKidsRow : OpenClaim := { program := "ytodionedjokdmaa", sum := "a1fe0a238246a5d2930be72cd220a5e97945caf5b78b9dbcd896c1afe1b5623f", func := "glacis/glacislaw19.TableKids", spec := "tableKids", unfollowed := true, recurses := true, apart := false }
def TableKidsSaid : Prop := tableKidsRow.holds Try.pinned (OpenSpec.ofChange tableKidsSpec)

/-- ITS FALSE NEIGHBOUR: 'it returns false'. Refute it at one input. -/
def tableKidsWrong : ChangeSpec := { name := "tableKids", fn := fun _ => fun
  | [d] => { results := [.lit (.bool false)], args := [d] }
  | _ => none }
def TableKidsWrongFalsely : Prop := tableKidsRow.holds Try.pinned (OpenSpec.ofChange tableKidsWrong)

/- THE SECOND FORM. 'bulk': how many values and letters a reading holds, each counted each time it is reached (what is shared counts as often as it is met; a slice's spare places count too). A statement '..UptoSaid' is the law's where the arguments, and the package variables that the reading takes, are together of bulk at most 1048576: NARROWER than '..Said'. Prove '..Said' where nothing that the law and all that it calls make is longer than what came in: it says more and counts as full. Else prove '..UptoSaid'. A law counts once. -/
mutual
def uptoBulk {H : Type} : DataW H → Nat
  | .lit (.string bytes) => bytes.length + 1
  | .lit _ => 1
  | .nil => 1
  | .ptr d => uptoBulk d + 1
  | .slice elems spare => uptoBulkAll elems + uptoBulkAll spare + 1
  | .agg parts => uptoBulkAll parts + 1
  | .iface _ d => uptoBulk d + 1
  | .map entries => uptoBulkEntries entries + 1
  | .held _ => 1
def uptoBulkAll {H : Type} : List (DataW H) → Nat
  | [] => 0
  | d :: r => uptoBulk d + uptoBulkAll r
def uptoBulkEntries {H : Type} : List (Lit × DataW H) → Nat
  | [] => 0
  | x :: r => uptoBulkEntry x + uptoBulkEntries r
def uptoBulkEntry {H : Type} : Lit × DataW H → Nat
  | (.string bytes, d) => bytes.length + uptoBulk d + 1
  | (_, d) => uptoBulk d + 1
 end
def uptoSmall : (H : Type) → List (DataW H) → Bool := fun _ ds => decide (uptoBulkAll ds ≤ 1048576)
def OpenSpec.upto (s : _root_.Go.ChangeSpec) : _root_.Go.OpenSpec := { _root_.Go.OpenSpec.ofChange s with cond := some uptoSmall }

/-- 'glacislaw19.TableRuns', WHERE WHAT IT READS IS OF BULK AT MOST 1048576: true; the input reads as it did. -/
def tableRunsUptoRow : OpenClaim := { program := "ytodionedjokdmaa", sum := "a1fe0a238246a5d2930be72cd220a5e97945caf5b78b9dbcd896c1afe1b5623f", func := "glacis/glacislaw19.TableRuns", spec := "tableRuns", unfollowed := true, recurses := true, apart := false, narrowed := true }
def TableRunsUptoSaid : Prop := tableRunsUptoRow.holds Try.pinned (OpenSpec.upto tableRunsSpec)

/-- 'glacislaw19.TableThreads', WHERE WHAT IT READS IS OF BULK AT MOST 1048576: true; the input reads as it did. -/
def tableThreadsUptoRow : OpenClaim := { program := "ytodionedjokdmaa", sum := "a1fe0a238246a5d2930be72cd220a5e97945caf5b78b9dbcd896c1afe1b5623f", func := "glacis/glacislaw19.TableThreads", spec := "tableThreads", unfollowed := true, recurses := true, apart := false, narrowed := true }
def TableThreadsUptoSaid : Prop := tableThreadsUptoRow.holds Try.pinned (OpenSpec.upto tableThreadsSpec)

/-- 'glacislaw19.TableLooks', WHERE WHAT IT READS IS OF BULK AT MOST 1048576: true; the input reads as it did. -/
def tableLooksUptoRow : OpenClaim := { program := "ytodionedjokdmaa", sum := "a1fe0a238246a5d2930be72cd220a5e97945caf5b78b9dbcd896c1afe1b5623f", func := "glacis/glacislaw19.TableLooks", spec := "tableLooks", unfollowed := true, recurses := true, apart := false, narrowed := true }
def TableLooksUptoSaid : Prop := tableLooksUptoRow.holds Try.pinned (OpenSpec.upto tableLooksSpec)

/-- 'glacislaw19.TableAll', WHERE WHAT IT READS IS OF BULK AT MOST 1048576: true; the input reads as it did. -/
def tableAllUptoRow : OpenClaim := { program := "ytodionedjokdmaa", sum := "a1fe0a238246a5d2930be72cd220a5e97945caf5b78b9dbcd896c1afe1b5623f", func := "glacis/glacislaw19.TableAll", spec := "tableAll", unfollowed := true, recurses := true, apart := false, narrowed := true }
def TableAllUptoSaid : Prop := tableAllUptoRow.holds Try.pinned (OpenSpec.upto tableAllSpec)

/-- 'glacislaw19.TableKids', WHERE WHAT IT READS IS OF BULK AT MOST 1048576: true; the input reads as it did. -/
def tableKidsUptoRow : OpenClaim := { program := "ytodionedjokdmaa", sum := "a1fe0a238246a5d2930be72cd220a5e97945caf5b78b9dbcd896c1afe1b5623f", func := "glacis/glacislaw19.TableKids", spec := "tableKids", unfollowed := true, recurses := true, apart := false, narrowed := true }
def TableKidsUptoSaid : Prop := tableKidsUptoRow.holds Try.pinned (OpenSpec.upto tableKidsSpec)

end Rows
end Go.Proofs.Ytodionedjokdmaa
