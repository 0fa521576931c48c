/-
  No cell of these rows narrows 'for every input' (looked for: loops, veiled, ifaces, maps, wideKeys, modest, calm, conditions, laid).
  DERIVED. THE GIVEN ROWS OF THIS SEAT. 4 by the template 'for every input the law returns true; each argument reads behind the call as it read before'; 0 by the template 'total and deterministic' (their statements: YtjmdgmlpecjolaaTotals.lean).
  GIVEN WITH THE SEED: the statements are not yours to turn. If you find one false, say at which input.
  Laid BY PROGRAM, IN A SANDBOX (cutbox-rows.mjs): the forced cells as the released guide's own fill.sh prints them over the translation dd001d576ab3a93b… (all of the seat's roots in one cut). By AI agents, Wed Nov 11 2026. No macro, syntax, notation, axiom, sorry.
-/
import Derived.Test.YtjmdgmlpecjolaaChecked
import GoSem.Claim
import GoSem.ClaimJoined
import GoSem.ClaimMapViews
import Derived.JoinedTies
import Derived.KernelRfl
namespace Go.Proofs.Ytjmdgmlpecjolaa
/- THE CELL 'sum', in the pinned program and in every row, IS THE sha256 OF THE DUMP (.gsa) THAT YtjmdgmlpecjolaaProg.lean LOADS. Nothing in Lean hashes anything: it is a label: what it is worth is what the hold of that sum in a sandbox is worth. -/
noncomputable def Try.pinned : Pinned := { name := "ytjmdgmlpecjolaa", sum := "dd001d576ab3a93b0d32668ae8b18d3ac7cb75458710c670ddee76792af5c450", checked := Try.checked }
namespace Rows
def none {H : Type} : Left H := { results := [], args := [] }

/-- 'glacislaw17.SlotsRuns': WHATEVER THE INPUT: true; the input reads as it did. -/
def slotsRunsSpec : ChangeSpec := { name := "slotsRuns", fn := fun _ => fun
  | [d1, d2] => { results := [.lit (.bool true)], args := [d1, d2] }
  | _ => none }
def slotsRunsRow : OpenClaim := { program := "ytjmdgmlpecjolaa", sum := "dd001d576ab3a93b0d32668ae8b18d3ac7cb75458710c670ddee76792af5c450", func := "glacis/glacislaw17.SlotsRuns", spec := "slotsRuns", apart := false }
def SlotsRunsSaid : Prop := slotsRunsRow.holds Try.pinned (OpenSpec.ofChange slotsRunsSpec)

/-- ITS FALSE NEIGHBOUR: 'it returns false'. Refute it at one input. -/
def slotsRunsWrong : ChangeSpec := { name := "slotsRuns", fn := fun _ => fun
  | [d1, d2] => { results := [.lit (.bool false)], args := [d1, d2] }
  | _ => none }
def SlotsRunsWrongFalsely : Prop := slotsRunsRow.holds Try.pinned (OpenSpec.ofChange slotsRunsWrong)

/-- 'glacislaw17.SlotsFair': WHATEVER THE INPUT: true; the input reads as it did. -/
def slotsFairSpec : ChangeSpec := { name := "slotsFair", fn := fun _ => fun
  | [d1, d2, d3] => { results := [.lit (.bool true)], args := [d1, d2, d3] }
  | _ => none }
def slotsFairRow : OpenClaim := { program := "ytjmdgmlpecjolaa", sum := "dd001d576ab3a93b0d32668ae8b18d3ac7cb75458710c670ddee76792af5c450", func := "glacis/glacislaw17.SlotsFair", spec := "slotsFair", apart := false }
def SlotsFairSaid : Prop := slotsFairRow.holds Try.pinned (OpenSpec.ofChange slotsFairSpec)

/-- ITS FALSE NEIGHBOUR: 'it returns false'. Refute it at one input. -/
def slotsFairWrong : ChangeSpec := { name := "slotsFair", fn := fun _ => fun
  | [d1, d2, d3] => { results := [.lit (.bool false)], args := [d1, d2, d3] }
  | _ => none }
def SlotsFairWrongFalsely : Prop := slotsFairRow.holds Try.pinned (OpenSpec.ofChange slotsFairWrong)

/-- 'glacislaw17.SlotsRight': WHATEVER THE INPUT: true; the input reads as it did. -/
def slotsRightSpec : ChangeSpec := { name := "slotsRight", fn := fun _ => fun
  | [d] => { results := [.lit (.bool true)], args := [d] }
  | _ => none }
def slotsRightRow : OpenClaim := { program := "ytjmdgmlpecjolaa", sum := "dd001d576ab3a93b0d32668ae8b18d3ac7cb75458710c670ddee76792af5c450", func := "glacis/glacislaw17.SlotsRight", spec := "slotsRight", apart := false }
def SlotsRightSaid : Prop := slotsRightRow.holds Try.pinned (OpenSpec.ofChange slotsRightSpec)

/-- ITS FALSE NEIGHBOUR: 'it returns false'. Refute it at one input. -/
def slotsRightWrong : ChangeSpec := { name := "slotsRight", fn := fun _ => fun
  | [d] => { results := [.lit (.bool false)], args := [d] }
  | _ => none }
def SlotsRightWrongFalsely : Prop := slotsRightRow.holds Try.pinned (OpenSpec.ofChange slotsRightWrong)

/-- 'glacislaw17.SlotsAlike': WHATEVER THE INPUT: true; the input reads as it did. -/
def slotsAlikeSpec : ChangeSpec := { name := "slotsAlike", fn := fun _ => fun
  | [d1, d2, d3] => { results := [.lit (.bool true)], args := [d1, d2, d3] }
  | _ => none }
def slotsAlikeRow : OpenClaim := { program := "ytjmdgmlpecjolaa", sum := "dd001d576ab3a93b0d32668ae8b18d3ac7cb75458710c670ddee76792af5c450", func := "glacis/glacislaw17.SlotsAlike", spec := "slotsAlike", apart := false }
def SlotsAlikeSaid : Prop := slotsAlikeRow.holds Try.pinned (OpenSpec.ofChange slotsAlikeSpec)

/-- ITS FALSE NEIGHBOUR: 'it returns false'. Refute it at one input. -/
def slotsAlikeWrong : ChangeSpec := { name := "slotsAlike", fn := fun _ => fun
  | [d1, d2, d3] => { results := [.lit (.bool false)], args := [d1, d2, d3] }
  | _ => none }
def SlotsAlikeWrongFalsely : Prop := slotsAlikeRow.holds Try.pinned (OpenSpec.ofChange slotsAlikeWrong)

/- THE SECOND FORM. 'bulk': how many values and letters a reading holds, each counted each time it is reached (what is shared counts as often as it is met; a slice's spare places count too). A statement '..UptoSaid' is the law's where the arguments, and the package variables that the reading takes, are together of bulk at most 1048576: NARROWER than '..Said'. Prove '..Said' where nothing that the law and all that it calls make is longer than what came in: it says more and counts as full. Else prove '..UptoSaid'. A law counts once. -/
mutual
def uptoBulk {H : Type} : DataW H → Nat
  | .lit (.string bytes) => bytes.length + 1
  | .lit _ => 1
  | .nil => 1
  | .ptr d => uptoBulk d + 1
  | .slice elems spare => uptoBulkAll elems + uptoBulkAll spare + 1
  | .agg parts => uptoBulkAll parts + 1
  | .iface _ d => uptoBulk d + 1
  | .map entries => uptoBulkEntries entries + 1
  | .held _ => 1
def uptoBulkAll {H : Type} : List (DataW H) → Nat
  | [] => 0
  | d :: r => uptoBulk d + uptoBulkAll r
def uptoBulkEntries {H : Type} : List (Lit × DataW H) → Nat
  | [] => 0
  | x :: r => uptoBulkEntry x + uptoBulkEntries r
def uptoBulkEntry {H : Type} : Lit × DataW H → Nat
  | (.string bytes, d) => bytes.length + uptoBulk d + 1
  | (_, d) => uptoBulk d + 1
 end
def uptoSmall : (H : Type) → List (DataW H) → Bool := fun _ ds => decide (uptoBulkAll ds ≤ 1048576)
def OpenSpec.upto (s : _root_.Go.ChangeSpec) : _root_.Go.OpenSpec := { _root_.Go.OpenSpec.ofChange s with cond := some uptoSmall }

/-- 'glacislaw17.SlotsRuns', WHERE WHAT IT READS IS OF BULK AT MOST 1048576: true; the input reads as it did. -/
def slotsRunsUptoRow : OpenClaim := { program := "ytjmdgmlpecjolaa", sum := "dd001d576ab3a93b0d32668ae8b18d3ac7cb75458710c670ddee76792af5c450", func := "glacis/glacislaw17.SlotsRuns", spec := "slotsRuns", apart := false, narrowed := true }
def SlotsRunsUptoSaid : Prop := slotsRunsUptoRow.holds Try.pinned (OpenSpec.upto slotsRunsSpec)

/-- 'glacislaw17.SlotsFair', WHERE WHAT IT READS IS OF BULK AT MOST 1048576: true; the input reads as it did. -/
def slotsFairUptoRow : OpenClaim := { program := "ytjmdgmlpecjolaa", sum := "dd001d576ab3a93b0d32668ae8b18d3ac7cb75458710c670ddee76792af5c450", func := "glacis/glacislaw17.SlotsFair", spec := "slotsFair", apart := false, narrowed := true }
def SlotsFairUptoSaid : Prop := slotsFairUptoRow.holds Try.pinned (OpenSpec.upto slotsFairSpec)

/-- 'glacislaw17.SlotsRight', WHERE WHAT IT READS IS OF BULK AT MOST 1048576: true; the input reads as it did. -/
def slotsRightUptoRow : OpenClaim := { program := "ytjmdgmlpecjolaa", sum := "dd001d576ab3a93b0d32668ae8b18d3ac7cb75458710c670ddee76792af5c450", func := "glacis/glacislaw17.SlotsRight", spec := "slotsRight", apart := false, narrowed := true }
def SlotsRightUptoSaid : Prop := slotsRightUptoRow.holds Try.pinned (OpenSpec.upto slotsRightSpec)

/-- 'glacislaw17.SlotsAlike', WHERE WHAT IT READS IS OF BULK AT MOST 1048576: true; the input reads as it did. -/
def slotsAlikeUptoRow : OpenClaim := { program := "ytjmdgmlpecjolaa", sum := "dd001d576ab3a93b0d32668ae8b18d3ac7cb75458710c670ddee76792af5c450", func := "glacis/glacislaw17.SlotsAlike", spec := "slotsAlike", apart := false, narrowed := true }
def SlotsAlikeUptoSaid : Prop := slotsAlikeUptoRow.holds Try.pinned (OpenSpec.upto slotsAlikeSpec)

end Rows
end Go.Proofs.Ytjmdgmlpecjolaa
