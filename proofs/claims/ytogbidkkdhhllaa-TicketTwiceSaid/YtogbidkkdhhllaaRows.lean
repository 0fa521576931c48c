/-
  No cell of these rows narrows 'for every input' (looked for: loops, veiled, ifaces, maps, wideKeys, modest, calm, conditions, laid).
  DERIVED. THE GIVEN ROWS OF THIS SEAT. 3 by the template 'for every input the law returns true; each argument reads behind the call as it read before'; 0 by the template 'total and deterministic' (their statements: YtogbidkkdhhllaaTotals.lean).
  GIVEN WITH THE SEED: the statements are not yours to turn. If you find one false, say at which input.
  Laid BY PROGRAM, IN A SANDBOX (cutbox-rows.mjs): the forced cells as the released guide's own fill.sh prints them over the translation 136e172e97417540… (all of the seat's roots in one cut). By AI agents, Wed Nov 11 2026. No macro, syntax, notation, axiom, sorry.
-/
import Derived.Test.YtogbidkkdhhllaaChecked
import GoSem.Claim
import GoSem.ClaimJoined
import GoSem.ClaimMapViews
import Derived.JoinedTies
import Derived.KernelRfl
namespace Go.Proofs.Ytogbidkkdhhllaa
/- THE CELL 'sum', in the pinned program and in every row, IS THE sha256 OF THE DUMP (.gsa) THAT YtogbidkkdhhllaaProg.lean LOADS. Nothing in Lean hashes anything: it is a label: what it is worth is what the hold of that sum in a sandbox is worth. -/
noncomputable def Try.pinned : Pinned := { name := "ytogbidkkdhhllaa", sum := "136e172e97417540fb3a9158dd6a864f16819003c858c8245f1c83f86f8e88bd", checked := Try.checked }
namespace Rows
def none {H : Type} : Left H := { results := [], args := [] }

/-- 'glacislaw11.TicketRuns': WHATEVER THE INPUT: true; the input reads as it did. -/
def ticketRunsSpec : ChangeSpec := { name := "ticketRuns", fn := fun _ => fun
  | [d] => { results := [.lit (.bool true)], args := [d] }
  | _ => none }
def ticketRunsRow : OpenClaim := { program := "ytogbidkkdhhllaa", sum := "136e172e97417540fb3a9158dd6a864f16819003c858c8245f1c83f86f8e88bd", func := "glacis/glacislaw11.TicketRuns", spec := "ticketRuns", apart := false }
def TicketRunsSaid : Prop := ticketRunsRow.holds Try.pinned (OpenSpec.ofChange ticketRunsSpec)

/-- ITS FALSE NEIGHBOUR: 'it returns false'. Refute it at one input. -/
def ticketRunsWrong : ChangeSpec := { name := "ticketRuns", fn := fun _ => fun
  | [d] => { results := [.lit (.bool false)], args := [d] }
  | _ => none }
def TicketRunsWrongFalsely : Prop := ticketRunsRow.holds Try.pinned (OpenSpec.ofChange ticketRunsWrong)

/-- 'glacislaw11.TicketServes': WHATEVER THE INPUT: true; the input reads as it did. -/
def ticketServesSpec : ChangeSpec := { name := "ticketServes", fn := fun _ => fun
  | [d1, d2] => { results := [.lit (.bool true)], args := [d1, d2] }
  | _ => none }
def ticketServesRow : OpenClaim := { program := "ytogbidkkdhhllaa", sum := "136e172e97417540fb3a9158dd6a864f16819003c858c8245f1c83f86f8e88bd", func := "glacis/glacislaw11.TicketServes", spec := "ticketServes", apart := false }
def TicketServesSaid : Prop := ticketServesRow.holds Try.pinned (OpenSpec.ofChange ticketServesSpec)

/-- ITS FALSE NEIGHBOUR: 'it returns false'. Refute it at one input. -/
def ticketServesWrong : ChangeSpec := { name := "ticketServes", fn := fun _ => fun
  | [d1, d2] => { results := [.lit (.bool false)], args := [d1, d2] }
  | _ => none }
def TicketServesWrongFalsely : Prop := ticketServesRow.holds Try.pinned (OpenSpec.ofChange ticketServesWrong)

/-- 'glacislaw11.TicketTwice': WHATEVER THE INPUT: true; the input reads as it did. -/
def ticketTwiceSpec : ChangeSpec := { name := "ticketTwice", fn := fun _ => fun
  | [d1, d2] => { results := [.lit (.bool true)], args := [d1, d2] }
  | _ => none }
def ticketTwiceRow : OpenClaim := { program := "ytogbidkkdhhllaa", sum := "136e172e97417540fb3a9158dd6a864f16819003c858c8245f1c83f86f8e88bd", func := "glacis/glacislaw11.TicketTwice", spec := "ticketTwice", apart := false }
def TicketTwiceSaid : Prop := ticketTwiceRow.holds Try.pinned (OpenSpec.ofChange ticketTwiceSpec)

/-- ITS FALSE NEIGHBOUR: 'it returns false'. Refute it at one input. -/
def ticketTwiceWrong : ChangeSpec := { name := "ticketTwice", fn := fun _ => fun
  | [d1, d2] => { results := [.lit (.bool false)], args := [d1, d2] }
  | _ => none }
def TicketTwiceWrongFalsely : Prop := ticketTwiceRow.holds Try.pinned (OpenSpec.ofChange ticketTwiceWrong)

/- THE SECOND FORM. 'bulk': how many values and letters a reading holds, each counted each time it is reached (what is shared counts as often as it is met; a slice's spare places count too). A statement '..UptoSaid' is the law's where the arguments, and the package variables that the reading takes, are together of bulk at most 1048576: NARROWER than '..Said'. Prove '..Said' where nothing that the law and all that it calls make is longer than what came in: it says more and counts as full. Else prove '..UptoSaid'. A law counts once. -/
mutual
def uptoBulk {H : Type} : DataW H → Nat
  | .lit (.string bytes) => bytes.length + 1
  | .lit _ => 1
  | .nil => 1
  | .ptr d => uptoBulk d + 1
  | .slice elems spare => uptoBulkAll elems + uptoBulkAll spare + 1
  | .agg parts => uptoBulkAll parts + 1
  | .iface _ d => uptoBulk d + 1
  | .map entries => uptoBulkEntries entries + 1
  | .held _ => 1
def uptoBulkAll {H : Type} : List (DataW H) → Nat
  | [] => 0
  | d :: r => uptoBulk d + uptoBulkAll r
def uptoBulkEntries {H : Type} : List (Lit × DataW H) → Nat
  | [] => 0
  | x :: r => uptoBulkEntry x + uptoBulkEntries r
def uptoBulkEntry {H : Type} : Lit × DataW H → Nat
  | (.string bytes, d) => bytes.length + uptoBulk d + 1
  | (_, d) => uptoBulk d + 1
 end
def uptoSmall : (H : Type) → List (DataW H) → Bool := fun _ ds => decide (uptoBulkAll ds ≤ 1048576)
def OpenSpec.upto (s : _root_.Go.ChangeSpec) : _root_.Go.OpenSpec := { _root_.Go.OpenSpec.ofChange s with cond := some uptoSmall }

/-- 'glacislaw11.TicketRuns', WHERE WHAT IT READS IS OF BULK AT MOST 1048576: true; the input reads as it did. -/
def ticketRunsUptoRow : OpenClaim := { program := "ytogbidkkdhhllaa", sum := "136e172e97417540fb3a9158dd6a864f16819003c858c8245f1c83f86f8e88bd", func := "glacis/glacislaw11.TicketRuns", spec := "ticketRuns", apart := false, narrowed := true }
def TicketRunsUptoSaid : Prop := ticketRunsUptoRow.holds Try.pinned (OpenSpec.upto ticketRunsSpec)

/-- 'glacislaw11.TicketServes', WHERE WHAT IT READS IS OF BULK AT MOST 1048576: true; the input reads as it did. -/
def ticketServesUptoRow : OpenClaim := { program := "ytogbidkkdhhllaa", sum := "136e172e97417540fb3a9158dd6a864f16819003c858c8245f1c83f86f8e88bd", func := "glacis/glacislaw11.TicketServes", spec := "ticketServes", apart := false, narrowed := true }
def TicketServesUptoSaid : Prop := ticketServesUptoRow.holds Try.pinned (OpenSpec.upto ticketServesSpec)

/-- 'glacislaw11.TicketTwice', WHERE WHAT IT READS IS OF BULK AT MOST 1048576: true; the input reads as it did. -/
def ticketTwiceUptoRow : OpenClaim := { program := "ytogbidkkdhhllaa", sum := "136e172e97417540fb3a9158dd6a864f16819003c858c8245f1c83f86f8e88bd", func := "glacis/glacislaw11.TicketTwice", spec := "ticketTwice", apart := false, narrowed := true }
def TicketTwiceUptoSaid : Prop := ticketTwiceUptoRow.holds Try.pinned (OpenSpec.upto ticketTwiceSpec)

end Rows
end Go.Proofs.Ytogbidkkdhhllaa
