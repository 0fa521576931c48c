/-
  No cell of these rows narrows 'for every input' (looked for: loops, veiled, ifaces, maps, wideKeys, modest, calm, conditions, laid).
  DERIVED. THE GIVEN ROWS OF THIS SEAT. 8 by the template 'for every input the law returns true; each argument reads behind the call as it read before'; 0 by the template 'total and deterministic' (their statements: YtmbdglhihakkjaaTotals.lean).
  GIVEN WITH THE SEED: the statements are not yours to turn. If you find one false, say at which input.
  Laid BY PROGRAM, IN A SANDBOX (cutbox-rows.mjs): the forced cells as the released guide's own fill.sh prints them over the translation 548a65097fe3ddbe… (all of the seat's roots in one cut). By AI agents, Wed Nov 11 2026. No macro, syntax, notation, axiom, sorry.
-/
import Derived.Test.YtmbdglhihakkjaaChecked
import GoSem.Claim
import GoSem.ClaimJoined
import GoSem.ClaimMapViews
import Derived.JoinedTies
import Derived.KernelRfl
namespace Go.Proofs.Ytmbdglhihakkjaa
/- THE CELL 'sum', in the pinned program and in every row, IS THE sha256 OF THE DUMP (.gsa) THAT YtmbdglhihakkjaaProg.lean LOADS. Nothing in Lean hashes anything: it is a label: what it is worth is what the hold of that sum in a sandbox is worth. -/
noncomputable def Try.pinned : Pinned := { name := "ytmbdglhihakkjaa", sum := "548a65097fe3ddbe33b05e34f6390df4485a3d7de3253561804f002606cdcdfb", checked := Try.checked }
namespace Rows
def none {H : Type} : Left H := { results := [], args := [] }

/-- 'glacislaw16.RulesAsk': WHATEVER THE INPUT: true; the input reads as it did. -/
def rulesAskSpec : ChangeSpec := { name := "rulesAsk", fn := fun _ => fun
  | [d] => { results := [.lit (.bool true)], args := [d] }
  | _ => none }
def rulesAskRow : OpenClaim := { program := "ytmbdglhihakkjaa", sum := "548a65097fe3ddbe33b05e34f6390df4485a3d7de3253561804f002606cdcdfb", func := "glacis/glacislaw16.RulesAsk", spec := "rulesAsk", unfollowed := true, recurses := true, apart := false }
def RulesAskSaid : Prop := rulesAskRow.holds Try.pinned (OpenSpec.ofChange rulesAskSpec)

/-- ITS FALSE NEIGHBOUR: 'it returns false'. Refute it at one input. -/
def rulesAskWrong : ChangeSpec := { name := "rulesAsk", fn := fun _ => fun
  | [d] => { results := [.lit (.bool false)], args := [d] }
  | _ => none }
def RulesAskWrongFalsely : Prop := rulesAskRow.holds Try.pinned (OpenSpec.ofChange rulesAskWrong)

/-- 'glacislaw16.RulesGive': WHATEVER THE INPUT: true; the input reads as it did. -/
def rulesGiveSpec : ChangeSpec := { name := "rulesGive", fn := fun _ => fun
  | [d1, d2, d3] => { results := [.lit (.bool true)], args := [d1, d2, d3] }
  | _ => none }
def rulesGiveRow : OpenClaim := { program := "ytmbdglhihakkjaa", sum := "548a65097fe3ddbe33b05e34f6390df4485a3d7de3253561804f002606cdcdfb", func := "glacis/glacislaw16.RulesGive", spec := "rulesGive", unfollowed := true, recurses := true, apart := false }
def RulesGiveSaid : Prop := rulesGiveRow.holds Try.pinned (OpenSpec.ofChange rulesGiveSpec)

/-- ITS FALSE NEIGHBOUR: 'it returns false'. Refute it at one input. -/
def rulesGiveWrong : ChangeSpec := { name := "rulesGive", fn := fun _ => fun
  | [d1, d2, d3] => { results := [.lit (.bool false)], args := [d1, d2, d3] }
  | _ => none }
def RulesGiveWrongFalsely : Prop := rulesGiveRow.holds Try.pinned (OpenSpec.ofChange rulesGiveWrong)

/-- 'glacislaw16.RulesSeen': WHATEVER THE INPUT: true; the input reads as it did. -/
def rulesSeenSpec : ChangeSpec := { name := "rulesSeen", fn := fun _ => fun
  | [d] => { results := [.lit (.bool true)], args := [d] }
  | _ => none }
def rulesSeenRow : OpenClaim := { program := "ytmbdglhihakkjaa", sum := "548a65097fe3ddbe33b05e34f6390df4485a3d7de3253561804f002606cdcdfb", func := "glacis/glacislaw16.RulesSeen", spec := "rulesSeen", unfollowed := true, recurses := true, apart := false }
def RulesSeenSaid : Prop := rulesSeenRow.holds Try.pinned (OpenSpec.ofChange rulesSeenSpec)

/-- ITS FALSE NEIGHBOUR: 'it returns false'. Refute it at one input. -/
def rulesSeenWrong : ChangeSpec := { name := "rulesSeen", fn := fun _ => fun
  | [d] => { results := [.lit (.bool false)], args := [d] }
  | _ => none }
def RulesSeenWrongFalsely : Prop := rulesSeenRow.holds Try.pinned (OpenSpec.ofChange rulesSeenWrong)

/-- 'glacislaw16.RulesReads': WHATEVER THE INPUT: true; the input reads as it did. -/
def rulesReadsSpec : ChangeSpec := { name := "rulesReads", fn := fun _ => fun
  | [d] => { results := [.lit (.bool true)], args := [d] }
  | _ => none }
def rulesReadsRow : OpenClaim := { program := "ytmbdglhihakkjaa", sum := "548a65097fe3ddbe33b05e34f6390df4485a3d7de3253561804f002606cdcdfb", func := "glacis/glacislaw16.RulesReads", spec := "rulesReads", unfollowed := true, recurses := true, apart := false }
def RulesReadsSaid : Prop := rulesReadsRow.holds Try.pinned (OpenSpec.ofChange rulesReadsSpec)

/-- ITS FALSE NEIGHBOUR: 'it returns false'. Refute it at one input. -/
def rulesReadsWrong : ChangeSpec := { name := "rulesReads", fn := fun _ => fun
  | [d] => { results := [.lit (.bool false)], args := [d] }
  | _ => none }
def RulesReadsWrongFalsely : Prop := rulesReadsRow.holds Try.pinned (OpenSpec.ofChange rulesReadsWrong)

/-- 'glacislaw16.RulesRise': WHATEVER THE INPUT: true; the input reads as it did. -/
def rulesRiseSpec : ChangeSpec := { name := "rulesRise", fn := fun _ => fun
  | [d1, d2] => { results := [.lit (.bool true)], args := [d1, d2] }
  | _ => none }
def rulesRiseRow : OpenClaim := { program := "ytmbdglhihakkjaa", sum := "548a65097fe3ddbe33b05e34f6390df4485a3d7de3253561804f002606cdcdfb", func := "glacis/glacislaw16.RulesRise", spec := "rulesRise", unfollowed := true, recurses := true, apart := false }
def RulesRiseSaid : Prop := rulesRiseRow.holds Try.pinned (OpenSpec.ofChange rulesRiseSpec)

/-- ITS FALSE NEIGHBOUR: 'it returns false'. Refute it at one input. -/
def rulesRiseWrong : ChangeSpec := { name := "rulesRise", fn := fun _ => fun
  | [d1, d2] => { results := [.lit (.bool false)], args := [d1, d2] }
  | _ => none }
def RulesRiseWrongFalsely : Prop := rulesRiseRow.holds Try.pinned (OpenSpec.ofChange rulesRiseWrong)

/-- 'glacislaw16.RulesGates': WHATEVER THE INPUT: true; the input reads as it did. -/
def rulesGatesSpec : ChangeSpec := { name := "rulesGates", fn := fun _ => fun
  | [d1, d2] => { results := [.lit (.bool true)], args := [d1, d2] }
  | _ => none }
def rulesGatesRow : OpenClaim := { program := "ytmbdglhihakkjaa", sum := "548a65097fe3ddbe33b05e34f6390df4485a3d7de3253561804f002606cdcdfb", func := "glacis/glacislaw16.RulesGates", spec := "rulesGates", unfollowed := true, recurses := true, apart := false }
def RulesGatesSaid : Prop := rulesGatesRow.holds Try.pinned (OpenSpec.ofChange rulesGatesSpec)

/-- ITS FALSE NEIGHBOUR: 'it returns false'. Refute it at one input. -/
def rulesGatesWrong : ChangeSpec := { name := "rulesGates", fn := fun _ => fun
  | [d1, d2] => { results := [.lit (.bool false)], args := [d1, d2] }
  | _ => none }
def RulesGatesWrongFalsely : Prop := rulesGatesRow.holds Try.pinned (OpenSpec.ofChange rulesGatesWrong)

/-- 'glacislaw16.RulesFresh': WHATEVER THE INPUT: true; the input reads as it did. -/
def rulesFreshSpec : ChangeSpec := { name := "rulesFresh", fn := fun _ => fun
  | [d1, d2, d3] => { results := [.lit (.bool true)], args := [d1, d2, d3] }
  | _ => none }
def rulesFreshRow : OpenClaim := { program := "ytmbdglhihakkjaa", sum := "548a65097fe3ddbe33b05e34f6390df4485a3d7de3253561804f002606cdcdfb", func := "glacis/glacislaw16.RulesFresh", spec := "rulesFresh", unfollowed := true, recurses := true, apart := false }
def RulesFreshSaid : Prop := rulesFreshRow.holds Try.pinned (OpenSpec.ofChange rulesFreshSpec)

/-- ITS FALSE NEIGHBOUR: 'it returns false'. Refute it at one input. -/
def rulesFreshWrong : ChangeSpec := { name := "rulesFresh", fn := fun _ => fun
  | [d1, d2, d3] => { results := [.lit (.bool false)], args := [d1, d2, d3] }
  | _ => none }
def RulesFreshWrongFalsely : Prop := rulesFreshRow.holds Try.pinned (OpenSpec.ofChange rulesFreshWrong)

/-- 'glacislaw16.RulesChains': WHATEVER THE INPUT: true; the input reads as it did. -/
def rulesChainsSpec : ChangeSpec := { name := "rulesChains", fn := fun _ => fun
  | [d] => { results := [.lit (.bool true)], args := [d] }
  | _ => none }
def rulesChainsRow : OpenClaim := { program := "ytmbdglhihakkjaa", sum := "548a65097fe3ddbe33b05e34f6390df4485a3d7de3253561804f002606cdcdfb", func := "glacis/glacislaw16.RulesChains", spec := "rulesChains", unfollowed := true, recurses := true, apart := false }
def RulesChainsSaid : Prop := rulesChainsRow.holds Try.pinned (OpenSpec.ofChange rulesChainsSpec)

/-- ITS FALSE NEIGHBOUR: 'it returns false'. Refute it at one input. -/
def rulesChainsWrong : ChangeSpec := { name := "rulesChains", fn := fun _ => fun
  | [d] => { results := [.lit (.bool false)], args := [d] }
  | _ => none }
def RulesChainsWrongFalsely : Prop := rulesChainsRow.holds Try.pinned (OpenSpec.ofChange rulesChainsWrong)

/- THE SECOND FORM. 'bulk': how many values and letters a reading holds, each counted each time it is reached (what is shared counts as often as it is met; a slice's spare places count too). A statement '..UptoSaid' is the law's where the arguments, and the package variables that the reading takes, are together of bulk at most 1048576: NARROWER than '..Said'. Prove '..Said' where nothing that the law and all that it calls make is longer than what came in: it says more and counts as full. Else prove '..UptoSaid'. A law counts once. -/
mutual
def uptoBulk {H : Type} : DataW H → Nat
  | .lit (.string bytes) => bytes.length + 1
  | .lit _ => 1
  | .nil => 1
  | .ptr d => uptoBulk d + 1
  | .slice elems spare => uptoBulkAll elems + uptoBulkAll spare + 1
  | .agg parts => uptoBulkAll parts + 1
  | .iface _ d => uptoBulk d + 1
  | .map entries => uptoBulkEntries entries + 1
  | .held _ => 1
def uptoBulkAll {H : Type} : List (DataW H) → Nat
  | [] => 0
  | d :: r => uptoBulk d + uptoBulkAll r
def uptoBulkEntries {H : Type} : List (Lit × DataW H) → Nat
  | [] => 0
  | x :: r => uptoBulkEntry x + uptoBulkEntries r
def uptoBulkEntry {H : Type} : Lit × DataW H → Nat
  | (.string bytes, d) => bytes.length + uptoBulk d + 1
  | (_, d) => uptoBulk d + 1
 end
def uptoSmall : (H : Type) → List (DataW H) → Bool := fun _ ds => decide (uptoBulkAll ds ≤ 1048576)
def OpenSpec.upto (s : _root_.Go.ChangeSpec) : _root_.Go.OpenSpec := { _root_.Go.OpenSpec.ofChange s with cond := some uptoSmall }

/-- 'glacislaw16.RulesAsk', WHERE WHAT IT READS IS OF BULK AT MOST 1048576: true; the input reads as it did. -/
def rulesAskUptoRow : OpenClaim := { program := "ytmbdglhihakkjaa", sum := "548a65097fe3ddbe33b05e34f6390df4485a3d7de3253561804f002606cdcdfb", func := "glacis/glacislaw16.RulesAsk", spec := "rulesAsk", unfollowed := true, recurses := true, apart := false, narrowed := true }
def RulesAskUptoSaid : Prop := rulesAskUptoRow.holds Try.pinned (OpenSpec.upto rulesAskSpec)

/-- 'glacislaw16.RulesGive', WHERE WHAT IT READS IS OF BULK AT MOST 1048576: true; the input reads as it did. -/
def rulesGiveUptoRow : OpenClaim := { program := "ytmbdglhihakkjaa", sum := "548a65097fe3ddbe33b05e34f6390df4485a3d7de3253561804f002606cdcdfb", func := "glacis/glacislaw16.RulesGive", spec := "rulesGive", unfollowed := true, recurses := true, apart := false, narrowed := true }
def RulesGiveUptoSaid : Prop := rulesGiveUptoRow.holds Try.pinned (OpenSpec.upto rulesGiveSpec)

/-- 'glacislaw16.RulesSeen', WHERE WHAT IT READS IS OF BULK AT MOST 1048576: true; the input reads as it did. -/
def rulesSeenUptoRow : OpenClaim := { program := "ytmbdglhihakkjaa", sum := "548a65097fe3ddbe33b05e34f6390df4485a3d7de3253561804f002606cdcdfb", func := "glacis/glacislaw16.RulesSeen", spec := "rulesSeen", unfollowed := true, recurses := true, apart := false, narrowed := true }
def RulesSeenUptoSaid : Prop := rulesSeenUptoRow.holds Try.pinned (OpenSpec.upto rulesSeenSpec)

/-- 'glacislaw16.RulesReads', WHERE WHAT IT READS IS OF BULK AT MOST 1048576: true; the input reads as it did. -/
def rulesReadsUptoRow : OpenClaim := { program := "ytmbdglhihakkjaa", sum := "548a65097fe3ddbe33b05e34f6390df4485a3d7de3253561804f002606cdcdfb", func := "glacis/glacislaw16.RulesReads", spec := "rulesReads", unfollowed := true, recurses := true, apart := false, narrowed := true }
def RulesReadsUptoSaid : Prop := rulesReadsUptoRow.holds Try.pinned (OpenSpec.upto rulesReadsSpec)

/-- 'glacislaw16.RulesRise', WHERE WHAT IT READS IS OF BULK AT MOST 1048576: true; the input reads as it did. -/
def rulesRiseUptoRow : OpenClaim := { program := "ytmbdglhihakkjaa", sum := "548a65097fe3ddbe33b05e34f6390df4485a3d7de3253561804f002606cdcdfb", func := "glacis/glacislaw16.RulesRise", spec := "rulesRise", unfollowed := true, recurses := true, apart := false, narrowed := true }
def RulesRiseUptoSaid : Prop := rulesRiseUptoRow.holds Try.pinned (OpenSpec.upto rulesRiseSpec)

/-- 'glacislaw16.RulesGates', WHERE WHAT IT READS IS OF BULK AT MOST 1048576: true; the input reads as it did. -/
def rulesGatesUptoRow : OpenClaim := { program := "ytmbdglhihakkjaa", sum := "548a65097fe3ddbe33b05e34f6390df4485a3d7de3253561804f002606cdcdfb", func := "glacis/glacislaw16.RulesGates", spec := "rulesGates", unfollowed := true, recurses := true, apart := false, narrowed := true }
def RulesGatesUptoSaid : Prop := rulesGatesUptoRow.holds Try.pinned (OpenSpec.upto rulesGatesSpec)

/-- 'glacislaw16.RulesFresh', WHERE WHAT IT READS IS OF BULK AT MOST 1048576: true; the input reads as it did. -/
def rulesFreshUptoRow : OpenClaim := { program := "ytmbdglhihakkjaa", sum := "548a65097fe3ddbe33b05e34f6390df4485a3d7de3253561804f002606cdcdfb", func := "glacis/glacislaw16.RulesFresh", spec := "rulesFresh", unfollowed := true, recurses := true, apart := false, narrowed := true }
def RulesFreshUptoSaid : Prop := rulesFreshUptoRow.holds Try.pinned (OpenSpec.upto rulesFreshSpec)

/-- 'glacislaw16.RulesChains', WHERE WHAT IT READS IS OF BULK AT MOST 1048576: true; the input reads as it did. -/
def rulesChainsUptoRow : OpenClaim := { program := "ytmbdglhihakkjaa", sum := "548a65097fe3ddbe33b05e34f6390df4485a3d7de3253561804f002606cdcdfb", func := "glacis/glacislaw16.RulesChains", spec := "rulesChains", unfollowed := true, recurses := true, apart := false, narrowed := true }
def RulesChainsUptoSaid : Prop := rulesChainsUptoRow.holds Try.pinned (OpenSpec.upto rulesChainsSpec)

end Rows
end Go.Proofs.Ytmbdglhihakkjaa
