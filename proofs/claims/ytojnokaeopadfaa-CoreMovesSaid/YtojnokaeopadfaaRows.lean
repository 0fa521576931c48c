/-
  No cell of these rows narrows 'for every input' (looked for: loops, veiled, ifaces, maps, wideKeys, modest, calm, conditions, laid).
  DERIVED. THE GIVEN ROWS OF THIS SEAT. 4 by the template 'for every input the law returns true; each argument reads behind the call as it read before'; 0 by the template 'total and deterministic' (their statements: YtojnokaeopadfaaTotals.lean).
  GIVEN WITH THE SEED: the statements are not yours to turn. If you find one false, say at which input.
  Laid BY PROGRAM, IN A SANDBOX (cutbox-rows.mjs): the forced cells as the released guide's own fill.sh prints them over the translation 0437b036ea7494e3… (all of the seat's roots in one cut). By AI agents, Wed Nov 11 2026. No macro, syntax, notation, axiom, sorry.
-/
import Derived.Test.YtojnokaeopadfaaChecked
import GoSem.Claim
import GoSem.ClaimJoined
import GoSem.ClaimMapViews
import Derived.JoinedTies
import Derived.KernelRfl
namespace Go.Proofs.Ytojnokaeopadfaa
/- THE CELL 'sum', in the pinned program and in every row, IS THE sha256 OF THE DUMP (.gsa) THAT YtojnokaeopadfaaProg.lean LOADS. Nothing in Lean hashes anything: it is a label: what it is worth is what the hold of that sum in a sandbox is worth. -/
noncomputable def Try.pinned : Pinned := { name := "ytojnokaeopadfaa", sum := "0437b036ea7494e308f2ecdc61c2d233930b17b79328463b27071e78356dcd33", checked := Try.checked }
namespace Rows
def none {H : Type} : Left H := { results := [], args := [] }

/-- 'glacislaw09.CoreSteps': WHATEVER THE INPUT: true; the input reads as it did. -/
def coreStepsSpec : ChangeSpec := { name := "coreSteps", fn := fun _ => fun
  | [d1, d2, d3] => { results := [.lit (.bool true)], args := [d1, d2, d3] }
  | _ => none }
def coreStepsRow : OpenClaim := { program := "ytojnokaeopadfaa", sum := "0437b036ea7494e308f2ecdc61c2d233930b17b79328463b27071e78356dcd33", func := "glacis/glacislaw09.CoreSteps", spec := "coreSteps", inPlace := ["math.Float64frombits", "math.Float64bits", "math.sqrt"], unfollowed := true, recurses := true, apart := false }
def CoreStepsSaid : Prop := coreStepsRow.holds Try.pinned (OpenSpec.ofChange coreStepsSpec)

/-- ITS FALSE NEIGHBOUR: 'it returns false'. Refute it at one input. -/
def coreStepsWrong : ChangeSpec := { name := "coreSteps", fn := fun _ => fun
  | [d1, d2, d3] => { results := [.lit (.bool false)], args := [d1, d2, d3] }
  | _ => none }
def CoreStepsWrongFalsely : Prop := coreStepsRow.holds Try.pinned (OpenSpec.ofChange coreStepsWrong)

/-- 'glacislaw09.CoreEnds': WHATEVER THE INPUT: true; the input reads as it did. -/
def coreEndsSpec : ChangeSpec := { name := "coreEnds", fn := fun _ => fun
  | [d1, d2, d3] => { results := [.lit (.bool true)], args := [d1, d2, d3] }
  | _ => none }
def coreEndsRow : OpenClaim := { program := "ytojnokaeopadfaa", sum := "0437b036ea7494e308f2ecdc61c2d233930b17b79328463b27071e78356dcd33", func := "glacis/glacislaw09.CoreEnds", spec := "coreEnds", inPlace := ["math.Float64frombits", "math.Float64bits", "math.sqrt"], unfollowed := true, recurses := true, apart := false }
def CoreEndsSaid : Prop := coreEndsRow.holds Try.pinned (OpenSpec.ofChange coreEndsSpec)

/-- ITS FALSE NEIGHBOUR: 'it returns false'. Refute it at one input. -/
def coreEndsWrong : ChangeSpec := { name := "coreEnds", fn := fun _ => fun
  | [d1, d2, d3] => { results := [.lit (.bool false)], args := [d1, d2, d3] }
  | _ => none }
def CoreEndsWrongFalsely : Prop := coreEndsRow.holds Try.pinned (OpenSpec.ofChange coreEndsWrong)

/-- 'glacislaw09.CoreLoops': WHATEVER THE INPUT: true; the input reads as it did. -/
def coreLoopsSpec : ChangeSpec := { name := "coreLoops", fn := fun _ => fun
  | [d1, d2] => { results := [.lit (.bool true)], args := [d1, d2] }
  | _ => none }
def coreLoopsRow : OpenClaim := { program := "ytojnokaeopadfaa", sum := "0437b036ea7494e308f2ecdc61c2d233930b17b79328463b27071e78356dcd33", func := "glacis/glacislaw09.CoreLoops", spec := "coreLoops", inPlace := ["math.Float64frombits", "math.Float64bits", "math.sqrt"], unfollowed := true, recurses := true, apart := false }
def CoreLoopsSaid : Prop := coreLoopsRow.holds Try.pinned (OpenSpec.ofChange coreLoopsSpec)

/-- ITS FALSE NEIGHBOUR: 'it returns false'. Refute it at one input. -/
def coreLoopsWrong : ChangeSpec := { name := "coreLoops", fn := fun _ => fun
  | [d1, d2] => { results := [.lit (.bool false)], args := [d1, d2] }
  | _ => none }
def CoreLoopsWrongFalsely : Prop := coreLoopsRow.holds Try.pinned (OpenSpec.ofChange coreLoopsWrong)

/-- 'glacislaw09.CoreMoves': WHATEVER THE INPUT: true; the input reads as it did. -/
def coreMovesSpec : ChangeSpec := { name := "coreMoves", fn := fun _ => fun
  | [d1, d2, d3] => { results := [.lit (.bool true)], args := [d1, d2, d3] }
  | _ => none }
def coreMovesRow : OpenClaim := { program := "ytojnokaeopadfaa", sum := "0437b036ea7494e308f2ecdc61c2d233930b17b79328463b27071e78356dcd33", func := "glacis/glacislaw09.CoreMoves", spec := "coreMoves", inPlace := ["math.Float64frombits", "math.Float64bits", "math.sqrt"], unfollowed := true, recurses := true, apart := false }
def CoreMovesSaid : Prop := coreMovesRow.holds Try.pinned (OpenSpec.ofChange coreMovesSpec)

/-- ITS FALSE NEIGHBOUR: 'it returns false'. Refute it at one input. -/
def coreMovesWrong : ChangeSpec := { name := "coreMoves", fn := fun _ => fun
  | [d1, d2, d3] => { results := [.lit (.bool false)], args := [d1, d2, d3] }
  | _ => none }
def CoreMovesWrongFalsely : Prop := coreMovesRow.holds Try.pinned (OpenSpec.ofChange coreMovesWrong)

/- THE SECOND FORM. 'bulk': how many values and letters a reading holds, each counted each time it is reached (what is shared counts as often as it is met; a slice's spare places count too). A statement '..UptoSaid' is the law's where the arguments, and the package variables that the reading takes, are together of bulk at most 1048576: NARROWER than '..Said'. Prove '..Said' where nothing that the law and all that it calls make is longer than what came in: it says more and counts as full. Else prove '..UptoSaid'. A law counts once. -/
mutual
def uptoBulk {H : Type} : DataW H → Nat
  | .lit (.string bytes) => bytes.length + 1
  | .lit _ => 1
  | .nil => 1
  | .ptr d => uptoBulk d + 1
  | .slice elems spare => uptoBulkAll elems + uptoBulkAll spare + 1
  | .agg parts => uptoBulkAll parts + 1
  | .iface _ d => uptoBulk d + 1
  | .map entries => uptoBulkEntries entries + 1
  | .held _ => 1
def uptoBulkAll {H : Type} : List (DataW H) → Nat
  | [] => 0
  | d :: r => uptoBulk d + uptoBulkAll r
def uptoBulkEntries {H : Type} : List (Lit × DataW H) → Nat
  | [] => 0
  | x :: r => uptoBulkEntry x + uptoBulkEntries r
def uptoBulkEntry {H : Type} : Lit × DataW H → Nat
  | (.string bytes, d) => bytes.length + uptoBulk d + 1
  | (_, d) => uptoBulk d + 1
 end
def uptoSmall : (H : Type) → List (DataW H) → Bool := fun _ ds => decide (uptoBulkAll ds ≤ 1048576)
def OpenSpec.upto (s : _root_.Go.ChangeSpec) : _root_.Go.OpenSpec := { _root_.Go.OpenSpec.ofChange s with cond := some uptoSmall }

/-- 'glacislaw09.CoreSteps', WHERE WHAT IT READS IS OF BULK AT MOST 1048576: true; the input reads as it did. -/
def coreStepsUptoRow : OpenClaim := { program := "ytojnokaeopadfaa", sum := "0437b036ea7494e308f2ecdc61c2d233930b17b79328463b27071e78356dcd33", func := "glacis/glacislaw09.CoreSteps", spec := "coreSteps", inPlace := ["math.Float64frombits", "math.Float64bits", "math.sqrt"], unfollowed := true, recurses := true, apart := false, narrowed := true }
def CoreStepsUptoSaid : Prop := coreStepsUptoRow.holds Try.pinned (OpenSpec.upto coreStepsSpec)

/-- 'glacislaw09.CoreEnds', WHERE WHAT IT READS IS OF BULK AT MOST 1048576: true; the input reads as it did. -/
def coreEndsUptoRow : OpenClaim := { program := "ytojnokaeopadfaa", sum := "0437b036ea7494e308f2ecdc61c2d233930b17b79328463b27071e78356dcd33", func := "glacis/glacislaw09.CoreEnds", spec := "coreEnds", inPlace := ["math.Float64frombits", "math.Float64bits", "math.sqrt"], unfollowed := true, recurses := true, apart := false, narrowed := true }
def CoreEndsUptoSaid : Prop := coreEndsUptoRow.holds Try.pinned (OpenSpec.upto coreEndsSpec)

/-- 'glacislaw09.CoreLoops', WHERE WHAT IT READS IS OF BULK AT MOST 1048576: true; the input reads as it did. -/
def coreLoopsUptoRow : OpenClaim := { program := "ytojnokaeopadfaa", sum := "0437b036ea7494e308f2ecdc61c2d233930b17b79328463b27071e78356dcd33", func := "glacis/glacislaw09.CoreLoops", spec := "coreLoops", inPlace := ["math.Float64frombits", "math.Float64bits", "math.sqrt"], unfollowed := true, recurses := true, apart := false, narrowed := true }
def CoreLoopsUptoSaid : Prop := coreLoopsUptoRow.holds Try.pinned (OpenSpec.upto coreLoopsSpec)

/-- 'glacislaw09.CoreMoves', WHERE WHAT IT READS IS OF BULK AT MOST 1048576: true; the input reads as it did. -/
def coreMovesUptoRow : OpenClaim := { program := "ytojnokaeopadfaa", sum := "0437b036ea7494e308f2ecdc61c2d233930b17b79328463b27071e78356dcd33", func := "glacis/glacislaw09.CoreMoves", spec := "coreMoves", inPlace := ["math.Float64frombits", "math.Float64bits", "math.sqrt"], unfollowed := true, recurses := true, apart := false, narrowed := true }
def CoreMovesUptoSaid : Prop := coreMovesUptoRow.holds Try.pinned (OpenSpec.upto coreMovesSpec)

end Rows
end Go.Proofs.Ytojnokaeopadfaa
