/-
  No cell of these rows narrows 'for every input' (looked for: loops, veiled, ifaces, maps, wideKeys, modest, calm, conditions, laid).
  DERIVED. THE GIVEN ROWS OF THIS SEAT. 5 by the template 'for every input the law returns true; each argument reads behind the call as it read before'; 0 by the template 'total and deterministic' (their statements: YtbjegfkjibfadaaTotals.lean).
  GIVEN WITH THE SEED: the statements are not yours to turn. If you find one false, say at which input.
  Laid BY PROGRAM, IN A SANDBOX (cutbox-rows.mjs): the forced cells as the released guide's own fill.sh prints them over the translation ced84a38c6baa62c… (all of the seat's roots in one cut). By AI agents, Wed Nov 11 2026. No macro, syntax, notation, axiom, sorry.
-/
import Derived.Test.YtbjegfkjibfadaaChecked
import GoSem.Claim
import GoSem.ClaimJoined
import GoSem.ClaimMapViews
import Derived.JoinedTies
import Derived.KernelRfl
namespace Go.Proofs.Ytbjegfkjibfadaa
/- THE CELL 'sum', in the pinned program and in every row, IS THE sha256 OF THE DUMP (.gsa) THAT YtbjegfkjibfadaaProg.lean LOADS. Nothing in Lean hashes anything: it is a label: what it is worth is what the hold of that sum in a sandbox is worth. -/
noncomputable def Try.pinned : Pinned := { name := "ytbjegfkjibfadaa", sum := "ced84a38c6baa62cc808230fe2580580041032e99199687a47535633e15f4aec", checked := Try.checked }
namespace Rows
def none {H : Type} : Left H := { results := [], args := [] }

/-- 'glacislaw15.MapsRuns': WHATEVER THE INPUT: true; the input reads as it did. -/
def mapsRunsSpec : ChangeSpec := { name := "mapsRuns", fn := fun _ => fun
  | [d1, d2] => { results := [.lit (.bool true)], args := [d1, d2] }
  | _ => none }
def mapsRunsRow : OpenClaim := { program := "ytbjegfkjibfadaa", sum := "ced84a38c6baa62cc808230fe2580580041032e99199687a47535633e15f4aec", func := "glacis/glacislaw15.MapsRuns", spec := "mapsRuns", unfollowed := true, recurses := true, apart := false }
def MapsRunsSaid : Prop := mapsRunsRow.holds Try.pinned (OpenSpec.ofChange mapsRunsSpec)

/-- ITS FALSE NEIGHBOUR: 'it returns false'. Refute it at one input. -/
def mapsRunsWrong : ChangeSpec := { name := "mapsRuns", fn := fun _ => fun
  | [d1, d2] => { results := [.lit (.bool false)], args := [d1, d2] }
  | _ => none }
def MapsRunsWrongFalsely : Prop := mapsRunsRow.holds Try.pinned (OpenSpec.ofChange mapsRunsWrong)

/-- 'glacislaw15.MapsRight': WHATEVER THE INPUT: true; the input reads as it did. -/
def mapsRightSpec : ChangeSpec := { name := "mapsRight", fn := fun _ => fun
  | [d] => { results := [.lit (.bool true)], args := [d] }
  | _ => none }
def mapsRightRow : OpenClaim := { program := "ytbjegfkjibfadaa", sum := "ced84a38c6baa62cc808230fe2580580041032e99199687a47535633e15f4aec", func := "glacis/glacislaw15.MapsRight", spec := "mapsRight", apart := false }
def MapsRightSaid : Prop := mapsRightRow.holds Try.pinned (OpenSpec.ofChange mapsRightSpec)

/-- ITS FALSE NEIGHBOUR: 'it returns false'. Refute it at one input. -/
def mapsRightWrong : ChangeSpec := { name := "mapsRight", fn := fun _ => fun
  | [d] => { results := [.lit (.bool false)], args := [d] }
  | _ => none }
def MapsRightWrongFalsely : Prop := mapsRightRow.holds Try.pinned (OpenSpec.ofChange mapsRightWrong)

/-- 'glacislaw15.MapsSegs': WHATEVER THE INPUT: true; the input reads as it did. -/
def mapsSegsSpec : ChangeSpec := { name := "mapsSegs", fn := fun _ => fun
  | [d1, d2] => { results := [.lit (.bool true)], args := [d1, d2] }
  | _ => none }
def mapsSegsRow : OpenClaim := { program := "ytbjegfkjibfadaa", sum := "ced84a38c6baa62cc808230fe2580580041032e99199687a47535633e15f4aec", func := "glacis/glacislaw15.MapsSegs", spec := "mapsSegs", unfollowed := true, recurses := true, apart := false }
def MapsSegsSaid : Prop := mapsSegsRow.holds Try.pinned (OpenSpec.ofChange mapsSegsSpec)

/-- ITS FALSE NEIGHBOUR: 'it returns false'. Refute it at one input. -/
def mapsSegsWrong : ChangeSpec := { name := "mapsSegs", fn := fun _ => fun
  | [d1, d2] => { results := [.lit (.bool false)], args := [d1, d2] }
  | _ => none }
def MapsSegsWrongFalsely : Prop := mapsSegsRow.holds Try.pinned (OpenSpec.ofChange mapsSegsWrong)

/-- 'glacislaw15.MapsOrder': WHATEVER THE INPUT: true; the input reads as it did. -/
def mapsOrderSpec : ChangeSpec := { name := "mapsOrder", fn := fun _ => fun
  | [d1, d2] => { results := [.lit (.bool true)], args := [d1, d2] }
  | _ => none }
def mapsOrderRow : OpenClaim := { program := "ytbjegfkjibfadaa", sum := "ced84a38c6baa62cc808230fe2580580041032e99199687a47535633e15f4aec", func := "glacis/glacislaw15.MapsOrder", spec := "mapsOrder", apart := false }
def MapsOrderSaid : Prop := mapsOrderRow.holds Try.pinned (OpenSpec.ofChange mapsOrderSpec)

/-- ITS FALSE NEIGHBOUR: 'it returns false'. Refute it at one input. -/
def mapsOrderWrong : ChangeSpec := { name := "mapsOrder", fn := fun _ => fun
  | [d1, d2] => { results := [.lit (.bool false)], args := [d1, d2] }
  | _ => none }
def MapsOrderWrongFalsely : Prop := mapsOrderRow.holds Try.pinned (OpenSpec.ofChange mapsOrderWrong)

/-- 'glacislaw15.MapsBack': WHATEVER THE INPUT: true; the input reads as it did. -/
def mapsBackSpec : ChangeSpec := { name := "mapsBack", fn := fun _ => fun
  | [d1, d2] => { results := [.lit (.bool true)], args := [d1, d2] }
  | _ => none }
def mapsBackRow : OpenClaim := { program := "ytbjegfkjibfadaa", sum := "ced84a38c6baa62cc808230fe2580580041032e99199687a47535633e15f4aec", func := "glacis/glacislaw15.MapsBack", spec := "mapsBack", unfollowed := true, recurses := true, apart := false }
def MapsBackSaid : Prop := mapsBackRow.holds Try.pinned (OpenSpec.ofChange mapsBackSpec)

/-- ITS FALSE NEIGHBOUR: 'it returns false'. Refute it at one input. -/
def mapsBackWrong : ChangeSpec := { name := "mapsBack", fn := fun _ => fun
  | [d1, d2] => { results := [.lit (.bool false)], args := [d1, d2] }
  | _ => none }
def MapsBackWrongFalsely : Prop := mapsBackRow.holds Try.pinned (OpenSpec.ofChange mapsBackWrong)

/- THE SECOND FORM. 'bulk': how many values and letters a reading holds, each counted each time it is reached (what is shared counts as often as it is met; a slice's spare places count too). A statement '..UptoSaid' is the law's where the arguments, and the package variables that the reading takes, are together of bulk at most 1048576: NARROWER than '..Said'. Prove '..Said' where nothing that the law and all that it calls make is longer than what came in: it says more and counts as full. Else prove '..UptoSaid'. A law counts once. -/
mutual
def uptoBulk {H : Type} : DataW H → Nat
  | .lit (.string bytes) => bytes.length + 1
  | .lit _ => 1
  | .nil => 1
  | .ptr d => uptoBulk d + 1
  | .slice elems spare => uptoBulkAll elems + uptoBulkAll spare + 1
  | .agg parts => uptoBulkAll parts + 1
  | .iface _ d => uptoBulk d + 1
  | .map entries => uptoBulkEntries entries + 1
  | .held _ => 1
def uptoBulkAll {H : Type} : List (DataW H) → Nat
  | [] => 0
  | d :: r => uptoBulk d + uptoBulkAll r
def uptoBulkEntries {H : Type} : List (Lit × DataW H) → Nat
  | [] => 0
  | x :: r => uptoBulkEntry x + uptoBulkEntries r
def uptoBulkEntry {H : Type} : Lit × DataW H → Nat
  | (.string bytes, d) => bytes.length + uptoBulk d + 1
  | (_, d) => uptoBulk d + 1
 end
def uptoSmall : (H : Type) → List (DataW H) → Bool := fun _ ds => decide (uptoBulkAll ds ≤ 1048576)
def OpenSpec.upto (s : _root_.Go.ChangeSpec) : _root_.Go.OpenSpec := { _root_.Go.OpenSpec.ofChange s with cond := some uptoSmall }

/-- 'glacislaw15.MapsRuns', WHERE WHAT IT READS IS OF BULK AT MOST 1048576: true; the input reads as it did. -/
def mapsRunsUptoRow : OpenClaim := { program := "ytbjegfkjibfadaa", sum := "ced84a38c6baa62cc808230fe2580580041032e99199687a47535633e15f4aec", func := "glacis/glacislaw15.MapsRuns", spec := "mapsRuns", unfollowed := true, recurses := true, apart := false, narrowed := true }
def MapsRunsUptoSaid : Prop := mapsRunsUptoRow.holds Try.pinned (OpenSpec.upto mapsRunsSpec)

/-- 'glacislaw15.MapsRight', WHERE WHAT IT READS IS OF BULK AT MOST 1048576: true; the input reads as it did. -/
def mapsRightUptoRow : OpenClaim := { program := "ytbjegfkjibfadaa", sum := "ced84a38c6baa62cc808230fe2580580041032e99199687a47535633e15f4aec", func := "glacis/glacislaw15.MapsRight", spec := "mapsRight", apart := false, narrowed := true }
def MapsRightUptoSaid : Prop := mapsRightUptoRow.holds Try.pinned (OpenSpec.upto mapsRightSpec)

/-- 'glacislaw15.MapsSegs', WHERE WHAT IT READS IS OF BULK AT MOST 1048576: true; the input reads as it did. -/
def mapsSegsUptoRow : OpenClaim := { program := "ytbjegfkjibfadaa", sum := "ced84a38c6baa62cc808230fe2580580041032e99199687a47535633e15f4aec", func := "glacis/glacislaw15.MapsSegs", spec := "mapsSegs", unfollowed := true, recurses := true, apart := false, narrowed := true }
def MapsSegsUptoSaid : Prop := mapsSegsUptoRow.holds Try.pinned (OpenSpec.upto mapsSegsSpec)

/-- 'glacislaw15.MapsOrder', WHERE WHAT IT READS IS OF BULK AT MOST 1048576: true; the input reads as it did. -/
def mapsOrderUptoRow : OpenClaim := { program := "ytbjegfkjibfadaa", sum := "ced84a38c6baa62cc808230fe2580580041032e99199687a47535633e15f4aec", func := "glacis/glacislaw15.MapsOrder", spec := "mapsOrder", apart := false, narrowed := true }
def MapsOrderUptoSaid : Prop := mapsOrderUptoRow.holds Try.pinned (OpenSpec.upto mapsOrderSpec)

/-- 'glacislaw15.MapsBack', WHERE WHAT IT READS IS OF BULK AT MOST 1048576: true; the input reads as it did. -/
def mapsBackUptoRow : OpenClaim := { program := "ytbjegfkjibfadaa", sum := "ced84a38c6baa62cc808230fe2580580041032e99199687a47535633e15f4aec", func := "glacis/glacislaw15.MapsBack", spec := "mapsBack", unfollowed := true, recurses := true, apart := false, narrowed := true }
def MapsBackUptoSaid : Prop := mapsBackUptoRow.holds Try.pinned (OpenSpec.upto mapsBackSpec)

end Rows
end Go.Proofs.Ytbjegfkjibfadaa
