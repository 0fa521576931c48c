/-
  No cell of these rows narrows 'for every input' (looked for: loops, veiled, ifaces, maps, wideKeys, modest, calm, conditions, laid).
  DERIVED. THE GIVEN ROWS OF THIS SEAT. 3 by the template 'for every input the law returns true; each argument reads behind the call as it read before'; 0 by the template 'total and deterministic' (their statements: YtdkmddljdggbpaaTotals.lean).
  GIVEN WITH THE SEED: the statements are not yours to turn. If you find one false, say at which input.
  Laid BY PROGRAM, IN A SANDBOX (cutbox-rows.mjs): the forced cells as the released guide's own fill.sh prints them over the translation 5eca645138e562fd… (all of the seat's roots in one cut). By AI agents, Wed Nov 11 2026. No macro, syntax, notation, axiom, sorry.
-/
import Derived.Test.YtdkmddljdggbpaaChecked
import GoSem.Claim
import GoSem.ClaimJoined
import GoSem.ClaimMapViews
import Derived.JoinedTies
import Derived.KernelRfl
namespace Go.Proofs.Ytdkmddljdggbpaa
/- THE CELL 'sum', in the pinned program and in every row, IS THE sha256 OF THE DUMP (.gsa) THAT YtdkmddljdggbpaaProg.lean LOADS. Nothing in Lean hashes anything: it is a label: what it is worth is what the hold of that sum in a sandbox is worth. -/
noncomputable def Try.pinned : Pinned := { name := "ytdkmddljdggbpaa", sum := "5eca645138e562fd9a6d8d7f069b56367a528f96ddd9bbb2880295dd711f1dd9", checked := Try.checked }
namespace Rows
def none {H : Type} : Left H := { results := [], args := [] }

/-- 'glacislaw18.WaitsWhy': WHATEVER THE INPUT: true; the input reads as it did. -/
def waitsWhySpec : ChangeSpec := { name := "waitsWhy", fn := fun _ => fun
  | [d1, d2] => { results := [.lit (.bool true)], args := [d1, d2] }
  | _ => none }
def waitsWhyRow : OpenClaim := { program := "ytdkmddljdggbpaa", sum := "5eca645138e562fd9a6d8d7f069b56367a528f96ddd9bbb2880295dd711f1dd9", func := "glacis/glacislaw18.WaitsWhy", spec := "waitsWhy", apart := false }
def WaitsWhySaid : Prop := waitsWhyRow.holds Try.pinned (OpenSpec.ofChange waitsWhySpec)

/-- ITS FALSE NEIGHBOUR: 'it returns false'. Refute it at one input. -/
def waitsWhyWrong : ChangeSpec := { name := "waitsWhy", fn := fun _ => fun
  | [d1, d2] => { results := [.lit (.bool false)], args := [d1, d2] }
  | _ => none }
def WaitsWhyWrongFalsely : Prop := waitsWhyRow.holds Try.pinned (OpenSpec.ofChange waitsWhyWrong)

/-- 'glacislaw18.WaitsAlerts': WHATEVER THE INPUT: true; the input reads as it did. -/
def waitsAlertsSpec : ChangeSpec := { name := "waitsAlerts", fn := fun _ => fun
  | [d] => { results := [.lit (.bool true)], args := [d] }
  | _ => none }
def waitsAlertsRow : OpenClaim := { program := "ytdkmddljdggbpaa", sum := "5eca645138e562fd9a6d8d7f069b56367a528f96ddd9bbb2880295dd711f1dd9", func := "glacis/glacislaw18.WaitsAlerts", spec := "waitsAlerts", apart := false }
def WaitsAlertsSaid : Prop := waitsAlertsRow.holds Try.pinned (OpenSpec.ofChange waitsAlertsSpec)

/-- ITS FALSE NEIGHBOUR: 'it returns false'. Refute it at one input. -/
def waitsAlertsWrong : ChangeSpec := { name := "waitsAlerts", fn := fun _ => fun
  | [d] => { results := [.lit (.bool false)], args := [d] }
  | _ => none }
def WaitsAlertsWrongFalsely : Prop := waitsAlertsRow.holds Try.pinned (OpenSpec.ofChange waitsAlertsWrong)

/-- 'glacislaw18.WaitsCalm': WHATEVER THE INPUT: true; the input reads as it did. -/
def waitsCalmSpec : ChangeSpec := { name := "waitsCalm", fn := fun _ => fun
  | [d1, d2] => { results := [.lit (.bool true)], args := [d1, d2] }
  | _ => none }
def waitsCalmRow : OpenClaim := { program := "ytdkmddljdggbpaa", sum := "5eca645138e562fd9a6d8d7f069b56367a528f96ddd9bbb2880295dd711f1dd9", func := "glacis/glacislaw18.WaitsCalm", spec := "waitsCalm", apart := false }
def WaitsCalmSaid : Prop := waitsCalmRow.holds Try.pinned (OpenSpec.ofChange waitsCalmSpec)

/-- ITS FALSE NEIGHBOUR: 'it returns false'. Refute it at one input. -/
def waitsCalmWrong : ChangeSpec := { name := "waitsCalm", fn := fun _ => fun
  | [d1, d2] => { results := [.lit (.bool false)], args := [d1, d2] }
  | _ => none }
def WaitsCalmWrongFalsely : Prop := waitsCalmRow.holds Try.pinned (OpenSpec.ofChange waitsCalmWrong)

/- THE SECOND FORM. 'bulk': how many values and letters a reading holds, each counted each time it is reached (what is shared counts as often as it is met; a slice's spare places count too). A statement '..UptoSaid' is the law's where the arguments, and the package variables that the reading takes, are together of bulk at most 1048576: NARROWER than '..Said'. Prove '..Said' where nothing that the law and all that it calls make is longer than what came in: it says more and counts as full. Else prove '..UptoSaid'. A law counts once. -/
mutual
def uptoBulk {H : Type} : DataW H → Nat
  | .lit (.string bytes) => bytes.length + 1
  | .lit _ => 1
  | .nil => 1
  | .ptr d => uptoBulk d + 1
  | .slice elems spare => uptoBulkAll elems + uptoBulkAll spare + 1
  | .agg parts => uptoBulkAll parts + 1
  | .iface _ d => uptoBulk d + 1
  | .map entries => uptoBulkEntries entries + 1
  | .held _ => 1
def uptoBulkAll {H : Type} : List (DataW H) → Nat
  | [] => 0
  | d :: r => uptoBulk d + uptoBulkAll r
def uptoBulkEntries {H : Type} : List (Lit × DataW H) → Nat
  | [] => 0
  | x :: r => uptoBulkEntry x + uptoBulkEntries r
def uptoBulkEntry {H : Type} : Lit × DataW H → Nat
  | (.string bytes, d) => bytes.length + uptoBulk d + 1
  | (_, d) => uptoBulk d + 1
 end
def uptoSmall : (H : Type) → List (DataW H) → Bool := fun _ ds => decide (uptoBulkAll ds ≤ 1048576)
def OpenSpec.upto (s : _root_.Go.ChangeSpec) : _root_.Go.OpenSpec := { _root_.Go.OpenSpec.ofChange s with cond := some uptoSmall }

/-- 'glacislaw18.WaitsWhy', WHERE WHAT IT READS IS OF BULK AT MOST 1048576: true; the input reads as it did. -/
def waitsWhyUptoRow : OpenClaim := { program := "ytdkmddljdggbpaa", sum := "5eca645138e562fd9a6d8d7f069b56367a528f96ddd9bbb2880295dd711f1dd9", func := "glacis/glacislaw18.WaitsWhy", spec := "waitsWhy", apart := false, narrowed := true }
def WaitsWhyUptoSaid : Prop := waitsWhyUptoRow.holds Try.pinned (OpenSpec.upto waitsWhySpec)

/-- 'glacislaw18.WaitsAlerts', WHERE WHAT IT READS IS OF BULK AT MOST 1048576: true; the input reads as it did. -/
def waitsAlertsUptoRow : OpenClaim := { program := "ytdkmddljdggbpaa", sum := "5eca645138e562fd9a6d8d7f069b56367a528f96ddd9bbb2880295dd711f1dd9", func := "glacis/glacislaw18.WaitsAlerts", spec := "waitsAlerts", apart := false, narrowed := true }
def WaitsAlertsUptoSaid : Prop := waitsAlertsUptoRow.holds Try.pinned (OpenSpec.upto waitsAlertsSpec)

/-- 'glacislaw18.WaitsCalm', WHERE WHAT IT READS IS OF BULK AT MOST 1048576: true; the input reads as it did. -/
def waitsCalmUptoRow : OpenClaim := { program := "ytdkmddljdggbpaa", sum := "5eca645138e562fd9a6d8d7f069b56367a528f96ddd9bbb2880295dd711f1dd9", func := "glacis/glacislaw18.WaitsCalm", spec := "waitsCalm", apart := false, narrowed := true }
def WaitsCalmUptoSaid : Prop := waitsCalmUptoRow.holds Try.pinned (OpenSpec.upto waitsCalmSpec)

end Rows
end Go.Proofs.Ytdkmddljdggbpaa
