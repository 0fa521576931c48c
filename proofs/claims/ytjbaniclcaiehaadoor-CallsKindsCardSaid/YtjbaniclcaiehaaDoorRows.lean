/-
  NARROWER THAN 'FOR EVERY INPUT', by the rows' own cells (each row's printed sentence says how): CallsOf: laid · CallsKinds: laid · CallsNames: laid.
  DERIVED. THE GIVEN ROWS OF THIS SEAT. 3 by the template 'for every input the law returns true; each argument reads behind the call as it read before'; 0 by the template 'total and deterministic' (their statements: YtjbaniclcaiehaaDoorTotals.lean).
  GIVEN WITH THE SEED: the statements are not yours to turn. If you find one false, say at which input.
  Laid BY PROGRAM, IN A SANDBOX (cutbox-rows.mjs): the forced cells as the released guide's own fill.sh prints them over the translation d4721ac8257721ca… (all of the seat's roots in one cut). By AI agents, Wed Nov 11 2026. No macro, syntax, notation, axiom, sorry.
-/
import Derived.Test.YtjbaniclcaiehaaDoorChecked
import GoSem.Claim
import GoSem.ClaimJoined
import GoSem.ClaimMapViews
import Derived.JoinedTies
import Derived.KernelRfl
namespace Go.Proofs.YtjbaniclcaiehaaDoor
/- THE CELL 'sum', in the pinned program and in every row, IS THE sha256 OF THE DUMP (.gsa) THAT YtjbaniclcaiehaaDoorProg.lean LOADS. Nothing in Lean hashes anything: it is a label: what it is worth is what the hold of that sum in a sandbox is worth. -/
noncomputable def Tryd.pinned : Pinned := { name := "ytjbaniclcaiehaadoor", sum := "d4721ac8257721ca7ca87c04ee83ef42fa48bef5b4d72ac1d598992288ac506b", checked := Tryd.checked }
namespace Rows
def none {H : Type} : Left H := { results := [], args := [] }

/- WHAT THE LISTED PACKAGE-LEVEL VARIABLES READ AS WHEN THE CALL BEGINS. Each datum BY PROGRAM (the guide's laid-datum.mjs) off the statement by which the dump's own 'gosem.cut.vars' lays the variable. In a bare row this is a premise. The card (YtjbaniclcaiehaaDoorCards.lean) ties it to the program's text. -/
def laid_glacis_calls_texts {H : Type} : DataW H := .agg [.lit (.string []), .lit (.string [99, 97, 116, 110, 101, 119]), .lit (.string [115, 101, 108, 102, 108, 97, 98, 101, 108]), .lit (.string [115, 101, 108, 102, 99, 108, 101, 97, 114]), .lit (.string [115, 101, 108, 102]), .lit (.string [108, 97, 98, 101, 108, 111, 102, 32, 58, 49]), .lit (.string [99, 111, 110, 116, 110, 101, 119, 32, 49, 58]), .lit (.string [115, 101, 103, 110, 101, 119, 32, 49, 58]), .lit (.string [115, 112, 97, 99, 101, 110, 101, 119, 32, 49, 58]), .lit (.string [116, 104, 114, 101, 97, 100, 110, 101, 119, 32, 49, 58]), .lit (.string [103, 97, 116, 101, 110, 101, 119, 32, 49, 58]), .lit (.string [117, 110, 114, 101, 102, 32, 49, 32, 50, 58]), .lit (.string [115, 116, 97, 116, 32, 58, 49]), .lit (.string [108, 105, 115, 116, 32, 58, 49]), .lit (.string [113, 117, 111, 116, 97, 32, 58, 49]), .lit (.string [109, 111, 118, 101, 32, 49, 32, 50, 58]), .lit (.string [114, 101, 115, 105, 122, 101, 32, 49, 58]), .lit (.string [114, 101, 97, 100, 32, 58, 49]), .lit (.string [119, 114, 105, 116, 101, 32, 49, 58]), .lit (.string [99, 111, 112, 121, 32, 49, 58, 51]), .lit (.string [109, 97, 112, 32, 49, 58, 51]), .lit (.string [117, 110, 109, 97, 112, 32, 49, 58]), .lit (.string [117, 115, 101, 32, 58, 49]), .lit (.string [101, 110, 116, 101, 114, 32, 58, 49]), .lit (.string [104, 97, 108, 116]), .lit (.string [115, 116, 97, 114, 116, 32, 49, 58]), .lit (.string [119, 97, 105, 116, 32, 58, 49]), .lit (.string [119, 97, 107, 101, 32, 49, 58]), .lit (.string [97, 108, 101, 114, 116, 32, 49, 58]), .lit (.string [97, 108, 101, 114, 116, 103, 101, 116]), .lit (.string [100, 101, 118, 114, 101, 97, 100, 32, 49, 58]), .lit (.string [100, 101, 118, 119, 114, 105, 116, 101, 32, 49, 58]), .lit (.string [99, 108, 111, 99, 107]), .lit (.string [121, 105, 101, 108, 100]), .lit (.string [115, 101, 116, 105, 110, 102, 111, 32, 49, 58]), .lit (.string [105, 110, 102, 111, 32, 58, 49]), .lit (.string [109, 97, 112, 97, 116, 32, 58, 49]), .lit (.string [104, 111, 109, 101, 111, 102, 32, 58, 49]), .lit (.string [111, 119, 110, 101, 100]), .lit (.string [108, 101, 118, 101, 108, 32, 58, 49]), .lit (.string [114, 105, 103, 104, 116, 115, 32, 58, 49])]

/-- 'glacislaw21.CallsOf': WHATEVER THE INPUT: true; the input reads as it did. -/
def callsOfSpec : ChangeSpec := { name := "callsOf", fn := fun _ => fun
  | [d] => { results := [.lit (.bool true)], args := [d] }
  | _ => none }
def callsOfRow : OpenClaim := { program := "ytjbaniclcaiehaadoor", sum := "d4721ac8257721ca7ca87c04ee83ef42fa48bef5b4d72ac1d598992288ac506b", func := "glacis/glacislaw21.CallsOf", spec := "callsOf", named := ["glacis/calls.texts"], apart := false, laid := [("glacis/calls.texts", laid_glacis_calls_texts)] }
def CallsOfSaid : Prop := callsOfRow.holds Tryd.pinned (OpenSpec.ofChange callsOfSpec)

/-- ITS FALSE NEIGHBOUR: 'it returns false'. Refute it at one input. -/
def callsOfWrong : ChangeSpec := { name := "callsOf", fn := fun _ => fun
  | [d] => { results := [.lit (.bool false)], args := [d] }
  | _ => none }
def CallsOfWrongFalsely : Prop := callsOfRow.holds Tryd.pinned (OpenSpec.ofChange callsOfWrong)

/-- 'glacislaw21.CallsKinds': WHATEVER THE INPUT: true; the input reads as it did. -/
def callsKindsSpec : ChangeSpec := { name := "callsKinds", fn := fun _ => fun
  | [d] => { results := [.lit (.bool true)], args := [d] }
  | _ => none }
def callsKindsRow : OpenClaim := { program := "ytjbaniclcaiehaadoor", sum := "d4721ac8257721ca7ca87c04ee83ef42fa48bef5b4d72ac1d598992288ac506b", func := "glacis/glacislaw21.CallsKinds", spec := "callsKinds", named := ["glacis/calls.texts"], apart := false, laid := [("glacis/calls.texts", laid_glacis_calls_texts)] }
def CallsKindsSaid : Prop := callsKindsRow.holds Tryd.pinned (OpenSpec.ofChange callsKindsSpec)

/-- ITS FALSE NEIGHBOUR: 'it returns false'. Refute it at one input. -/
def callsKindsWrong : ChangeSpec := { name := "callsKinds", fn := fun _ => fun
  | [d] => { results := [.lit (.bool false)], args := [d] }
  | _ => none }
def CallsKindsWrongFalsely : Prop := callsKindsRow.holds Tryd.pinned (OpenSpec.ofChange callsKindsWrong)

/-- 'glacislaw21.CallsNames': WHATEVER THE INPUT: true; the input reads as it did. -/
def callsNamesSpec : ChangeSpec := { name := "callsNames", fn := fun _ => fun
  | [d1, d2] => { results := [.lit (.bool true)], args := [d1, d2] }
  | _ => none }
def callsNamesRow : OpenClaim := { program := "ytjbaniclcaiehaadoor", sum := "d4721ac8257721ca7ca87c04ee83ef42fa48bef5b4d72ac1d598992288ac506b", func := "glacis/glacislaw21.CallsNames", spec := "callsNames", named := ["glacis/calls.texts"], apart := false, laid := [("glacis/calls.texts", laid_glacis_calls_texts)] }
def CallsNamesSaid : Prop := callsNamesRow.holds Tryd.pinned (OpenSpec.ofChange callsNamesSpec)

/-- ITS FALSE NEIGHBOUR: 'it returns false'. Refute it at one input. -/
def callsNamesWrong : ChangeSpec := { name := "callsNames", fn := fun _ => fun
  | [d1, d2] => { results := [.lit (.bool false)], args := [d1, d2] }
  | _ => none }
def CallsNamesWrongFalsely : Prop := callsNamesRow.holds Tryd.pinned (OpenSpec.ofChange callsNamesWrong)

/- THE SECOND FORM. 'bulk': how many values and letters a reading holds, each counted each time it is reached (what is shared counts as often as it is met; a slice's spare places count too). A statement '..UptoSaid' is the law's where the arguments, and the package variables that the reading takes, are together of bulk at most 1048576: NARROWER than '..Said'. Prove '..Said' where nothing that the law and all that it calls make is longer than what came in: it says more and counts as full. Else prove '..UptoSaid'. A law counts once. -/
mutual
def uptoBulk {H : Type} : DataW H → Nat
  | .lit (.string bytes) => bytes.length + 1
  | .lit _ => 1
  | .nil => 1
  | .ptr d => uptoBulk d + 1
  | .slice elems spare => uptoBulkAll elems + uptoBulkAll spare + 1
  | .agg parts => uptoBulkAll parts + 1
  | .iface _ d => uptoBulk d + 1
  | .map entries => uptoBulkEntries entries + 1
  | .held _ => 1
def uptoBulkAll {H : Type} : List (DataW H) → Nat
  | [] => 0
  | d :: r => uptoBulk d + uptoBulkAll r
def uptoBulkEntries {H : Type} : List (Lit × DataW H) → Nat
  | [] => 0
  | x :: r => uptoBulkEntry x + uptoBulkEntries r
def uptoBulkEntry {H : Type} : Lit × DataW H → Nat
  | (.string bytes, d) => bytes.length + uptoBulk d + 1
  | (_, d) => uptoBulk d + 1
 end
def uptoSmall : (H : Type) → List (DataW H) → Bool := fun _ ds => decide (uptoBulkAll ds ≤ 1048576)
def OpenSpec.upto (s : _root_.Go.ChangeSpec) : _root_.Go.OpenSpec := { _root_.Go.OpenSpec.ofChange s with cond := some uptoSmall }

/-- 'glacislaw21.CallsOf', WHERE WHAT IT READS IS OF BULK AT MOST 1048576: true; the input reads as it did. -/
def callsOfUptoRow : OpenClaim := { program := "ytjbaniclcaiehaadoor", sum := "d4721ac8257721ca7ca87c04ee83ef42fa48bef5b4d72ac1d598992288ac506b", func := "glacis/glacislaw21.CallsOf", spec := "callsOf", named := ["glacis/calls.texts"], apart := false, laid := [("glacis/calls.texts", laid_glacis_calls_texts)], narrowed := true }
def CallsOfUptoSaid : Prop := callsOfUptoRow.holds Tryd.pinned (OpenSpec.upto callsOfSpec)

/-- 'glacislaw21.CallsKinds', WHERE WHAT IT READS IS OF BULK AT MOST 1048576: true; the input reads as it did. -/
def callsKindsUptoRow : OpenClaim := { program := "ytjbaniclcaiehaadoor", sum := "d4721ac8257721ca7ca87c04ee83ef42fa48bef5b4d72ac1d598992288ac506b", func := "glacis/glacislaw21.CallsKinds", spec := "callsKinds", named := ["glacis/calls.texts"], apart := false, laid := [("glacis/calls.texts", laid_glacis_calls_texts)], narrowed := true }
def CallsKindsUptoSaid : Prop := callsKindsUptoRow.holds Tryd.pinned (OpenSpec.upto callsKindsSpec)

/-- 'glacislaw21.CallsNames', WHERE WHAT IT READS IS OF BULK AT MOST 1048576: true; the input reads as it did. -/
def callsNamesUptoRow : OpenClaim := { program := "ytjbaniclcaiehaadoor", sum := "d4721ac8257721ca7ca87c04ee83ef42fa48bef5b4d72ac1d598992288ac506b", func := "glacis/glacislaw21.CallsNames", spec := "callsNames", named := ["glacis/calls.texts"], apart := false, laid := [("glacis/calls.texts", laid_glacis_calls_texts)], narrowed := true }
def CallsNamesUptoSaid : Prop := callsNamesUptoRow.holds Tryd.pinned (OpenSpec.upto callsNamesSpec)

end Rows
end Go.Proofs.YtjbaniclcaiehaaDoor
