/-
  No cell of these rows narrows 'for every input' (looked for: loops, veiled, ifaces, maps, wideKeys, modest, calm, conditions, laid).
  DERIVED. THE GIVEN ROWS OF THIS SEAT. 8 by the template 'for every input the law returns true; each argument reads behind the call as it read before'; 0 by the template 'total and deterministic' (their statements: YtknclmofpegilaaTotals.lean).
  GIVEN WITH THE SEED: the statements are not yours to turn. If you find one false, say at which input.
  Laid BY PROGRAM, IN A SANDBOX (cutbox-rows.mjs): the forced cells as the released guide's own fill.sh prints them over the translation cb6568c1230b386a… (all of the seat's roots in one cut). By AI agents, Wed Nov 11 2026. No macro, syntax, notation, axiom, sorry.
-/
import Derived.Test.YtknclmofpegilaaChecked
import GoSem.Claim
import GoSem.ClaimJoined
import GoSem.ClaimMapViews
import Derived.JoinedTies
import Derived.KernelRfl
namespace Go.Proofs.Ytknclmofpegilaa
/- THE CELL 'sum', in the pinned program and in every row, IS THE sha256 OF THE DUMP (.gsa) THAT YtknclmofpegilaaProg.lean LOADS. Nothing in Lean hashes anything: it is a label: what it is worth is what the hold of that sum in a sandbox is worth. -/
noncomputable def Try.pinned : Pinned := { name := "ytknclmofpegilaa", sum := "cb6568c1230b386ae4edecc142f12811d323f0d9d52c269c44384a7a681f859b", checked := Try.checked }
namespace Rows
def none {H : Type} : Left H := { results := [], args := [] }

/-- 'glacislaw01.FltSums': WHATEVER THE INPUT: true; the input reads as it did. -/
def fltSumsSpec : ChangeSpec := { name := "fltSums", fn := fun _ => fun
  | [d1, d2] => { results := [.lit (.bool true)], args := [d1, d2] }
  | _ => none }
def fltSumsRow : OpenClaim := { program := "ytknclmofpegilaa", sum := "cb6568c1230b386ae4edecc142f12811d323f0d9d52c269c44384a7a681f859b", func := "glacis/glacislaw01.FltSums", spec := "fltSums", inPlace := ["math.Float64frombits", "math.Float64bits", "math.sqrt"], apart := false }
def FltSumsSaid : Prop := fltSumsRow.holds Try.pinned (OpenSpec.ofChange fltSumsSpec)

/-- ITS FALSE NEIGHBOUR: 'it returns false'. Refute it at one input. -/
def fltSumsWrong : ChangeSpec := { name := "fltSums", fn := fun _ => fun
  | [d1, d2] => { results := [.lit (.bool false)], args := [d1, d2] }
  | _ => none }
def FltSumsWrongFalsely : Prop := fltSumsRow.holds Try.pinned (OpenSpec.ofChange fltSumsWrong)

/-- 'glacislaw01.FltProducts': WHATEVER THE INPUT: true; the input reads as it did. -/
def fltProductsSpec : ChangeSpec := { name := "fltProducts", fn := fun _ => fun
  | [d1, d2] => { results := [.lit (.bool true)], args := [d1, d2] }
  | _ => none }
def fltProductsRow : OpenClaim := { program := "ytknclmofpegilaa", sum := "cb6568c1230b386ae4edecc142f12811d323f0d9d52c269c44384a7a681f859b", func := "glacis/glacislaw01.FltProducts", spec := "fltProducts", inPlace := ["math.Float64frombits", "math.Float64bits", "math.sqrt"], apart := false }
def FltProductsSaid : Prop := fltProductsRow.holds Try.pinned (OpenSpec.ofChange fltProductsSpec)

/-- ITS FALSE NEIGHBOUR: 'it returns false'. Refute it at one input. -/
def fltProductsWrong : ChangeSpec := { name := "fltProducts", fn := fun _ => fun
  | [d1, d2] => { results := [.lit (.bool false)], args := [d1, d2] }
  | _ => none }
def FltProductsWrongFalsely : Prop := fltProductsRow.holds Try.pinned (OpenSpec.ofChange fltProductsWrong)

/-- 'glacislaw01.FltQuotients': WHATEVER THE INPUT: true; the input reads as it did. -/
def fltQuotientsSpec : ChangeSpec := { name := "fltQuotients", fn := fun _ => fun
  | [d1, d2] => { results := [.lit (.bool true)], args := [d1, d2] }
  | _ => none }
def fltQuotientsRow : OpenClaim := { program := "ytknclmofpegilaa", sum := "cb6568c1230b386ae4edecc142f12811d323f0d9d52c269c44384a7a681f859b", func := "glacis/glacislaw01.FltQuotients", spec := "fltQuotients", inPlace := ["math.Float64frombits", "math.Float64bits", "math.sqrt"], apart := false }
def FltQuotientsSaid : Prop := fltQuotientsRow.holds Try.pinned (OpenSpec.ofChange fltQuotientsSpec)

/-- ITS FALSE NEIGHBOUR: 'it returns false'. Refute it at one input. -/
def fltQuotientsWrong : ChangeSpec := { name := "fltQuotients", fn := fun _ => fun
  | [d1, d2] => { results := [.lit (.bool false)], args := [d1, d2] }
  | _ => none }
def FltQuotientsWrongFalsely : Prop := fltQuotientsRow.holds Try.pinned (OpenSpec.ofChange fltQuotientsWrong)

/-- 'glacislaw01.FltOrder': WHATEVER THE INPUT: true; the input reads as it did. -/
def fltOrderSpec : ChangeSpec := { name := "fltOrder", fn := fun _ => fun
  | [d1, d2] => { results := [.lit (.bool true)], args := [d1, d2] }
  | _ => none }
def fltOrderRow : OpenClaim := { program := "ytknclmofpegilaa", sum := "cb6568c1230b386ae4edecc142f12811d323f0d9d52c269c44384a7a681f859b", func := "glacis/glacislaw01.FltOrder", spec := "fltOrder", inPlace := ["math.Float64frombits", "math.Float64bits", "math.sqrt"], apart := false }
def FltOrderSaid : Prop := fltOrderRow.holds Try.pinned (OpenSpec.ofChange fltOrderSpec)

/-- ITS FALSE NEIGHBOUR: 'it returns false'. Refute it at one input. -/
def fltOrderWrong : ChangeSpec := { name := "fltOrder", fn := fun _ => fun
  | [d1, d2] => { results := [.lit (.bool false)], args := [d1, d2] }
  | _ => none }
def FltOrderWrongFalsely : Prop := fltOrderRow.holds Try.pinned (OpenSpec.ofChange fltOrderWrong)

/-- 'glacislaw01.FltInts': WHATEVER THE INPUT: true; the input reads as it did. -/
def fltIntsSpec : ChangeSpec := { name := "fltInts", fn := fun _ => fun
  | [d1, d2] => { results := [.lit (.bool true)], args := [d1, d2] }
  | _ => none }
def fltIntsRow : OpenClaim := { program := "ytknclmofpegilaa", sum := "cb6568c1230b386ae4edecc142f12811d323f0d9d52c269c44384a7a681f859b", func := "glacis/glacislaw01.FltInts", spec := "fltInts", inPlace := ["math.Float64frombits", "math.Float64bits", "math.sqrt"], apart := false }
def FltIntsSaid : Prop := fltIntsRow.holds Try.pinned (OpenSpec.ofChange fltIntsSpec)

/-- ITS FALSE NEIGHBOUR: 'it returns false'. Refute it at one input. -/
def fltIntsWrong : ChangeSpec := { name := "fltInts", fn := fun _ => fun
  | [d1, d2] => { results := [.lit (.bool false)], args := [d1, d2] }
  | _ => none }
def FltIntsWrongFalsely : Prop := fltIntsRow.holds Try.pinned (OpenSpec.ofChange fltIntsWrong)

/-- 'glacislaw01.FltSigns': WHATEVER THE INPUT: true; the input reads as it did. -/
def fltSignsSpec : ChangeSpec := { name := "fltSigns", fn := fun _ => fun
  | [d1, d2] => { results := [.lit (.bool true)], args := [d1, d2] }
  | _ => none }
def fltSignsRow : OpenClaim := { program := "ytknclmofpegilaa", sum := "cb6568c1230b386ae4edecc142f12811d323f0d9d52c269c44384a7a681f859b", func := "glacis/glacislaw01.FltSigns", spec := "fltSigns", inPlace := ["math.Float64frombits", "math.Float64bits", "math.sqrt"], apart := false }
def FltSignsSaid : Prop := fltSignsRow.holds Try.pinned (OpenSpec.ofChange fltSignsSpec)

/-- ITS FALSE NEIGHBOUR: 'it returns false'. Refute it at one input. -/
def fltSignsWrong : ChangeSpec := { name := "fltSigns", fn := fun _ => fun
  | [d1, d2] => { results := [.lit (.bool false)], args := [d1, d2] }
  | _ => none }
def FltSignsWrongFalsely : Prop := fltSignsRow.holds Try.pinned (OpenSpec.ofChange fltSignsWrong)

/-- 'glacislaw01.FltRises': WHATEVER THE INPUT: true; the input reads as it did. -/
def fltRisesSpec : ChangeSpec := { name := "fltRises", fn := fun _ => fun
  | [d1, d2, d3] => { results := [.lit (.bool true)], args := [d1, d2, d3] }
  | _ => none }
def fltRisesRow : OpenClaim := { program := "ytknclmofpegilaa", sum := "cb6568c1230b386ae4edecc142f12811d323f0d9d52c269c44384a7a681f859b", func := "glacis/glacislaw01.FltRises", spec := "fltRises", inPlace := ["math.Float64frombits", "math.Float64bits", "math.sqrt"], unfollowed := true, recurses := true, apart := false }
def FltRisesSaid : Prop := fltRisesRow.holds Try.pinned (OpenSpec.ofChange fltRisesSpec)

/-- ITS FALSE NEIGHBOUR: 'it returns false'. Refute it at one input. -/
def fltRisesWrong : ChangeSpec := { name := "fltRises", fn := fun _ => fun
  | [d1, d2, d3] => { results := [.lit (.bool false)], args := [d1, d2, d3] }
  | _ => none }
def FltRisesWrongFalsely : Prop := fltRisesRow.holds Try.pinned (OpenSpec.ofChange fltRisesWrong)

/-- 'glacislaw01.FltWhole': WHATEVER THE INPUT: true; the input reads as it did. -/
def fltWholeSpec : ChangeSpec := { name := "fltWhole", fn := fun _ => fun
  | [d1, d2] => { results := [.lit (.bool true)], args := [d1, d2] }
  | _ => none }
def fltWholeRow : OpenClaim := { program := "ytknclmofpegilaa", sum := "cb6568c1230b386ae4edecc142f12811d323f0d9d52c269c44384a7a681f859b", func := "glacis/glacislaw01.FltWhole", spec := "fltWhole", inPlace := ["math.Float64frombits", "math.Float64bits", "math.sqrt"], apart := false }
def FltWholeSaid : Prop := fltWholeRow.holds Try.pinned (OpenSpec.ofChange fltWholeSpec)

/-- ITS FALSE NEIGHBOUR: 'it returns false'. Refute it at one input. -/
def fltWholeWrong : ChangeSpec := { name := "fltWhole", fn := fun _ => fun
  | [d1, d2] => { results := [.lit (.bool false)], args := [d1, d2] }
  | _ => none }
def FltWholeWrongFalsely : Prop := fltWholeRow.holds Try.pinned (OpenSpec.ofChange fltWholeWrong)

/- THE SECOND FORM. 'bulk': how many values and letters a reading holds, each counted each time it is reached (what is shared counts as often as it is met; a slice's spare places count too). A statement '..UptoSaid' is the law's where the arguments, and the package variables that the reading takes, are together of bulk at most 1048576: NARROWER than '..Said'. Prove '..Said' where nothing that the law and all that it calls make is longer than what came in: it says more and counts as full. Else prove '..UptoSaid'. A law counts once. -/
mutual
def uptoBulk {H : Type} : DataW H → Nat
  | .lit (.string bytes) => bytes.length + 1
  | .lit _ => 1
  | .nil => 1
  | .ptr d => uptoBulk d + 1
  | .slice elems spare => uptoBulkAll elems + uptoBulkAll spare + 1
  | .agg parts => uptoBulkAll parts + 1
  | .iface _ d => uptoBulk d + 1
  | .map entries => uptoBulkEntries entries + 1
  | .held _ => 1
def uptoBulkAll {H : Type} : List (DataW H) → Nat
  | [] => 0
  | d :: r => uptoBulk d + uptoBulkAll r
def uptoBulkEntries {H : Type} : List (Lit × DataW H) → Nat
  | [] => 0
  | x :: r => uptoBulkEntry x + uptoBulkEntries r
def uptoBulkEntry {H : Type} : Lit × DataW H → Nat
  | (.string bytes, d) => bytes.length + uptoBulk d + 1
  | (_, d) => uptoBulk d + 1
 end
def uptoSmall : (H : Type) → List (DataW H) → Bool := fun _ ds => decide (uptoBulkAll ds ≤ 1048576)
def OpenSpec.upto (s : _root_.Go.ChangeSpec) : _root_.Go.OpenSpec := { _root_.Go.OpenSpec.ofChange s with cond := some uptoSmall }

/-- 'glacislaw01.FltSums', WHERE WHAT IT READS IS OF BULK AT MOST 1048576: true; the input reads as it did. -/
def fltSumsUptoRow : OpenClaim := { program := "ytknclmofpegilaa", sum := "cb6568c1230b386ae4edecc142f12811d323f0d9d52c269c44384a7a681f859b", func := "glacis/glacislaw01.FltSums", spec := "fltSums", inPlace := ["math.Float64frombits", "math.Float64bits", "math.sqrt"], apart := false, narrowed := true }
def FltSumsUptoSaid : Prop := fltSumsUptoRow.holds Try.pinned (OpenSpec.upto fltSumsSpec)

/-- 'glacislaw01.FltProducts', WHERE WHAT IT READS IS OF BULK AT MOST 1048576: true; the input reads as it did. -/
def fltProductsUptoRow : OpenClaim := { program := "ytknclmofpegilaa", sum := "cb6568c1230b386ae4edecc142f12811d323f0d9d52c269c44384a7a681f859b", func := "glacis/glacislaw01.FltProducts", spec := "fltProducts", inPlace := ["math.Float64frombits", "math.Float64bits", "math.sqrt"], apart := false, narrowed := true }
def FltProductsUptoSaid : Prop := fltProductsUptoRow.holds Try.pinned (OpenSpec.upto fltProductsSpec)

/-- 'glacislaw01.FltQuotients', WHERE WHAT IT READS IS OF BULK AT MOST 1048576: true; the input reads as it did. -/
def fltQuotientsUptoRow : OpenClaim := { program := "ytknclmofpegilaa", sum := "cb6568c1230b386ae4edecc142f12811d323f0d9d52c269c44384a7a681f859b", func := "glacis/glacislaw01.FltQuotients", spec := "fltQuotients", inPlace := ["math.Float64frombits", "math.Float64bits", "math.sqrt"], apart := false, narrowed := true }
def FltQuotientsUptoSaid : Prop := fltQuotientsUptoRow.holds Try.pinned (OpenSpec.upto fltQuotientsSpec)

/-- 'glacislaw01.FltOrder', WHERE WHAT IT READS IS OF BULK AT MOST 1048576: true; the input reads as it did. -/
def fltOrderUptoRow : OpenClaim := { program := "ytknclmofpegilaa", sum := "cb6568c1230b386ae4edecc142f12811d323f0d9d52c269c44384a7a681f859b", func := "glacis/glacislaw01.FltOrder", spec := "fltOrder", inPlace := ["math.Float64frombits", "math.Float64bits", "math.sqrt"], apart := false, narrowed := true }
def FltOrderUptoSaid : Prop := fltOrderUptoRow.holds Try.pinned (OpenSpec.upto fltOrderSpec)

/-- 'glacislaw01.FltInts', WHERE WHAT IT READS IS OF BULK AT MOST 1048576: true; the input reads as it did. -/
def fltIntsUptoRow : OpenClaim := { program := "ytknclmofpegilaa", sum := "cb6568c1230b386ae4edecc142f12811d323f0d9d52c269c44384a7a681f859b", func := "glacis/glacislaw01.FltInts", spec := "fltInts", inPlace := ["math.Float64frombits", "math.Float64bits", "math.sqrt"], apart := false, narrowed := true }
def FltIntsUptoSaid : Prop := fltIntsUptoRow.holds Try.pinned (OpenSpec.upto fltIntsSpec)

/-- 'glacislaw01.FltSigns', WHERE WHAT IT READS IS OF BULK AT MOST 1048576: true; the input reads as it did. -/
def fltSignsUptoRow : OpenClaim := { program := "ytknclmofpegilaa", sum := "cb6568c1230b386ae4edecc142f12811d323f0d9d52c269c44384a7a681f859b", func := "glacis/glacislaw01.FltSigns", spec := "fltSigns", inPlace := ["math.Float64frombits", "math.Float64bits", "math.sqrt"], apart := false, narrowed := true }
def FltSignsUptoSaid : Prop := fltSignsUptoRow.holds Try.pinned (OpenSpec.upto fltSignsSpec)

/-- 'glacislaw01.FltRises', WHERE WHAT IT READS IS OF BULK AT MOST 1048576: true; the input reads as it did. -/
def fltRisesUptoRow : OpenClaim := { program := "ytknclmofpegilaa", sum := "cb6568c1230b386ae4edecc142f12811d323f0d9d52c269c44384a7a681f859b", func := "glacis/glacislaw01.FltRises", spec := "fltRises", inPlace := ["math.Float64frombits", "math.Float64bits", "math.sqrt"], unfollowed := true, recurses := true, apart := false, narrowed := true }
def FltRisesUptoSaid : Prop := fltRisesUptoRow.holds Try.pinned (OpenSpec.upto fltRisesSpec)

/-- 'glacislaw01.FltWhole', WHERE WHAT IT READS IS OF BULK AT MOST 1048576: true; the input reads as it did. -/
def fltWholeUptoRow : OpenClaim := { program := "ytknclmofpegilaa", sum := "cb6568c1230b386ae4edecc142f12811d323f0d9d52c269c44384a7a681f859b", func := "glacis/glacislaw01.FltWhole", spec := "fltWhole", inPlace := ["math.Float64frombits", "math.Float64bits", "math.sqrt"], apart := false, narrowed := true }
def FltWholeUptoSaid : Prop := fltWholeUptoRow.holds Try.pinned (OpenSpec.upto fltWholeSpec)

end Rows
end Go.Proofs.Ytknclmofpegilaa
