/-
  No cell of these rows narrows 'for every input' (looked for: loops, veiled, ifaces, maps, wideKeys, modest, calm, conditions, laid).
  DERIVED. THE GIVEN ROWS OF THIS SEAT. 8 by the template 'for every input the law returns true; each argument reads behind the call as it read before'; 0 by the template 'total and deterministic' (their statements: YtlkhbbdigljpjaaTotals.lean).
  GIVEN WITH THE SEED: the statements are not yours to turn. If you find one false, say at which input.
  Laid BY PROGRAM, IN A SANDBOX (cutbox-rows.mjs): the forced cells as the released guide's own fill.sh prints them over the translation 6583d784fa7ab8a9… (all of the seat's roots in one cut). By AI agents, Wed Nov 11 2026. No macro, syntax, notation, axiom, sorry.
-/
import Derived.Test.YtlkhbbdigljpjaaChecked
import GoSem.Claim
import GoSem.ClaimJoined
import GoSem.ClaimMapViews
import Derived.JoinedTies
import Derived.KernelRfl
namespace Go.Proofs.Ytlkhbbdigljpjaa
/- THE CELL 'sum', in the pinned program and in every row, IS THE sha256 OF THE DUMP (.gsa) THAT YtlkhbbdigljpjaaProg.lean LOADS. Nothing in Lean hashes anything: it is a label: what it is worth is what the hold of that sum in a sandbox is worth. -/
noncomputable def Try.pinned : Pinned := { name := "ytlkhbbdigljpjaa", sum := "6583d784fa7ab8a91a2a5cbdc7cc2c2d0c803e2e56c87e62a09948cbaa770982", checked := Try.checked }
namespace Rows
def none {H : Type} : Left H := { results := [], args := [] }

/-- 'glacislaw02.LabelRight': WHATEVER THE INPUT: true; the input reads as it did. -/
def labelRightSpec : ChangeSpec := { name := "labelRight", fn := fun _ => fun
  | [d] => { results := [.lit (.bool true)], args := [d] }
  | _ => none }
def labelRightRow : OpenClaim := { program := "ytlkhbbdigljpjaa", sum := "6583d784fa7ab8a91a2a5cbdc7cc2c2d0c803e2e56c87e62a09948cbaa770982", func := "glacis/glacislaw02.LabelRight", spec := "labelRight", unfollowed := true, recurses := true, apart := false }
def LabelRightSaid : Prop := labelRightRow.holds Try.pinned (OpenSpec.ofChange labelRightSpec)

/-- ITS FALSE NEIGHBOUR: 'it returns false'. Refute it at one input. -/
def labelRightWrong : ChangeSpec := { name := "labelRight", fn := fun _ => fun
  | [d] => { results := [.lit (.bool false)], args := [d] }
  | _ => none }
def LabelRightWrongFalsely : Prop := labelRightRow.holds Try.pinned (OpenSpec.ofChange labelRightWrong)

/-- 'glacislaw02.LabelMakes': WHATEVER THE INPUT: true; the input reads as it did. -/
def labelMakesSpec : ChangeSpec := { name := "labelMakes", fn := fun _ => fun
  | [d1, d2] => { results := [.lit (.bool true)], args := [d1, d2] }
  | _ => none }
def labelMakesRow : OpenClaim := { program := "ytlkhbbdigljpjaa", sum := "6583d784fa7ab8a91a2a5cbdc7cc2c2d0c803e2e56c87e62a09948cbaa770982", func := "glacis/glacislaw02.LabelMakes", spec := "labelMakes", unfollowed := true, recurses := true, apart := false }
def LabelMakesSaid : Prop := labelMakesRow.holds Try.pinned (OpenSpec.ofChange labelMakesSpec)

/-- ITS FALSE NEIGHBOUR: 'it returns false'. Refute it at one input. -/
def labelMakesWrong : ChangeSpec := { name := "labelMakes", fn := fun _ => fun
  | [d1, d2] => { results := [.lit (.bool false)], args := [d1, d2] }
  | _ => none }
def LabelMakesWrongFalsely : Prop := labelMakesRow.holds Try.pinned (OpenSpec.ofChange labelMakesWrong)

/-- 'glacislaw02.LabelAsks': WHATEVER THE INPUT: true; the input reads as it did. -/
def labelAsksSpec : ChangeSpec := { name := "labelAsks", fn := fun _ => fun
  | [d1, d2, d3] => { results := [.lit (.bool true)], args := [d1, d2, d3] }
  | _ => none }
def labelAsksRow : OpenClaim := { program := "ytlkhbbdigljpjaa", sum := "6583d784fa7ab8a91a2a5cbdc7cc2c2d0c803e2e56c87e62a09948cbaa770982", func := "glacis/glacislaw02.LabelAsks", spec := "labelAsks", unfollowed := true, recurses := true, apart := false }
def LabelAsksSaid : Prop := labelAsksRow.holds Try.pinned (OpenSpec.ofChange labelAsksSpec)

/-- ITS FALSE NEIGHBOUR: 'it returns false'. Refute it at one input. -/
def labelAsksWrong : ChangeSpec := { name := "labelAsks", fn := fun _ => fun
  | [d1, d2, d3] => { results := [.lit (.bool false)], args := [d1, d2, d3] }
  | _ => none }
def LabelAsksWrongFalsely : Prop := labelAsksRow.holds Try.pinned (OpenSpec.ofChange labelAsksWrong)

/-- 'glacislaw02.LabelOrder': WHATEVER THE INPUT: true; the input reads as it did. -/
def labelOrderSpec : ChangeSpec := { name := "labelOrder", fn := fun _ => fun
  | [d1, d2, d3] => { results := [.lit (.bool true)], args := [d1, d2, d3] }
  | _ => none }
def labelOrderRow : OpenClaim := { program := "ytlkhbbdigljpjaa", sum := "6583d784fa7ab8a91a2a5cbdc7cc2c2d0c803e2e56c87e62a09948cbaa770982", func := "glacis/glacislaw02.LabelOrder", spec := "labelOrder", unfollowed := true, recurses := true, apart := false }
def LabelOrderSaid : Prop := labelOrderRow.holds Try.pinned (OpenSpec.ofChange labelOrderSpec)

/-- ITS FALSE NEIGHBOUR: 'it returns false'. Refute it at one input. -/
def labelOrderWrong : ChangeSpec := { name := "labelOrder", fn := fun _ => fun
  | [d1, d2, d3] => { results := [.lit (.bool false)], args := [d1, d2, d3] }
  | _ => none }
def LabelOrderWrongFalsely : Prop := labelOrderRow.holds Try.pinned (OpenSpec.ofChange labelOrderWrong)

/-- 'glacislaw02.LabelBounds': WHATEVER THE INPUT: true; the input reads as it did. -/
def labelBoundsSpec : ChangeSpec := { name := "labelBounds", fn := fun _ => fun
  | [d1, d2, d3] => { results := [.lit (.bool true)], args := [d1, d2, d3] }
  | _ => none }
def labelBoundsRow : OpenClaim := { program := "ytlkhbbdigljpjaa", sum := "6583d784fa7ab8a91a2a5cbdc7cc2c2d0c803e2e56c87e62a09948cbaa770982", func := "glacis/glacislaw02.LabelBounds", spec := "labelBounds", unfollowed := true, recurses := true, apart := false }
def LabelBoundsSaid : Prop := labelBoundsRow.holds Try.pinned (OpenSpec.ofChange labelBoundsSpec)

/-- ITS FALSE NEIGHBOUR: 'it returns false'. Refute it at one input. -/
def labelBoundsWrong : ChangeSpec := { name := "labelBounds", fn := fun _ => fun
  | [d1, d2, d3] => { results := [.lit (.bool false)], args := [d1, d2, d3] }
  | _ => none }
def LabelBoundsWrongFalsely : Prop := labelBoundsRow.holds Try.pinned (OpenSpec.ofChange labelBoundsWrong)

/-- 'glacislaw02.LabelRaises': WHATEVER THE INPUT: true; the input reads as it did. -/
def labelRaisesSpec : ChangeSpec := { name := "labelRaises", fn := fun _ => fun
  | [d1, d2] => { results := [.lit (.bool true)], args := [d1, d2] }
  | _ => none }
def labelRaisesRow : OpenClaim := { program := "ytlkhbbdigljpjaa", sum := "6583d784fa7ab8a91a2a5cbdc7cc2c2d0c803e2e56c87e62a09948cbaa770982", func := "glacis/glacislaw02.LabelRaises", spec := "labelRaises", unfollowed := true, recurses := true, apart := false }
def LabelRaisesSaid : Prop := labelRaisesRow.holds Try.pinned (OpenSpec.ofChange labelRaisesSpec)

/-- ITS FALSE NEIGHBOUR: 'it returns false'. Refute it at one input. -/
def labelRaisesWrong : ChangeSpec := { name := "labelRaises", fn := fun _ => fun
  | [d1, d2] => { results := [.lit (.bool false)], args := [d1, d2] }
  | _ => none }
def LabelRaisesWrongFalsely : Prop := labelRaisesRow.holds Try.pinned (OpenSpec.ofChange labelRaisesWrong)

/-- 'glacislaw02.LabelDual': WHATEVER THE INPUT: true; the input reads as it did. -/
def labelDualSpec : ChangeSpec := { name := "labelDual", fn := fun _ => fun
  | [d1, d2, d3] => { results := [.lit (.bool true)], args := [d1, d2, d3] }
  | _ => none }
def labelDualRow : OpenClaim := { program := "ytlkhbbdigljpjaa", sum := "6583d784fa7ab8a91a2a5cbdc7cc2c2d0c803e2e56c87e62a09948cbaa770982", func := "glacis/glacislaw02.LabelDual", spec := "labelDual", unfollowed := true, recurses := true, apart := false }
def LabelDualSaid : Prop := labelDualRow.holds Try.pinned (OpenSpec.ofChange labelDualSpec)

/-- ITS FALSE NEIGHBOUR: 'it returns false'. Refute it at one input. -/
def labelDualWrong : ChangeSpec := { name := "labelDual", fn := fun _ => fun
  | [d1, d2, d3] => { results := [.lit (.bool false)], args := [d1, d2, d3] }
  | _ => none }
def LabelDualWrongFalsely : Prop := labelDualRow.holds Try.pinned (OpenSpec.ofChange labelDualWrong)

/-- 'glacislaw02.LabelWith': WHATEVER THE INPUT: true; the input reads as it did. -/
def labelWithSpec : ChangeSpec := { name := "labelWith", fn := fun _ => fun
  | [d1, d2, d3] => { results := [.lit (.bool true)], args := [d1, d2, d3] }
  | _ => none }
def labelWithRow : OpenClaim := { program := "ytlkhbbdigljpjaa", sum := "6583d784fa7ab8a91a2a5cbdc7cc2c2d0c803e2e56c87e62a09948cbaa770982", func := "glacis/glacislaw02.LabelWith", spec := "labelWith", unfollowed := true, recurses := true, apart := false }
def LabelWithSaid : Prop := labelWithRow.holds Try.pinned (OpenSpec.ofChange labelWithSpec)

/-- ITS FALSE NEIGHBOUR: 'it returns false'. Refute it at one input. -/
def labelWithWrong : ChangeSpec := { name := "labelWith", fn := fun _ => fun
  | [d1, d2, d3] => { results := [.lit (.bool false)], args := [d1, d2, d3] }
  | _ => none }
def LabelWithWrongFalsely : Prop := labelWithRow.holds Try.pinned (OpenSpec.ofChange labelWithWrong)

/- THE SECOND FORM. 'bulk': how many values and letters a reading holds, each counted each time it is reached (what is shared counts as often as it is met; a slice's spare places count too). A statement '..UptoSaid' is the law's where the arguments, and the package variables that the reading takes, are together of bulk at most 1048576: NARROWER than '..Said'. Prove '..Said' where nothing that the law and all that it calls make is longer than what came in: it says more and counts as full. Else prove '..UptoSaid'. A law counts once. -/
mutual
def uptoBulk {H : Type} : DataW H → Nat
  | .lit (.string bytes) => bytes.length + 1
  | .lit _ => 1
  | .nil => 1
  | .ptr d => uptoBulk d + 1
  | .slice elems spare => uptoBulkAll elems + uptoBulkAll spare + 1
  | .agg parts => uptoBulkAll parts + 1
  | .iface _ d => uptoBulk d + 1
  | .map entries => uptoBulkEntries entries + 1
  | .held _ => 1
def uptoBulkAll {H : Type} : List (DataW H) → Nat
  | [] => 0
  | d :: r => uptoBulk d + uptoBulkAll r
def uptoBulkEntries {H : Type} : List (Lit × DataW H) → Nat
  | [] => 0
  | x :: r => uptoBulkEntry x + uptoBulkEntries r
def uptoBulkEntry {H : Type} : Lit × DataW H → Nat
  | (.string bytes, d) => bytes.length + uptoBulk d + 1
  | (_, d) => uptoBulk d + 1
 end
def uptoSmall : (H : Type) → List (DataW H) → Bool := fun _ ds => decide (uptoBulkAll ds ≤ 1048576)
def OpenSpec.upto (s : _root_.Go.ChangeSpec) : _root_.Go.OpenSpec := { _root_.Go.OpenSpec.ofChange s with cond := some uptoSmall }

/-- 'glacislaw02.LabelRight', WHERE WHAT IT READS IS OF BULK AT MOST 1048576: true; the input reads as it did. -/
def labelRightUptoRow : OpenClaim := { program := "ytlkhbbdigljpjaa", sum := "6583d784fa7ab8a91a2a5cbdc7cc2c2d0c803e2e56c87e62a09948cbaa770982", func := "glacis/glacislaw02.LabelRight", spec := "labelRight", unfollowed := true, recurses := true, apart := false, narrowed := true }
def LabelRightUptoSaid : Prop := labelRightUptoRow.holds Try.pinned (OpenSpec.upto labelRightSpec)

/-- 'glacislaw02.LabelMakes', WHERE WHAT IT READS IS OF BULK AT MOST 1048576: true; the input reads as it did. -/
def labelMakesUptoRow : OpenClaim := { program := "ytlkhbbdigljpjaa", sum := "6583d784fa7ab8a91a2a5cbdc7cc2c2d0c803e2e56c87e62a09948cbaa770982", func := "glacis/glacislaw02.LabelMakes", spec := "labelMakes", unfollowed := true, recurses := true, apart := false, narrowed := true }
def LabelMakesUptoSaid : Prop := labelMakesUptoRow.holds Try.pinned (OpenSpec.upto labelMakesSpec)

/-- 'glacislaw02.LabelAsks', WHERE WHAT IT READS IS OF BULK AT MOST 1048576: true; the input reads as it did. -/
def labelAsksUptoRow : OpenClaim := { program := "ytlkhbbdigljpjaa", sum := "6583d784fa7ab8a91a2a5cbdc7cc2c2d0c803e2e56c87e62a09948cbaa770982", func := "glacis/glacislaw02.LabelAsks", spec := "labelAsks", unfollowed := true, recurses := true, apart := false, narrowed := true }
def LabelAsksUptoSaid : Prop := labelAsksUptoRow.holds Try.pinned (OpenSpec.upto labelAsksSpec)

/-- 'glacislaw02.LabelOrder', WHERE WHAT IT READS IS OF BULK AT MOST 1048576: true; the input reads as it did. -/
def labelOrderUptoRow : OpenClaim := { program := "ytlkhbbdigljpjaa", sum := "6583d784fa7ab8a91a2a5cbdc7cc2c2d0c803e2e56c87e62a09948cbaa770982", func := "glacis/glacislaw02.LabelOrder", spec := "labelOrder", unfollowed := true, recurses := true, apart := false, narrowed := true }
def LabelOrderUptoSaid : Prop := labelOrderUptoRow.holds Try.pinned (OpenSpec.upto labelOrderSpec)

/-- 'glacislaw02.LabelBounds', WHERE WHAT IT READS IS OF BULK AT MOST 1048576: true; the input reads as it did. -/
def labelBoundsUptoRow : OpenClaim := { program := "ytlkhbbdigljpjaa", sum := "6583d784fa7ab8a91a2a5cbdc7cc2c2d0c803e2e56c87e62a09948cbaa770982", func := "glacis/glacislaw02.LabelBounds", spec := "labelBounds", unfollowed := true, recurses := true, apart := false, narrowed := true }
def LabelBoundsUptoSaid : Prop := labelBoundsUptoRow.holds Try.pinned (OpenSpec.upto labelBoundsSpec)

/-- 'glacislaw02.LabelRaises', WHERE WHAT IT READS IS OF BULK AT MOST 1048576: true; the input reads as it did. -/
def labelRaisesUptoRow : OpenClaim := { program := "ytlkhbbdigljpjaa", sum := "6583d784fa7ab8a91a2a5cbdc7cc2c2d0c803e2e56c87e62a09948cbaa770982", func := "glacis/glacislaw02.LabelRaises", spec := "labelRaises", unfollowed := true, recurses := true, apart := false, narrowed := true }
def LabelRaisesUptoSaid : Prop := labelRaisesUptoRow.holds Try.pinned (OpenSpec.upto labelRaisesSpec)

/-- 'glacislaw02.LabelDual', WHERE WHAT IT READS IS OF BULK AT MOST 1048576: true; the input reads as it did. -/
def labelDualUptoRow : OpenClaim := { program := "ytlkhbbdigljpjaa", sum := "6583d784fa7ab8a91a2a5cbdc7cc2c2d0c803e2e56c87e62a09948cbaa770982", func := "glacis/glacislaw02.LabelDual", spec := "labelDual", unfollowed := true, recurses := true, apart := false, narrowed := true }
def LabelDualUptoSaid : Prop := labelDualUptoRow.holds Try.pinned (OpenSpec.upto labelDualSpec)

/-- 'glacislaw02.LabelWith', WHERE WHAT IT READS IS OF BULK AT MOST 1048576: true; the input reads as it did. -/
def labelWithUptoRow : OpenClaim := { program := "ytlkhbbdigljpjaa", sum := "6583d784fa7ab8a91a2a5cbdc7cc2c2d0c803e2e56c87e62a09948cbaa770982", func := "glacis/glacislaw02.LabelWith", spec := "labelWith", unfollowed := true, recurses := true, apart := false, narrowed := true }
def LabelWithUptoSaid : Prop := labelWithUptoRow.holds Try.pinned (OpenSpec.upto labelWithSpec)

end Rows
end Go.Proofs.Ytlkhbbdigljpjaa
