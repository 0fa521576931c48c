/-
  DERIVED. GIVEN WITH THE SEED: THE CARDS: each row of YtjbaniclcaiehaaDoorRows.lean that lists a variable, with what it lists TIED to the program's text (the seventh form; the later family's looks); each row that meets fmt, with fmt's text TOLD by the authors' own Lean function (tested against real Go, not proved from fmt's source: count such statements apart). THE CARD IS WHAT COUNTS. Prove the row's statement (the work); the ties are given (YtjbaniclcaiehaaDoorTie.lean); close each card by the builder's one call (the guide's Derived/Test/ToyasCard.lean, 'card_holds'). Laid BY PROGRAM, IN A SANDBOX (cutbox-door.mjs). By AI agents, Wed Nov 11 2026. No macro, syntax, notation, axiom, sorry.
-/
import Derived.Test.YtjbaniclcaiehaaDoorRows
import GoSem.ClaimSeven
namespace Go.Proofs.YtjbaniclcaiehaaDoor
namespace Rows

/-- THE TIED CARD OF 'glacislaw21.CallsOf'. -/
def callsOfCard : Claim7 := { stood := { row := callsOfRow, standIns := [], harness := (true, "afd3ed426c0c47a91c731c4a1169f864fde6527f8b207430ab9b5f28dd8b8c76"), looks := false }, kinds := [], alts := [], laidByText := true, laidKinds := [.data], laidTests := true, laidLooks := .later }
def CallsOfCardSaid : Prop := Claim7.holds Tryd.pinned (.plain (OpenSpec.ofChange callsOfSpec)) callsOfCard

/-- THE TIED CARD OF 'glacislaw21.CallsKinds'. -/
def callsKindsCard : Claim7 := { stood := { row := callsKindsRow, standIns := [], harness := (true, "afd3ed426c0c47a91c731c4a1169f864fde6527f8b207430ab9b5f28dd8b8c76"), looks := false }, kinds := [], alts := [], laidByText := true, laidKinds := [.data], laidTests := true, laidLooks := .later }
def CallsKindsCardSaid : Prop := Claim7.holds Tryd.pinned (.plain (OpenSpec.ofChange callsKindsSpec)) callsKindsCard

/-- THE TIED CARD OF 'glacislaw21.CallsNames'. -/
def callsNamesCard : Claim7 := { stood := { row := callsNamesRow, standIns := [], harness := (true, "afd3ed426c0c47a91c731c4a1169f864fde6527f8b207430ab9b5f28dd8b8c76"), looks := false }, kinds := [], alts := [], laidByText := true, laidKinds := [.data], laidTests := true, laidLooks := .later }
def CallsNamesCardSaid : Prop := Claim7.holds Tryd.pinned (.plain (OpenSpec.ofChange callsNamesSpec)) callsNamesCard

/-- THE SECOND FORM's CARD OF 'glacislaw21.CallsOf'. -/
def callsOfUptoCard : Claim7 := { stood := { row := callsOfUptoRow, standIns := [], harness := (true, "afd3ed426c0c47a91c731c4a1169f864fde6527f8b207430ab9b5f28dd8b8c76"), looks := false }, kinds := [], alts := [], laidByText := true, laidKinds := [.data], laidTests := true, laidLooks := .later }
def CallsOfUptoCardSaid : Prop := Claim7.holds Tryd.pinned (.plain (OpenSpec.upto callsOfSpec)) callsOfUptoCard

/-- THE SECOND FORM's CARD OF 'glacislaw21.CallsKinds'. -/
def callsKindsUptoCard : Claim7 := { stood := { row := callsKindsUptoRow, standIns := [], harness := (true, "afd3ed426c0c47a91c731c4a1169f864fde6527f8b207430ab9b5f28dd8b8c76"), looks := false }, kinds := [], alts := [], laidByText := true, laidKinds := [.data], laidTests := true, laidLooks := .later }
def CallsKindsUptoCardSaid : Prop := Claim7.holds Tryd.pinned (.plain (OpenSpec.upto callsKindsSpec)) callsKindsUptoCard

/-- THE SECOND FORM's CARD OF 'glacislaw21.CallsNames'. -/
def callsNamesUptoCard : Claim7 := { stood := { row := callsNamesUptoRow, standIns := [], harness := (true, "afd3ed426c0c47a91c731c4a1169f864fde6527f8b207430ab9b5f28dd8b8c76"), looks := false }, kinds := [], alts := [], laidByText := true, laidKinds := [.data], laidTests := true, laidLooks := .later }
def CallsNamesUptoCardSaid : Prop := Claim7.holds Tryd.pinned (.plain (OpenSpec.upto callsNamesSpec)) callsNamesUptoCard
end Rows
end Go.Proofs.YtjbaniclcaiehaaDoor
