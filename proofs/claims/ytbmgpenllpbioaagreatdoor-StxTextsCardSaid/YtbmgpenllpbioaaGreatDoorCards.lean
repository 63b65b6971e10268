/-
  DERIVED. GIVEN WITH THE SEED: THE CARDS: each row of YtbmgpenllpbioaaGreatDoorRows.lean that lists a variable, with what it lists TIED to the program's text (the seventh form; the later family's looks); each row that meets fmt, with fmt's text TOLD by the authors' own Lean function (tested against real Go, not proved from fmt's source: count such statements apart). THE CARD IS WHAT COUNTS. Prove the row's statement (the work); the ties are given (YtbmgpenllpbioaaGreatDoorTie.lean); close each card by the builder's one call (the guide's Derived/Test/ToyasCard.lean, 'card_holds'). Laid BY PROGRAM, IN A SANDBOX (cutbox-door.mjs). By AI agents, Wed Nov 11 2026. No macro, syntax, notation, axiom, sorry.
-/
import Derived.Test.YtbmgpenllpbioaaGreatDoorRows
import GoSem.ClaimSeven
namespace Go.Proofs.YtbmgpenllpbioaaGreatDoor
namespace Rows

/-- THE TIED CARD OF 'mummerlaw10.StxChecks'. -/
def stxChecksCard : Claim7 := { stood := { row := stxChecksRow, standIns := [], harness := (true, "e619198da51ec5ee741a63794f6f5045ef2000e1cca961ea4cac8c144ece14ce"), looks := false }, kinds := [], alts := [], laidByText := true, laidKinds := [.data, .data, .data, .data, .data, .data, .pinned], laidTests := true, laidLooks := .later }
def StxChecksCardSaid : Prop := Claim7.holds Tryz.pinned (.plain (OpenSpec.ofChange stxChecksSpec)) stxChecksCard

/-- THE TIED CARD OF 'mummerlaw10.StxParts'. -/
def stxPartsCard : Claim7 := { stood := { row := stxPartsRow, standIns := [], harness := (true, "e619198da51ec5ee741a63794f6f5045ef2000e1cca961ea4cac8c144ece14ce"), looks := false }, kinds := [], alts := [], laidByText := true, laidKinds := [.data, .data, .data, .data, .data, .data, .pinned], laidTests := true, laidLooks := .later }
def StxPartsCardSaid : Prop := Claim7.holds Tryz.pinned (.plain (OpenSpec.ofChange stxPartsSpec)) stxPartsCard

/-- THE TIED CARD OF 'mummerlaw10.StxData'. -/
def stxDataCard : Claim7 := { stood := { row := stxDataRow, standIns := [], harness := (true, "e619198da51ec5ee741a63794f6f5045ef2000e1cca961ea4cac8c144ece14ce"), looks := false }, kinds := [], alts := [], laidByText := true, laidKinds := [.data, .data, .data, .data, .data, .data, .pinned], laidTests := true, laidLooks := .later }
def StxDataCardSaid : Prop := Claim7.holds Tryz.pinned (.plain (OpenSpec.ofChange stxDataSpec)) stxDataCard

/-- THE TIED CARD OF 'mummerlaw10.StxScopes'. -/
def stxScopesCard : Claim7 := { stood := { row := stxScopesRow, standIns := [], harness := (true, "e619198da51ec5ee741a63794f6f5045ef2000e1cca961ea4cac8c144ece14ce"), looks := false }, kinds := [], alts := [], laidByText := true, laidKinds := [.data, .data, .data, .data, .data, .data, .pinned], laidTests := true, laidLooks := .later }
def StxScopesCardSaid : Prop := Claim7.holds Tryz.pinned (.plain (OpenSpec.ofChange stxScopesSpec)) stxScopesCard

/-- THE TIED CARD OF 'mummerlaw10.StxTexts'. -/
def stxTextsCard : Claim7 := { stood := { row := stxTextsRow, standIns := [], harness := (true, "e619198da51ec5ee741a63794f6f5045ef2000e1cca961ea4cac8c144ece14ce"), looks := false }, kinds := [], alts := [], laidByText := true, laidKinds := [.data, .data, .data, .data, .data, .data, .pinned], laidTests := true, laidLooks := .later }
def StxTextsCardSaid : Prop := Claim7.holds Tryz.pinned (.plain (OpenSpec.ofChange stxTextsSpec)) stxTextsCard

/-- THE TIED CARD OF 'mummerlaw10.StxAlone'. -/
def stxAloneCard : Claim7 := { stood := { row := stxAloneRow, standIns := [], harness := (true, "e619198da51ec5ee741a63794f6f5045ef2000e1cca961ea4cac8c144ece14ce"), looks := false }, kinds := [], alts := [], laidByText := true, laidKinds := [.data, .data, .data, .data, .data, .data, .pinned], laidTests := true, laidLooks := .later }
def StxAloneCardSaid : Prop := Claim7.holds Tryz.pinned (.plain (OpenSpec.ofChange stxAloneSpec)) stxAloneCard

/-- THE TIED CARD OF 'mummerlaw10.StxPuts'. -/
def stxPutsCard : Claim7 := { stood := { row := stxPutsRow, standIns := [], harness := (true, "e619198da51ec5ee741a63794f6f5045ef2000e1cca961ea4cac8c144ece14ce"), looks := false }, kinds := [], alts := [], laidByText := true, laidKinds := [.data, .data, .data, .data, .data, .data, .pinned], laidTests := true, laidLooks := .later }
def StxPutsCardSaid : Prop := Claim7.holds Tryz.pinned (.plain (OpenSpec.ofChange stxPutsSpec)) stxPutsCard

/-- THE SECOND FORM's CARD OF 'mummerlaw10.StxChecks'. -/
def stxChecksUptoCard : Claim7 := { stood := { row := stxChecksUptoRow, standIns := [], harness := (true, "e619198da51ec5ee741a63794f6f5045ef2000e1cca961ea4cac8c144ece14ce"), looks := false }, kinds := [], alts := [], laidByText := true, laidKinds := [.data, .data, .data, .data, .data, .data, .pinned], laidTests := true, laidLooks := .later }
def StxChecksUptoCardSaid : Prop := Claim7.holds Tryz.pinned (.plain (OpenSpec.upto stxChecksSpec)) stxChecksUptoCard

/-- THE SECOND FORM's CARD OF 'mummerlaw10.StxParts'. -/
def stxPartsUptoCard : Claim7 := { stood := { row := stxPartsUptoRow, standIns := [], harness := (true, "e619198da51ec5ee741a63794f6f5045ef2000e1cca961ea4cac8c144ece14ce"), looks := false }, kinds := [], alts := [], laidByText := true, laidKinds := [.data, .data, .data, .data, .data, .data, .pinned], laidTests := true, laidLooks := .later }
def StxPartsUptoCardSaid : Prop := Claim7.holds Tryz.pinned (.plain (OpenSpec.upto stxPartsSpec)) stxPartsUptoCard

/-- THE SECOND FORM's CARD OF 'mummerlaw10.StxData'. -/
def stxDataUptoCard : Claim7 := { stood := { row := stxDataUptoRow, standIns := [], harness := (true, "e619198da51ec5ee741a63794f6f5045ef2000e1cca961ea4cac8c144ece14ce"), looks := false }, kinds := [], alts := [], laidByText := true, laidKinds := [.data, .data, .data, .data, .data, .data, .pinned], laidTests := true, laidLooks := .later }
def StxDataUptoCardSaid : Prop := Claim7.holds Tryz.pinned (.plain (OpenSpec.upto stxDataSpec)) stxDataUptoCard

/-- THE SECOND FORM's CARD OF 'mummerlaw10.StxScopes'. -/
def stxScopesUptoCard : Claim7 := { stood := { row := stxScopesUptoRow, standIns := [], harness := (true, "e619198da51ec5ee741a63794f6f5045ef2000e1cca961ea4cac8c144ece14ce"), looks := false }, kinds := [], alts := [], laidByText := true, laidKinds := [.data, .data, .data, .data, .data, .data, .pinned], laidTests := true, laidLooks := .later }
def StxScopesUptoCardSaid : Prop := Claim7.holds Tryz.pinned (.plain (OpenSpec.upto stxScopesSpec)) stxScopesUptoCard

/-- THE SECOND FORM's CARD OF 'mummerlaw10.StxTexts'. -/
def stxTextsUptoCard : Claim7 := { stood := { row := stxTextsUptoRow, standIns := [], harness := (true, "e619198da51ec5ee741a63794f6f5045ef2000e1cca961ea4cac8c144ece14ce"), looks := false }, kinds := [], alts := [], laidByText := true, laidKinds := [.data, .data, .data, .data, .data, .data, .pinned], laidTests := true, laidLooks := .later }
def StxTextsUptoCardSaid : Prop := Claim7.holds Tryz.pinned (.plain (OpenSpec.upto stxTextsSpec)) stxTextsUptoCard

/-- THE SECOND FORM's CARD OF 'mummerlaw10.StxAlone'. -/
def stxAloneUptoCard : Claim7 := { stood := { row := stxAloneUptoRow, standIns := [], harness := (true, "e619198da51ec5ee741a63794f6f5045ef2000e1cca961ea4cac8c144ece14ce"), looks := false }, kinds := [], alts := [], laidByText := true, laidKinds := [.data, .data, .data, .data, .data, .data, .pinned], laidTests := true, laidLooks := .later }
def StxAloneUptoCardSaid : Prop := Claim7.holds Tryz.pinned (.plain (OpenSpec.upto stxAloneSpec)) stxAloneUptoCard

/-- THE SECOND FORM's CARD OF 'mummerlaw10.StxPuts'. -/
def stxPutsUptoCard : Claim7 := { stood := { row := stxPutsUptoRow, standIns := [], harness := (true, "e619198da51ec5ee741a63794f6f5045ef2000e1cca961ea4cac8c144ece14ce"), looks := false }, kinds := [], alts := [], laidByText := true, laidKinds := [.data, .data, .data, .data, .data, .data, .pinned], laidTests := true, laidLooks := .later }
def StxPutsUptoCardSaid : Prop := Claim7.holds Tryz.pinned (.plain (OpenSpec.upto stxPutsSpec)) stxPutsUptoCard
end Rows
end Go.Proofs.YtbmgpenllpbioaaGreatDoor
