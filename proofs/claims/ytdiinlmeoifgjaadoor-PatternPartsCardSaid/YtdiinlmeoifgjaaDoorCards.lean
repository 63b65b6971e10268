/-
  DERIVED. GIVEN WITH THE SEED: THE CARDS: each row of YtdiinlmeoifgjaaDoorRows.lean that lists a variable, with what it lists TIED to the program's text (the seventh form; the later family's looks); each row that meets fmt, with fmt's text TOLD by the authors' own Lean function (tested against real Go, not proved from fmt's source: count such statements apart). THE CARD IS WHAT COUNTS. Prove the row's statement (the work); the ties are given (YtdiinlmeoifgjaaDoorTie.lean); close each card by the builder's one call (the guide's Derived/Test/ToyasCard.lean, 'card_holds'). Laid BY PROGRAM, IN A SANDBOX (cutbox-door.mjs). By AI agents, Wed Nov 11 2026. No macro, syntax, notation, axiom, sorry.
-/
import Derived.Test.YtdiinlmeoifgjaaDoorRows
import GoSem.ClaimSeven
namespace Go.Proofs.YtdiinlmeoifgjaaDoor
namespace Rows

/-- THE TIED CARD OF 'mummerlaw12.PatternLits'. -/
def patternLitsCard : Claim7 := { stood := { row := patternLitsRow, standIns := [], harness := (true, "3958f499520e4e1a5321f34f75edac3bfe7bafef077df2c0de1856b1ca4be442"), looks := false }, kinds := [], alts := [], laidByText := true, laidKinds := [.data, .data, .data, .pinned], laidTests := true, laidLooks := .later }
def PatternLitsCardSaid : Prop := Claim7.holds Tryd.pinned (.plain (OpenSpec.ofChange patternLitsSpec)) patternLitsCard

/-- THE TIED CARD OF 'mummerlaw12.PatternFinds'. -/
def patternFindsCard : Claim7 := { stood := { row := patternFindsRow, standIns := [], harness := (true, "3958f499520e4e1a5321f34f75edac3bfe7bafef077df2c0de1856b1ca4be442"), looks := false }, kinds := [], alts := [], laidByText := true, laidKinds := [.data, .data, .data, .pinned], laidTests := true, laidLooks := .later }
def PatternFindsCardSaid : Prop := Claim7.holds Tryd.pinned (.plain (OpenSpec.ofChange patternFindsSpec)) patternFindsCard

/-- THE TIED CARD OF 'mummerlaw12.PatternParts'. -/
def patternPartsCard : Claim7 := { stood := { row := patternPartsRow, standIns := [], harness := (true, "3958f499520e4e1a5321f34f75edac3bfe7bafef077df2c0de1856b1ca4be442"), looks := false }, kinds := [], alts := [], laidByText := true, laidKinds := [.data, .data, .data, .pinned], laidTests := true, laidLooks := .later }
def PatternPartsCardSaid : Prop := Claim7.holds Tryd.pinned (.plain (OpenSpec.ofChange patternPartsSpec)) patternPartsCard

/-- THE TIED CARD OF 'mummerlaw12.PatternNames'. -/
def patternNamesCard : Claim7 := { stood := { row := patternNamesRow, standIns := [], harness := (true, "3958f499520e4e1a5321f34f75edac3bfe7bafef077df2c0de1856b1ca4be442"), looks := false }, kinds := [], alts := [], laidByText := true, laidKinds := [.data, .data, .data, .pinned], laidTests := true, laidLooks := .later }
def PatternNamesCardSaid : Prop := Claim7.holds Tryd.pinned (.plain (OpenSpec.ofChange patternNamesSpec)) patternNamesCard

/-- THE TIED CARD OF 'mummerlaw12.PatternLiteral'. -/
def patternLiteralCard : Claim7 := { stood := { row := patternLiteralRow, standIns := [], harness := (true, "3958f499520e4e1a5321f34f75edac3bfe7bafef077df2c0de1856b1ca4be442"), looks := false }, kinds := [], alts := [], laidByText := true, laidKinds := [.data, .data, .data, .pinned], laidTests := true, laidLooks := .later }
def PatternLiteralCardSaid : Prop := Claim7.holds Tryd.pinned (.plain (OpenSpec.ofChange patternLiteralSpec)) patternLiteralCard

/-- THE TIED CARD OF 'mummerlaw12.PatternKnown'. -/
def patternKnownCard : Claim7 := { stood := { row := patternKnownRow, standIns := [], harness := (true, "3958f499520e4e1a5321f34f75edac3bfe7bafef077df2c0de1856b1ca4be442"), looks := false }, kinds := [], alts := [], laidByText := true, laidKinds := [.data, .data, .data, .pinned], laidTests := true, laidLooks := .later }
def PatternKnownCardSaid : Prop := Claim7.holds Tryd.pinned (.plain (OpenSpec.ofChange patternKnownSpec)) patternKnownCard

/-- THE SECOND FORM's CARD OF 'mummerlaw12.PatternLits'. -/
def patternLitsUptoCard : Claim7 := { stood := { row := patternLitsUptoRow, standIns := [], harness := (true, "3958f499520e4e1a5321f34f75edac3bfe7bafef077df2c0de1856b1ca4be442"), looks := false }, kinds := [], alts := [], laidByText := true, laidKinds := [.data, .data, .data, .pinned], laidTests := true, laidLooks := .later }
def PatternLitsUptoCardSaid : Prop := Claim7.holds Tryd.pinned (.plain (OpenSpec.upto patternLitsSpec)) patternLitsUptoCard

/-- THE SECOND FORM's CARD OF 'mummerlaw12.PatternFinds'. -/
def patternFindsUptoCard : Claim7 := { stood := { row := patternFindsUptoRow, standIns := [], harness := (true, "3958f499520e4e1a5321f34f75edac3bfe7bafef077df2c0de1856b1ca4be442"), looks := false }, kinds := [], alts := [], laidByText := true, laidKinds := [.data, .data, .data, .pinned], laidTests := true, laidLooks := .later }
def PatternFindsUptoCardSaid : Prop := Claim7.holds Tryd.pinned (.plain (OpenSpec.upto patternFindsSpec)) patternFindsUptoCard

/-- THE SECOND FORM's CARD OF 'mummerlaw12.PatternParts'. -/
def patternPartsUptoCard : Claim7 := { stood := { row := patternPartsUptoRow, standIns := [], harness := (true, "3958f499520e4e1a5321f34f75edac3bfe7bafef077df2c0de1856b1ca4be442"), looks := false }, kinds := [], alts := [], laidByText := true, laidKinds := [.data, .data, .data, .pinned], laidTests := true, laidLooks := .later }
def PatternPartsUptoCardSaid : Prop := Claim7.holds Tryd.pinned (.plain (OpenSpec.upto patternPartsSpec)) patternPartsUptoCard

/-- THE SECOND FORM's CARD OF 'mummerlaw12.PatternNames'. -/
def patternNamesUptoCard : Claim7 := { stood := { row := patternNamesUptoRow, standIns := [], harness := (true, "3958f499520e4e1a5321f34f75edac3bfe7bafef077df2c0de1856b1ca4be442"), looks := false }, kinds := [], alts := [], laidByText := true, laidKinds := [.data, .data, .data, .pinned], laidTests := true, laidLooks := .later }
def PatternNamesUptoCardSaid : Prop := Claim7.holds Tryd.pinned (.plain (OpenSpec.upto patternNamesSpec)) patternNamesUptoCard

/-- THE SECOND FORM's CARD OF 'mummerlaw12.PatternLiteral'. -/
def patternLiteralUptoCard : Claim7 := { stood := { row := patternLiteralUptoRow, standIns := [], harness := (true, "3958f499520e4e1a5321f34f75edac3bfe7bafef077df2c0de1856b1ca4be442"), looks := false }, kinds := [], alts := [], laidByText := true, laidKinds := [.data, .data, .data, .pinned], laidTests := true, laidLooks := .later }
def PatternLiteralUptoCardSaid : Prop := Claim7.holds Tryd.pinned (.plain (OpenSpec.upto patternLiteralSpec)) patternLiteralUptoCard

/-- THE SECOND FORM's CARD OF 'mummerlaw12.PatternKnown'. -/
def patternKnownUptoCard : Claim7 := { stood := { row := patternKnownUptoRow, standIns := [], harness := (true, "3958f499520e4e1a5321f34f75edac3bfe7bafef077df2c0de1856b1ca4be442"), looks := false }, kinds := [], alts := [], laidByText := true, laidKinds := [.data, .data, .data, .pinned], laidTests := true, laidLooks := .later }
def PatternKnownUptoCardSaid : Prop := Claim7.holds Tryd.pinned (.plain (OpenSpec.upto patternKnownSpec)) patternKnownUptoCard
end Rows
end Go.Proofs.YtdiinlmeoifgjaaDoor
