/-
  NARROWER THAN 'FOR EVERY INPUT', by the rows' own cells (each row's printed sentence says how): PatternLits: laid · PatternFinds: laid · PatternParts: laid · PatternNames: laid · PatternLiteral: laid · PatternKnown: laid.
  DERIVED. THE GIVEN ROWS OF THIS SEAT. 6 by the template 'for every input the law returns true; each argument reads behind the call as it read before'; 0 by the template 'total and deterministic' (their statements: YtdiinlmeoifgjaaDoorTotals.lean).
  GIVEN WITH THE SEED: the statements are not yours to turn. If you find one false, say at which input.
  Laid BY PROGRAM, IN A SANDBOX (cutbox-rows.mjs): the forced cells as the released guide's own fill.sh prints them over the translation a345d337de7dde9b… (all of the seat's roots in one cut). By AI agents, Wed Nov 11 2026. No macro, syntax, notation, axiom, sorry.
-/
import Derived.Test.YtdiinlmeoifgjaaDoorChecked
import GoSem.PinnedTables
import GoSem.Claim
import GoSem.ClaimJoined
import GoSem.ClaimMapViews
import Derived.JoinedTies
import Derived.KernelRfl
namespace Go.Proofs.YtdiinlmeoifgjaaDoor
/- THE CELL 'sum', in the pinned program and in every row, IS THE sha256 OF THE DUMP (.gsa) THAT YtdiinlmeoifgjaaDoorProg.lean LOADS. Nothing in Lean hashes anything: it is a label: what it is worth is what the hold of that sum in a sandbox is worth. -/
noncomputable def Tryd.pinned : Pinned := { name := "ytdiinlmeoifgjaadoor", sum := "a345d337de7dde9b6ec620e779709ec25bc2862bb55789af2c3e5dbcb6e4d9e6", checked := Tryd.checked }
namespace Rows
def none {H : Type} : Left H := { results := [], args := [] }

/- WHAT THE LISTED PACKAGE-LEVEL VARIABLES READ AS WHEN THE CALL BEGINS. Each datum BY PROGRAM (the guide's laid-datum.mjs) off the statement by which the dump's own 'gosem.cut.vars' lays the variable. In a bare row this is a premise. The card (YtdiinlmeoifgjaaDoorCards.lean) ties it to the program's text. -/
def laid_unicode_utf8_acceptRanges {H : Type} : DataW H := .agg [.agg [.lit (.int .u8 128), .lit (.int .u8 191)], .agg [.lit (.int .u8 160), .lit (.int .u8 191)], .agg [.lit (.int .u8 128), .lit (.int .u8 159)], .agg [.lit (.int .u8 144), .lit (.int .u8 191)], .agg [.lit (.int .u8 128), .lit (.int .u8 143)], .agg [.lit (.int .u8 0), .lit (.int .u8 0)], .agg [.lit (.int .u8 0), .lit (.int .u8 0)], .agg [.lit (.int .u8 0), .lit (.int .u8 0)], .agg [.lit (.int .u8 0), .lit (.int .u8 0)], .agg [.lit (.int .u8 0), .lit (.int .u8 0)], .agg [.lit (.int .u8 0), .lit (.int .u8 0)], .agg [.lit (.int .u8 0), .lit (.int .u8 0)], .agg [.lit (.int .u8 0), .lit (.int .u8 0)], .agg [.lit (.int .u8 0), .lit (.int .u8 0)], .agg [.lit (.int .u8 0), .lit (.int .u8 0)], .agg [.lit (.int .u8 0), .lit (.int .u8 0)]]
def laid_mummer_runes_members {H : Type} : DataW H := .agg [.lit (.string []), .lit (.string [9, 10, 13, 32]), .lit (.string [40, 91]), .lit (.string [41, 93]), .lit (.string [39]), .lit (.string [35]), .lit (.string [59]), .lit (.string [48, 49, 50, 51, 52, 53, 54, 55, 56, 57]), .lit (.string [43, 45]), .lit (.string [97, 98, 99, 100, 101, 102, 103, 104, 105, 106, 107, 108, 109, 110, 111, 112, 113, 114, 115, 116, 117, 118, 119, 120, 121, 122, 65, 66, 67, 68, 69, 70, 71, 72, 73, 74, 75, 76, 77, 78, 79, 80, 81, 82, 83, 84, 85, 86, 87, 88, 89, 90, 33, 36, 37, 38, 42, 47, 58, 60, 61, 62, 63, 94, 95, 126, 46, 64])]
def laid_mummer_runes_marks {H : Type} : DataW H := .agg [.lit (.int .i32 0), .lit (.int .i32 0), .lit (.int .i32 192), .lit (.int .i32 224), .lit (.int .i32 240)]
/-- One of Go's own tables, pinned by name: the form's constant. -/
def laid_unicode_utf8_first : DataW Unit := Go.Pinned.utf8First

/-- 'mummerlaw12.PatternLits': WHATEVER THE INPUT: true; the input reads as it did. -/
def patternLitsSpec : ChangeSpec := { name := "patternLits", fn := fun _ => fun
  | [d] => { results := [.lit (.bool true)], args := [d] }
  | _ => none }
def patternLitsRow : OpenClaim := { program := "ytdiinlmeoifgjaadoor", sum := "a345d337de7dde9b6ec620e779709ec25bc2862bb55789af2c3e5dbcb6e4d9e6", func := "mummer/mummerlaw12.PatternLits", spec := "patternLits", inPlace := ["internal/bytealg.IndexByteString", "internal/bytealg.IndexString"], unfollowed := true, recurses := true, named := ["mummer/runes.marks", "mummer/runes.members", "unicode/utf8.first", "unicode/utf8.acceptRanges", "internal/bytealg.MaxLen"], plainKeys := false, apart := false, laid := [("unicode/utf8.acceptRanges", laid_unicode_utf8_acceptRanges), ("mummer/runes.members", laid_mummer_runes_members), ("mummer/runes.marks", laid_mummer_runes_marks), ("unicode/utf8.first", laid_unicode_utf8_first)] }
def PatternLitsSaid : Prop := patternLitsRow.holds Tryd.pinned (OpenSpec.ofChange patternLitsSpec)

/-- ITS FALSE NEIGHBOUR: 'it returns false'. Refute it at one input. -/
def patternLitsWrong : ChangeSpec := { name := "patternLits", fn := fun _ => fun
  | [d] => { results := [.lit (.bool false)], args := [d] }
  | _ => none }
def PatternLitsWrongFalsely : Prop := patternLitsRow.holds Tryd.pinned (OpenSpec.ofChange patternLitsWrong)

/-- 'mummerlaw12.PatternFinds': WHATEVER THE INPUT: true; the input reads as it did. -/
def patternFindsSpec : ChangeSpec := { name := "patternFinds", fn := fun _ => fun
  | [d1, d2] => { results := [.lit (.bool true)], args := [d1, d2] }
  | _ => none }
def patternFindsRow : OpenClaim := { program := "ytdiinlmeoifgjaadoor", sum := "a345d337de7dde9b6ec620e779709ec25bc2862bb55789af2c3e5dbcb6e4d9e6", func := "mummer/mummerlaw12.PatternFinds", spec := "patternFinds", inPlace := ["internal/bytealg.IndexByteString", "internal/bytealg.IndexString"], unfollowed := true, recurses := true, named := ["mummer/runes.marks", "mummer/runes.members", "unicode/utf8.first", "unicode/utf8.acceptRanges", "internal/bytealg.MaxLen"], plainKeys := false, apart := false, laid := [("unicode/utf8.acceptRanges", laid_unicode_utf8_acceptRanges), ("mummer/runes.members", laid_mummer_runes_members), ("mummer/runes.marks", laid_mummer_runes_marks), ("unicode/utf8.first", laid_unicode_utf8_first)] }
def PatternFindsSaid : Prop := patternFindsRow.holds Tryd.pinned (OpenSpec.ofChange patternFindsSpec)

/-- ITS FALSE NEIGHBOUR: 'it returns false'. Refute it at one input. -/
def patternFindsWrong : ChangeSpec := { name := "patternFinds", fn := fun _ => fun
  | [d1, d2] => { results := [.lit (.bool false)], args := [d1, d2] }
  | _ => none }
def PatternFindsWrongFalsely : Prop := patternFindsRow.holds Tryd.pinned (OpenSpec.ofChange patternFindsWrong)

/-- 'mummerlaw12.PatternParts': WHATEVER THE INPUT: true; the input reads as it did. -/
def patternPartsSpec : ChangeSpec := { name := "patternParts", fn := fun _ => fun
  | [d1, d2] => { results := [.lit (.bool true)], args := [d1, d2] }
  | _ => none }
def patternPartsRow : OpenClaim := { program := "ytdiinlmeoifgjaadoor", sum := "a345d337de7dde9b6ec620e779709ec25bc2862bb55789af2c3e5dbcb6e4d9e6", func := "mummer/mummerlaw12.PatternParts", spec := "patternParts", inPlace := ["internal/bytealg.IndexByteString", "internal/bytealg.IndexString"], unfollowed := true, recurses := true, named := ["mummer/runes.marks", "mummer/runes.members", "unicode/utf8.first", "unicode/utf8.acceptRanges", "internal/bytealg.MaxLen"], plainKeys := false, apart := false, laid := [("unicode/utf8.acceptRanges", laid_unicode_utf8_acceptRanges), ("mummer/runes.members", laid_mummer_runes_members), ("mummer/runes.marks", laid_mummer_runes_marks), ("unicode/utf8.first", laid_unicode_utf8_first)] }
def PatternPartsSaid : Prop := patternPartsRow.holds Tryd.pinned (OpenSpec.ofChange patternPartsSpec)

/-- ITS FALSE NEIGHBOUR: 'it returns false'. Refute it at one input. -/
def patternPartsWrong : ChangeSpec := { name := "patternParts", fn := fun _ => fun
  | [d1, d2] => { results := [.lit (.bool false)], args := [d1, d2] }
  | _ => none }
def PatternPartsWrongFalsely : Prop := patternPartsRow.holds Tryd.pinned (OpenSpec.ofChange patternPartsWrong)

/-- 'mummerlaw12.PatternNames': WHATEVER THE INPUT: true; the input reads as it did. -/
def patternNamesSpec : ChangeSpec := { name := "patternNames", fn := fun _ => fun
  | [d1, d2] => { results := [.lit (.bool true)], args := [d1, d2] }
  | _ => none }
def patternNamesRow : OpenClaim := { program := "ytdiinlmeoifgjaadoor", sum := "a345d337de7dde9b6ec620e779709ec25bc2862bb55789af2c3e5dbcb6e4d9e6", func := "mummer/mummerlaw12.PatternNames", spec := "patternNames", inPlace := ["internal/bytealg.IndexByteString", "internal/bytealg.IndexString"], unfollowed := true, recurses := true, named := ["mummer/runes.marks", "mummer/runes.members", "unicode/utf8.first", "unicode/utf8.acceptRanges", "internal/bytealg.MaxLen"], plainKeys := false, apart := false, laid := [("unicode/utf8.acceptRanges", laid_unicode_utf8_acceptRanges), ("mummer/runes.members", laid_mummer_runes_members), ("mummer/runes.marks", laid_mummer_runes_marks), ("unicode/utf8.first", laid_unicode_utf8_first)] }
def PatternNamesSaid : Prop := patternNamesRow.holds Tryd.pinned (OpenSpec.ofChange patternNamesSpec)

/-- ITS FALSE NEIGHBOUR: 'it returns false'. Refute it at one input. -/
def patternNamesWrong : ChangeSpec := { name := "patternNames", fn := fun _ => fun
  | [d1, d2] => { results := [.lit (.bool false)], args := [d1, d2] }
  | _ => none }
def PatternNamesWrongFalsely : Prop := patternNamesRow.holds Tryd.pinned (OpenSpec.ofChange patternNamesWrong)

/-- 'mummerlaw12.PatternLiteral': WHATEVER THE INPUT: true; the input reads as it did. -/
def patternLiteralSpec : ChangeSpec := { name := "patternLiteral", fn := fun _ => fun
  | [d1, d2, d3] => { results := [.lit (.bool true)], args := [d1, d2, d3] }
  | _ => none }
def patternLiteralRow : OpenClaim := { program := "ytdiinlmeoifgjaadoor", sum := "a345d337de7dde9b6ec620e779709ec25bc2862bb55789af2c3e5dbcb6e4d9e6", func := "mummer/mummerlaw12.PatternLiteral", spec := "patternLiteral", inPlace := ["internal/bytealg.IndexByteString", "internal/bytealg.IndexString"], unfollowed := true, recurses := true, named := ["mummer/runes.marks", "mummer/runes.members", "unicode/utf8.first", "unicode/utf8.acceptRanges", "internal/bytealg.MaxLen"], plainKeys := false, apart := false, laid := [("unicode/utf8.acceptRanges", laid_unicode_utf8_acceptRanges), ("mummer/runes.members", laid_mummer_runes_members), ("mummer/runes.marks", laid_mummer_runes_marks), ("unicode/utf8.first", laid_unicode_utf8_first)] }
def PatternLiteralSaid : Prop := patternLiteralRow.holds Tryd.pinned (OpenSpec.ofChange patternLiteralSpec)

/-- ITS FALSE NEIGHBOUR: 'it returns false'. Refute it at one input. -/
def patternLiteralWrong : ChangeSpec := { name := "patternLiteral", fn := fun _ => fun
  | [d1, d2, d3] => { results := [.lit (.bool false)], args := [d1, d2, d3] }
  | _ => none }
def PatternLiteralWrongFalsely : Prop := patternLiteralRow.holds Tryd.pinned (OpenSpec.ofChange patternLiteralWrong)

/-- 'mummerlaw12.PatternKnown': WHATEVER THE INPUT: true; the input reads as it did. -/
def patternKnownSpec : ChangeSpec := { name := "patternKnown", fn := fun _ => fun
  | [] => { results := [.lit (.bool true)], args := [] }
  | _ => none }
def patternKnownRow : OpenClaim := { program := "ytdiinlmeoifgjaadoor", sum := "a345d337de7dde9b6ec620e779709ec25bc2862bb55789af2c3e5dbcb6e4d9e6", func := "mummer/mummerlaw12.PatternKnown", spec := "patternKnown", inPlace := ["internal/bytealg.IndexByteString", "internal/bytealg.IndexString"], unfollowed := true, recurses := true, named := ["mummer/runes.marks", "mummer/runes.members", "unicode/utf8.first", "unicode/utf8.acceptRanges", "internal/bytealg.MaxLen"], plainKeys := false, apart := false, laid := [("unicode/utf8.acceptRanges", laid_unicode_utf8_acceptRanges), ("mummer/runes.members", laid_mummer_runes_members), ("mummer/runes.marks", laid_mummer_runes_marks), ("unicode/utf8.first", laid_unicode_utf8_first)] }
def PatternKnownSaid : Prop := patternKnownRow.holds Tryd.pinned (OpenSpec.ofChange patternKnownSpec)

/-- ITS FALSE NEIGHBOUR: 'it returns false'. Refute it at one input. -/
def patternKnownWrong : ChangeSpec := { name := "patternKnown", fn := fun _ => fun
  | [] => { results := [.lit (.bool false)], args := [] }
  | _ => none }
def PatternKnownWrongFalsely : Prop := patternKnownRow.holds Tryd.pinned (OpenSpec.ofChange patternKnownWrong)

/- THE SECOND FORM. 'bulk': how many values and letters a reading holds, each counted each time it is reached (what is shared counts as often as it is met; a slice's spare places count too). A statement '..UptoSaid' is the law's where the arguments, and the package variables that the reading takes, are together of bulk at most 1048576: NARROWER than '..Said'. Prove '..Said' where nothing that the law and all that it calls make is longer than what came in: it says more and counts as full. Else prove '..UptoSaid'. A law counts once. -/
mutual
def uptoBulk {H : Type} : DataW H → Nat
  | .lit (.string bytes) => bytes.length + 1
  | .lit _ => 1
  | .nil => 1
  | .ptr d => uptoBulk d + 1
  | .slice elems spare => uptoBulkAll elems + uptoBulkAll spare + 1
  | .agg parts => uptoBulkAll parts + 1
  | .iface _ d => uptoBulk d + 1
  | .map entries => uptoBulkEntries entries + 1
  | .held _ => 1
def uptoBulkAll {H : Type} : List (DataW H) → Nat
  | [] => 0
  | d :: r => uptoBulk d + uptoBulkAll r
def uptoBulkEntries {H : Type} : List (Lit × DataW H) → Nat
  | [] => 0
  | x :: r => uptoBulkEntry x + uptoBulkEntries r
def uptoBulkEntry {H : Type} : Lit × DataW H → Nat
  | (.string bytes, d) => bytes.length + uptoBulk d + 1
  | (_, d) => uptoBulk d + 1
 end
def uptoSmall : (H : Type) → List (DataW H) → Bool := fun _ ds => decide (uptoBulkAll ds ≤ 1048576)
def OpenSpec.upto (s : _root_.Go.ChangeSpec) : _root_.Go.OpenSpec := { _root_.Go.OpenSpec.ofChange s with cond := some uptoSmall }

/-- 'mummerlaw12.PatternLits', WHERE WHAT IT READS IS OF BULK AT MOST 1048576: true; the input reads as it did. -/
def patternLitsUptoRow : OpenClaim := { program := "ytdiinlmeoifgjaadoor", sum := "a345d337de7dde9b6ec620e779709ec25bc2862bb55789af2c3e5dbcb6e4d9e6", func := "mummer/mummerlaw12.PatternLits", spec := "patternLits", inPlace := ["internal/bytealg.IndexByteString", "internal/bytealg.IndexString"], unfollowed := true, recurses := true, named := ["mummer/runes.marks", "mummer/runes.members", "unicode/utf8.first", "unicode/utf8.acceptRanges", "internal/bytealg.MaxLen"], plainKeys := false, apart := false, laid := [("unicode/utf8.acceptRanges", laid_unicode_utf8_acceptRanges), ("mummer/runes.members", laid_mummer_runes_members), ("mummer/runes.marks", laid_mummer_runes_marks), ("unicode/utf8.first", laid_unicode_utf8_first)], narrowed := true }
def PatternLitsUptoSaid : Prop := patternLitsUptoRow.holds Tryd.pinned (OpenSpec.upto patternLitsSpec)

/-- 'mummerlaw12.PatternFinds', WHERE WHAT IT READS IS OF BULK AT MOST 1048576: true; the input reads as it did. -/
def patternFindsUptoRow : OpenClaim := { program := "ytdiinlmeoifgjaadoor", sum := "a345d337de7dde9b6ec620e779709ec25bc2862bb55789af2c3e5dbcb6e4d9e6", func := "mummer/mummerlaw12.PatternFinds", spec := "patternFinds", inPlace := ["internal/bytealg.IndexByteString", "internal/bytealg.IndexString"], unfollowed := true, recurses := true, named := ["mummer/runes.marks", "mummer/runes.members", "unicode/utf8.first", "unicode/utf8.acceptRanges", "internal/bytealg.MaxLen"], plainKeys := false, apart := false, laid := [("unicode/utf8.acceptRanges", laid_unicode_utf8_acceptRanges), ("mummer/runes.members", laid_mummer_runes_members), ("mummer/runes.marks", laid_mummer_runes_marks), ("unicode/utf8.first", laid_unicode_utf8_first)], narrowed := true }
def PatternFindsUptoSaid : Prop := patternFindsUptoRow.holds Tryd.pinned (OpenSpec.upto patternFindsSpec)

/-- 'mummerlaw12.PatternParts', WHERE WHAT IT READS IS OF BULK AT MOST 1048576: true; the input reads as it did. -/
def patternPartsUptoRow : OpenClaim := { program := "ytdiinlmeoifgjaadoor", sum := "a345d337de7dde9b6ec620e779709ec25bc2862bb55789af2c3e5dbcb6e4d9e6", func := "mummer/mummerlaw12.PatternParts", spec := "patternParts", inPlace := ["internal/bytealg.IndexByteString", "internal/bytealg.IndexString"], unfollowed := true, recurses := true, named := ["mummer/runes.marks", "mummer/runes.members", "unicode/utf8.first", "unicode/utf8.acceptRanges", "internal/bytealg.MaxLen"], plainKeys := false, apart := false, laid := [("unicode/utf8.acceptRanges", laid_unicode_utf8_acceptRanges), ("mummer/runes.members", laid_mummer_runes_members), ("mummer/runes.marks", laid_mummer_runes_marks), ("unicode/utf8.first", laid_unicode_utf8_first)], narrowed := true }
def PatternPartsUptoSaid : Prop := patternPartsUptoRow.holds Tryd.pinned (OpenSpec.upto patternPartsSpec)

/-- 'mummerlaw12.PatternNames', WHERE WHAT IT READS IS OF BULK AT MOST 1048576: true; the input reads as it did. -/
def patternNamesUptoRow : OpenClaim := { program := "ytdiinlmeoifgjaadoor", sum := "a345d337de7dde9b6ec620e779709ec25bc2862bb55789af2c3e5dbcb6e4d9e6", func := "mummer/mummerlaw12.PatternNames", spec := "patternNames", inPlace := ["internal/bytealg.IndexByteString", "internal/bytealg.IndexString"], unfollowed := true, recurses := true, named := ["mummer/runes.marks", "mummer/runes.members", "unicode/utf8.first", "unicode/utf8.acceptRanges", "internal/bytealg.MaxLen"], plainKeys := false, apart := false, laid := [("unicode/utf8.acceptRanges", laid_unicode_utf8_acceptRanges), ("mummer/runes.members", laid_mummer_runes_members), ("mummer/runes.marks", laid_mummer_runes_marks), ("unicode/utf8.first", laid_unicode_utf8_first)], narrowed := true }
def PatternNamesUptoSaid : Prop := patternNamesUptoRow.holds Tryd.pinned (OpenSpec.upto patternNamesSpec)

/-- 'mummerlaw12.PatternLiteral', WHERE WHAT IT READS IS OF BULK AT MOST 1048576: true; the input reads as it did. -/
def patternLiteralUptoRow : OpenClaim := { program := "ytdiinlmeoifgjaadoor", sum := "a345d337de7dde9b6ec620e779709ec25bc2862bb55789af2c3e5dbcb6e4d9e6", func := "mummer/mummerlaw12.PatternLiteral", spec := "patternLiteral", inPlace := ["internal/bytealg.IndexByteString", "internal/bytealg.IndexString"], unfollowed := true, recurses := true, named := ["mummer/runes.marks", "mummer/runes.members", "unicode/utf8.first", "unicode/utf8.acceptRanges", "internal/bytealg.MaxLen"], plainKeys := false, apart := false, laid := [("unicode/utf8.acceptRanges", laid_unicode_utf8_acceptRanges), ("mummer/runes.members", laid_mummer_runes_members), ("mummer/runes.marks", laid_mummer_runes_marks), ("unicode/utf8.first", laid_unicode_utf8_first)], narrowed := true }
def PatternLiteralUptoSaid : Prop := patternLiteralUptoRow.holds Tryd.pinned (OpenSpec.upto patternLiteralSpec)

/-- 'mummerlaw12.PatternKnown', WHERE WHAT IT READS IS OF BULK AT MOST 1048576: true; the input reads as it did. -/
def patternKnownUptoRow : OpenClaim := { program := "ytdiinlmeoifgjaadoor", sum := "a345d337de7dde9b6ec620e779709ec25bc2862bb55789af2c3e5dbcb6e4d9e6", func := "mummer/mummerlaw12.PatternKnown", spec := "patternKnown", inPlace := ["internal/bytealg.IndexByteString", "internal/bytealg.IndexString"], unfollowed := true, recurses := true, named := ["mummer/runes.marks", "mummer/runes.members", "unicode/utf8.first", "unicode/utf8.acceptRanges", "internal/bytealg.MaxLen"], plainKeys := false, apart := false, laid := [("unicode/utf8.acceptRanges", laid_unicode_utf8_acceptRanges), ("mummer/runes.members", laid_mummer_runes_members), ("mummer/runes.marks", laid_mummer_runes_marks), ("unicode/utf8.first", laid_unicode_utf8_first)], narrowed := true }
def PatternKnownUptoSaid : Prop := patternKnownUptoRow.holds Tryd.pinned (OpenSpec.upto patternKnownSpec)

end Rows
end Go.Proofs.YtdiinlmeoifgjaaDoor
