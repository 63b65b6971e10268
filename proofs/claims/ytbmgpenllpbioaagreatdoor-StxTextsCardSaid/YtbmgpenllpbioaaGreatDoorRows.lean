/-
  NARROWER THAN 'FOR EVERY INPUT', by the rows' own cells (each row's printed sentence says how): StxChecks: laid · StxParts: laid · StxData: laid · StxScopes: laid · StxTexts: laid · StxAlone: laid · StxPuts: laid.
  DERIVED. THE GIVEN ROWS OF THIS SEAT. 7 by the template 'for every input the law returns true; each argument reads behind the call as it read before'; 0 by the template 'total and deterministic' (their statements: YtbmgpenllpbioaaGreatDoorTotals.lean).
  GIVEN WITH THE SEED: the statements are not yours to turn. If you find one false, say at which input.
  Laid BY PROGRAM, IN A SANDBOX (cutbox-rows.mjs): the forced cells as the released guide's own fill.sh prints them over the translation b9a9339c5800ab34… (all of the seat's roots in one cut). By AI agents, Wed Nov 11 2026. No macro, syntax, notation, axiom, sorry.
-/
import Derived.Test.YtbmgpenllpbioaaGreatDoorChecked
import GoSem.PinnedTables
import GoSem.Claim
import GoSem.ClaimJoined
import GoSem.ClaimMapViews
import Derived.JoinedTies
import Derived.KernelRfl
namespace Go.Proofs.YtbmgpenllpbioaaGreatDoor
/- THE CELL 'sum', in the pinned program and in every row, IS THE sha256 OF THE DUMP (.gsa) THAT YtbmgpenllpbioaaGreatDoorProg.lean LOADS. Nothing in Lean hashes anything: it is a label: what it is worth is what the hold of that sum in a sandbox is worth. -/
noncomputable def Tryz.pinned : Pinned := { name := "ytbmgpenllpbioaagreatdoor", sum := "b9a9339c5800ab3492bdff6edb7f40643963219c507e1330874c97ed1931c0d4", checked := Tryz.checked }
namespace Rows
def none {H : Type} : Left H := { results := [], args := [] }

/- WHAT THE LISTED PACKAGE-LEVEL VARIABLES READ AS WHEN THE CALL BEGINS. Each datum BY PROGRAM (the guide's laid-datum.mjs) off the statement by which the dump's own 'gosem.cut.vars' lays the variable. In a bare row this is a premise. The card (YtbmgpenllpbioaaGreatDoorCards.lean) ties it to the program's text. -/
def laid_math_bits_deBruijn32tab {H : Type} : DataW H := .agg [.lit (.int .u8 0), .lit (.int .u8 1), .lit (.int .u8 28), .lit (.int .u8 2), .lit (.int .u8 29), .lit (.int .u8 14), .lit (.int .u8 24), .lit (.int .u8 3), .lit (.int .u8 30), .lit (.int .u8 22), .lit (.int .u8 20), .lit (.int .u8 15), .lit (.int .u8 25), .lit (.int .u8 17), .lit (.int .u8 4), .lit (.int .u8 8), .lit (.int .u8 31), .lit (.int .u8 27), .lit (.int .u8 13), .lit (.int .u8 23), .lit (.int .u8 21), .lit (.int .u8 19), .lit (.int .u8 16), .lit (.int .u8 7), .lit (.int .u8 26), .lit (.int .u8 12), .lit (.int .u8 18), .lit (.int .u8 6), .lit (.int .u8 11), .lit (.int .u8 5), .lit (.int .u8 10), .lit (.int .u8 9)]
def laid_math_bits_deBruijn64tab {H : Type} : DataW H := .agg [.lit (.int .u8 0), .lit (.int .u8 1), .lit (.int .u8 56), .lit (.int .u8 2), .lit (.int .u8 57), .lit (.int .u8 49), .lit (.int .u8 28), .lit (.int .u8 3), .lit (.int .u8 61), .lit (.int .u8 58), .lit (.int .u8 42), .lit (.int .u8 50), .lit (.int .u8 38), .lit (.int .u8 29), .lit (.int .u8 17), .lit (.int .u8 4), .lit (.int .u8 62), .lit (.int .u8 47), .lit (.int .u8 59), .lit (.int .u8 36), .lit (.int .u8 45), .lit (.int .u8 43), .lit (.int .u8 51), .lit (.int .u8 22), .lit (.int .u8 53), .lit (.int .u8 39), .lit (.int .u8 33), .lit (.int .u8 30), .lit (.int .u8 24), .lit (.int .u8 18), .lit (.int .u8 12), .lit (.int .u8 5), .lit (.int .u8 63), .lit (.int .u8 55), .lit (.int .u8 48), .lit (.int .u8 27), .lit (.int .u8 60), .lit (.int .u8 41), .lit (.int .u8 37), .lit (.int .u8 16), .lit (.int .u8 46), .lit (.int .u8 35), .lit (.int .u8 44), .lit (.int .u8 21), .lit (.int .u8 52), .lit (.int .u8 32), .lit (.int .u8 23), .lit (.int .u8 11), .lit (.int .u8 54), .lit (.int .u8 26), .lit (.int .u8 40), .lit (.int .u8 15), .lit (.int .u8 34), .lit (.int .u8 20), .lit (.int .u8 31), .lit (.int .u8 10), .lit (.int .u8 25), .lit (.int .u8 14), .lit (.int .u8 19), .lit (.int .u8 9), .lit (.int .u8 13), .lit (.int .u8 8), .lit (.int .u8 7), .lit (.int .u8 6)]
def laid_internal_strconv_uint64pow10 {H : Type} : DataW H := .agg [.lit (.int .u64 1), .lit (.int .u64 10), .lit (.int .u64 100), .lit (.int .u64 1000), .lit (.int .u64 10000), .lit (.int .u64 100000), .lit (.int .u64 1000000), .lit (.int .u64 10000000), .lit (.int .u64 100000000), .lit (.int .u64 1000000000), .lit (.int .u64 10000000000), .lit (.int .u64 100000000000), .lit (.int .u64 1000000000000), .lit (.int .u64 10000000000000), .lit (.int .u64 100000000000000), .lit (.int .u64 1000000000000000), .lit (.int .u64 10000000000000000), .lit (.int .u64 100000000000000000), .lit (.int .u64 1000000000000000000), .lit (.int .u64 10000000000000000000)]
def laid_unicode_utf8_acceptRanges {H : Type} : DataW H := .agg [.agg [.lit (.int .u8 128), .lit (.int .u8 191)], .agg [.lit (.int .u8 160), .lit (.int .u8 191)], .agg [.lit (.int .u8 128), .lit (.int .u8 159)], .agg [.lit (.int .u8 144), .lit (.int .u8 191)], .agg [.lit (.int .u8 128), .lit (.int .u8 143)], .agg [.lit (.int .u8 0), .lit (.int .u8 0)], .agg [.lit (.int .u8 0), .lit (.int .u8 0)], .agg [.lit (.int .u8 0), .lit (.int .u8 0)], .agg [.lit (.int .u8 0), .lit (.int .u8 0)], .agg [.lit (.int .u8 0), .lit (.int .u8 0)], .agg [.lit (.int .u8 0), .lit (.int .u8 0)], .agg [.lit (.int .u8 0), .lit (.int .u8 0)], .agg [.lit (.int .u8 0), .lit (.int .u8 0)], .agg [.lit (.int .u8 0), .lit (.int .u8 0)], .agg [.lit (.int .u8 0), .lit (.int .u8 0)], .agg [.lit (.int .u8 0), .lit (.int .u8 0)]]
def laid_mummer_runes_members {H : Type} : DataW H := .agg [.lit (.string []), .lit (.string [9, 10, 13, 32]), .lit (.string [40, 91]), .lit (.string [41, 93]), .lit (.string [39]), .lit (.string [35]), .lit (.string [59]), .lit (.string [48, 49, 50, 51, 52, 53, 54, 55, 56, 57]), .lit (.string [43, 45]), .lit (.string [97, 98, 99, 100, 101, 102, 103, 104, 105, 106, 107, 108, 109, 110, 111, 112, 113, 114, 115, 116, 117, 118, 119, 120, 121, 122, 65, 66, 67, 68, 69, 70, 71, 72, 73, 74, 75, 76, 77, 78, 79, 80, 81, 82, 83, 84, 85, 86, 87, 88, 89, 90, 33, 36, 37, 38, 42, 47, 58, 60, 61, 62, 63, 94, 95, 126, 46, 64])]
def laid_mummer_runes_marks {H : Type} : DataW H := .agg [.lit (.int .i32 0), .lit (.int .i32 0), .lit (.int .i32 192), .lit (.int .i32 224), .lit (.int .i32 240)]
/-- One of Go's own tables, pinned by name: the form's constant. -/
def laid_unicode_utf8_first : DataW Unit := Go.Pinned.utf8First

/-- 'mummerlaw10.StxChecks': WHATEVER THE INPUT: true; the input reads as it did. -/
def stxChecksSpec : ChangeSpec := { name := "stxChecks", fn := fun _ => fun
  | [d] => { results := [.lit (.bool true)], args := [d] }
  | _ => none }
def stxChecksRow : OpenClaim := { program := "ytbmgpenllpbioaagreatdoor", sum := "b9a9339c5800ab3492bdff6edb7f40643963219c507e1330874c97ed1931c0d4", func := "mummer/mummerlaw10.StxChecks", spec := "stxChecks", inPlace := ["internal/bytealg.IndexByteString", "internal/bytealg.IndexString", "internal/abi.NoEscape", "internal/bytealg.MakeNoZero"], unfollowed := true, recurses := true, named := ["mummer/runes.marks", "mummer/runes.members", "unicode/utf8.first", "unicode/utf8.acceptRanges", "internal/strconv.uint64pow10", "math/bits.deBruijn32tab", "math/bits.deBruijn64tab", "internal/bytealg.MaxLen"], apart := false, laid := [("math/bits.deBruijn32tab", laid_math_bits_deBruijn32tab), ("math/bits.deBruijn64tab", laid_math_bits_deBruijn64tab), ("internal/strconv.uint64pow10", laid_internal_strconv_uint64pow10), ("unicode/utf8.acceptRanges", laid_unicode_utf8_acceptRanges), ("mummer/runes.members", laid_mummer_runes_members), ("mummer/runes.marks", laid_mummer_runes_marks), ("unicode/utf8.first", laid_unicode_utf8_first)] }
def StxChecksSaid : Prop := stxChecksRow.holds Tryz.pinned (OpenSpec.ofChange stxChecksSpec)

/-- ITS FALSE NEIGHBOUR: 'it returns false'. Refute it at one input. -/
def stxChecksWrong : ChangeSpec := { name := "stxChecks", fn := fun _ => fun
  | [d] => { results := [.lit (.bool false)], args := [d] }
  | _ => none }
def StxChecksWrongFalsely : Prop := stxChecksRow.holds Tryz.pinned (OpenSpec.ofChange stxChecksWrong)

/-- 'mummerlaw10.StxParts': WHATEVER THE INPUT: true; the input reads as it did. -/
def stxPartsSpec : ChangeSpec := { name := "stxParts", fn := fun _ => fun
  | [d1, d2, d3] => { results := [.lit (.bool true)], args := [d1, d2, d3] }
  | _ => none }
def stxPartsRow : OpenClaim := { program := "ytbmgpenllpbioaagreatdoor", sum := "b9a9339c5800ab3492bdff6edb7f40643963219c507e1330874c97ed1931c0d4", func := "mummer/mummerlaw10.StxParts", spec := "stxParts", inPlace := ["internal/bytealg.IndexByteString", "internal/bytealg.IndexString", "internal/abi.NoEscape", "internal/bytealg.MakeNoZero"], unfollowed := true, recurses := true, named := ["mummer/runes.marks", "mummer/runes.members", "unicode/utf8.first", "unicode/utf8.acceptRanges", "internal/strconv.uint64pow10", "math/bits.deBruijn32tab", "math/bits.deBruijn64tab", "internal/bytealg.MaxLen"], apart := false, laid := [("math/bits.deBruijn32tab", laid_math_bits_deBruijn32tab), ("math/bits.deBruijn64tab", laid_math_bits_deBruijn64tab), ("internal/strconv.uint64pow10", laid_internal_strconv_uint64pow10), ("unicode/utf8.acceptRanges", laid_unicode_utf8_acceptRanges), ("mummer/runes.members", laid_mummer_runes_members), ("mummer/runes.marks", laid_mummer_runes_marks), ("unicode/utf8.first", laid_unicode_utf8_first)] }
def StxPartsSaid : Prop := stxPartsRow.holds Tryz.pinned (OpenSpec.ofChange stxPartsSpec)

/-- ITS FALSE NEIGHBOUR: 'it returns false'. Refute it at one input. -/
def stxPartsWrong : ChangeSpec := { name := "stxParts", fn := fun _ => fun
  | [d1, d2, d3] => { results := [.lit (.bool false)], args := [d1, d2, d3] }
  | _ => none }
def StxPartsWrongFalsely : Prop := stxPartsRow.holds Tryz.pinned (OpenSpec.ofChange stxPartsWrong)

/-- 'mummerlaw10.StxData': WHATEVER THE INPUT: true; the input reads as it did. -/
def stxDataSpec : ChangeSpec := { name := "stxData", fn := fun _ => fun
  | [d1, d2] => { results := [.lit (.bool true)], args := [d1, d2] }
  | _ => none }
def stxDataRow : OpenClaim := { program := "ytbmgpenllpbioaagreatdoor", sum := "b9a9339c5800ab3492bdff6edb7f40643963219c507e1330874c97ed1931c0d4", func := "mummer/mummerlaw10.StxData", spec := "stxData", inPlace := ["internal/bytealg.IndexByteString", "internal/bytealg.IndexString", "internal/abi.NoEscape", "internal/bytealg.MakeNoZero"], unfollowed := true, recurses := true, named := ["mummer/runes.marks", "mummer/runes.members", "unicode/utf8.first", "unicode/utf8.acceptRanges", "internal/strconv.uint64pow10", "math/bits.deBruijn32tab", "math/bits.deBruijn64tab", "internal/bytealg.MaxLen"], apart := false, laid := [("math/bits.deBruijn32tab", laid_math_bits_deBruijn32tab), ("math/bits.deBruijn64tab", laid_math_bits_deBruijn64tab), ("internal/strconv.uint64pow10", laid_internal_strconv_uint64pow10), ("unicode/utf8.acceptRanges", laid_unicode_utf8_acceptRanges), ("mummer/runes.members", laid_mummer_runes_members), ("mummer/runes.marks", laid_mummer_runes_marks), ("unicode/utf8.first", laid_unicode_utf8_first)] }
def StxDataSaid : Prop := stxDataRow.holds Tryz.pinned (OpenSpec.ofChange stxDataSpec)

/-- ITS FALSE NEIGHBOUR: 'it returns false'. Refute it at one input. -/
def stxDataWrong : ChangeSpec := { name := "stxData", fn := fun _ => fun
  | [d1, d2] => { results := [.lit (.bool false)], args := [d1, d2] }
  | _ => none }
def StxDataWrongFalsely : Prop := stxDataRow.holds Tryz.pinned (OpenSpec.ofChange stxDataWrong)

/-- 'mummerlaw10.StxScopes': WHATEVER THE INPUT: true; the input reads as it did. -/
def stxScopesSpec : ChangeSpec := { name := "stxScopes", fn := fun _ => fun
  | [d1, d2] => { results := [.lit (.bool true)], args := [d1, d2] }
  | _ => none }
def stxScopesRow : OpenClaim := { program := "ytbmgpenllpbioaagreatdoor", sum := "b9a9339c5800ab3492bdff6edb7f40643963219c507e1330874c97ed1931c0d4", func := "mummer/mummerlaw10.StxScopes", spec := "stxScopes", inPlace := ["internal/bytealg.IndexByteString", "internal/bytealg.IndexString", "internal/abi.NoEscape", "internal/bytealg.MakeNoZero"], unfollowed := true, recurses := true, named := ["mummer/runes.marks", "mummer/runes.members", "unicode/utf8.first", "unicode/utf8.acceptRanges", "internal/strconv.uint64pow10", "math/bits.deBruijn32tab", "math/bits.deBruijn64tab", "internal/bytealg.MaxLen"], apart := false, laid := [("math/bits.deBruijn32tab", laid_math_bits_deBruijn32tab), ("math/bits.deBruijn64tab", laid_math_bits_deBruijn64tab), ("internal/strconv.uint64pow10", laid_internal_strconv_uint64pow10), ("unicode/utf8.acceptRanges", laid_unicode_utf8_acceptRanges), ("mummer/runes.members", laid_mummer_runes_members), ("mummer/runes.marks", laid_mummer_runes_marks), ("unicode/utf8.first", laid_unicode_utf8_first)] }
def StxScopesSaid : Prop := stxScopesRow.holds Tryz.pinned (OpenSpec.ofChange stxScopesSpec)

/-- ITS FALSE NEIGHBOUR: 'it returns false'. Refute it at one input. -/
def stxScopesWrong : ChangeSpec := { name := "stxScopes", fn := fun _ => fun
  | [d1, d2] => { results := [.lit (.bool false)], args := [d1, d2] }
  | _ => none }
def StxScopesWrongFalsely : Prop := stxScopesRow.holds Tryz.pinned (OpenSpec.ofChange stxScopesWrong)

/-- 'mummerlaw10.StxTexts': WHATEVER THE INPUT: true; the input reads as it did. -/
def stxTextsSpec : ChangeSpec := { name := "stxTexts", fn := fun _ => fun
  | [d1, d2] => { results := [.lit (.bool true)], args := [d1, d2] }
  | _ => none }
def stxTextsRow : OpenClaim := { program := "ytbmgpenllpbioaagreatdoor", sum := "b9a9339c5800ab3492bdff6edb7f40643963219c507e1330874c97ed1931c0d4", func := "mummer/mummerlaw10.StxTexts", spec := "stxTexts", inPlace := ["internal/bytealg.IndexByteString", "internal/bytealg.IndexString", "internal/abi.NoEscape", "internal/bytealg.MakeNoZero"], unfollowed := true, recurses := true, named := ["mummer/runes.marks", "mummer/runes.members", "unicode/utf8.first", "unicode/utf8.acceptRanges", "internal/strconv.uint64pow10", "math/bits.deBruijn32tab", "math/bits.deBruijn64tab", "internal/bytealg.MaxLen"], apart := false, laid := [("math/bits.deBruijn32tab", laid_math_bits_deBruijn32tab), ("math/bits.deBruijn64tab", laid_math_bits_deBruijn64tab), ("internal/strconv.uint64pow10", laid_internal_strconv_uint64pow10), ("unicode/utf8.acceptRanges", laid_unicode_utf8_acceptRanges), ("mummer/runes.members", laid_mummer_runes_members), ("mummer/runes.marks", laid_mummer_runes_marks), ("unicode/utf8.first", laid_unicode_utf8_first)] }
def StxTextsSaid : Prop := stxTextsRow.holds Tryz.pinned (OpenSpec.ofChange stxTextsSpec)

/-- ITS FALSE NEIGHBOUR: 'it returns false'. Refute it at one input. -/
def stxTextsWrong : ChangeSpec := { name := "stxTexts", fn := fun _ => fun
  | [d1, d2] => { results := [.lit (.bool false)], args := [d1, d2] }
  | _ => none }
def StxTextsWrongFalsely : Prop := stxTextsRow.holds Tryz.pinned (OpenSpec.ofChange stxTextsWrong)

/-- 'mummerlaw10.StxAlone': WHATEVER THE INPUT: true; the input reads as it did. -/
def stxAloneSpec : ChangeSpec := { name := "stxAlone", fn := fun _ => fun
  | [d1, d2, d3] => { results := [.lit (.bool true)], args := [d1, d2, d3] }
  | _ => none }
def stxAloneRow : OpenClaim := { program := "ytbmgpenllpbioaagreatdoor", sum := "b9a9339c5800ab3492bdff6edb7f40643963219c507e1330874c97ed1931c0d4", func := "mummer/mummerlaw10.StxAlone", spec := "stxAlone", inPlace := ["internal/bytealg.IndexByteString", "internal/bytealg.IndexString", "internal/abi.NoEscape", "internal/bytealg.MakeNoZero"], unfollowed := true, recurses := true, named := ["mummer/runes.marks", "mummer/runes.members", "unicode/utf8.first", "unicode/utf8.acceptRanges", "internal/strconv.uint64pow10", "math/bits.deBruijn32tab", "math/bits.deBruijn64tab", "internal/bytealg.MaxLen"], apart := false, laid := [("math/bits.deBruijn32tab", laid_math_bits_deBruijn32tab), ("math/bits.deBruijn64tab", laid_math_bits_deBruijn64tab), ("internal/strconv.uint64pow10", laid_internal_strconv_uint64pow10), ("unicode/utf8.acceptRanges", laid_unicode_utf8_acceptRanges), ("mummer/runes.members", laid_mummer_runes_members), ("mummer/runes.marks", laid_mummer_runes_marks), ("unicode/utf8.first", laid_unicode_utf8_first)] }
def StxAloneSaid : Prop := stxAloneRow.holds Tryz.pinned (OpenSpec.ofChange stxAloneSpec)

/-- ITS FALSE NEIGHBOUR: 'it returns false'. Refute it at one input. -/
def stxAloneWrong : ChangeSpec := { name := "stxAlone", fn := fun _ => fun
  | [d1, d2, d3] => { results := [.lit (.bool false)], args := [d1, d2, d3] }
  | _ => none }
def StxAloneWrongFalsely : Prop := stxAloneRow.holds Tryz.pinned (OpenSpec.ofChange stxAloneWrong)

/-- 'mummerlaw10.StxPuts': WHATEVER THE INPUT: true; the input reads as it did. -/
def stxPutsSpec : ChangeSpec := { name := "stxPuts", fn := fun _ => fun
  | [d1, d2, d3] => { results := [.lit (.bool true)], args := [d1, d2, d3] }
  | _ => none }
def stxPutsRow : OpenClaim := { program := "ytbmgpenllpbioaagreatdoor", sum := "b9a9339c5800ab3492bdff6edb7f40643963219c507e1330874c97ed1931c0d4", func := "mummer/mummerlaw10.StxPuts", spec := "stxPuts", inPlace := ["internal/bytealg.IndexByteString", "internal/bytealg.IndexString", "internal/abi.NoEscape", "internal/bytealg.MakeNoZero"], unfollowed := true, recurses := true, named := ["mummer/runes.marks", "mummer/runes.members", "unicode/utf8.first", "unicode/utf8.acceptRanges", "internal/strconv.uint64pow10", "math/bits.deBruijn32tab", "math/bits.deBruijn64tab", "internal/bytealg.MaxLen"], apart := false, laid := [("math/bits.deBruijn32tab", laid_math_bits_deBruijn32tab), ("math/bits.deBruijn64tab", laid_math_bits_deBruijn64tab), ("internal/strconv.uint64pow10", laid_internal_strconv_uint64pow10), ("unicode/utf8.acceptRanges", laid_unicode_utf8_acceptRanges), ("mummer/runes.members", laid_mummer_runes_members), ("mummer/runes.marks", laid_mummer_runes_marks), ("unicode/utf8.first", laid_unicode_utf8_first)] }
def StxPutsSaid : Prop := stxPutsRow.holds Tryz.pinned (OpenSpec.ofChange stxPutsSpec)

/-- ITS FALSE NEIGHBOUR: 'it returns false'. Refute it at one input. -/
def stxPutsWrong : ChangeSpec := { name := "stxPuts", fn := fun _ => fun
  | [d1, d2, d3] => { results := [.lit (.bool false)], args := [d1, d2, d3] }
  | _ => none }
def StxPutsWrongFalsely : Prop := stxPutsRow.holds Tryz.pinned (OpenSpec.ofChange stxPutsWrong)

/- THE SECOND FORM. 'bulk': how many values and letters a reading holds, each counted each time it is reached (what is shared counts as often as it is met; a slice's spare places count too). A statement '..UptoSaid' is the law's where the arguments, and the package variables that the reading takes, are together of bulk at most 1048576: NARROWER than '..Said'. Prove '..Said' where nothing that the law and all that it calls make is longer than what came in: it says more and counts as full. Else prove '..UptoSaid'. A law counts once. -/
mutual
def uptoBulk {H : Type} : DataW H → Nat
  | .lit (.string bytes) => bytes.length + 1
  | .lit _ => 1
  | .nil => 1
  | .ptr d => uptoBulk d + 1
  | .slice elems spare => uptoBulkAll elems + uptoBulkAll spare + 1
  | .agg parts => uptoBulkAll parts + 1
  | .iface _ d => uptoBulk d + 1
  | .map entries => uptoBulkEntries entries + 1
  | .held _ => 1
def uptoBulkAll {H : Type} : List (DataW H) → Nat
  | [] => 0
  | d :: r => uptoBulk d + uptoBulkAll r
def uptoBulkEntries {H : Type} : List (Lit × DataW H) → Nat
  | [] => 0
  | x :: r => uptoBulkEntry x + uptoBulkEntries r
def uptoBulkEntry {H : Type} : Lit × DataW H → Nat
  | (.string bytes, d) => bytes.length + uptoBulk d + 1
  | (_, d) => uptoBulk d + 1
 end
def uptoSmall : (H : Type) → List (DataW H) → Bool := fun _ ds => decide (uptoBulkAll ds ≤ 1048576)
def OpenSpec.upto (s : _root_.Go.ChangeSpec) : _root_.Go.OpenSpec := { _root_.Go.OpenSpec.ofChange s with cond := some uptoSmall }

/-- 'mummerlaw10.StxChecks', WHERE WHAT IT READS IS OF BULK AT MOST 1048576: true; the input reads as it did. -/
def stxChecksUptoRow : OpenClaim := { program := "ytbmgpenllpbioaagreatdoor", sum := "b9a9339c5800ab3492bdff6edb7f40643963219c507e1330874c97ed1931c0d4", func := "mummer/mummerlaw10.StxChecks", spec := "stxChecks", inPlace := ["internal/bytealg.IndexByteString", "internal/bytealg.IndexString", "internal/abi.NoEscape", "internal/bytealg.MakeNoZero"], unfollowed := true, recurses := true, named := ["mummer/runes.marks", "mummer/runes.members", "unicode/utf8.first", "unicode/utf8.acceptRanges", "internal/strconv.uint64pow10", "math/bits.deBruijn32tab", "math/bits.deBruijn64tab", "internal/bytealg.MaxLen"], apart := false, laid := [("math/bits.deBruijn32tab", laid_math_bits_deBruijn32tab), ("math/bits.deBruijn64tab", laid_math_bits_deBruijn64tab), ("internal/strconv.uint64pow10", laid_internal_strconv_uint64pow10), ("unicode/utf8.acceptRanges", laid_unicode_utf8_acceptRanges), ("mummer/runes.members", laid_mummer_runes_members), ("mummer/runes.marks", laid_mummer_runes_marks), ("unicode/utf8.first", laid_unicode_utf8_first)], narrowed := true }
def StxChecksUptoSaid : Prop := stxChecksUptoRow.holds Tryz.pinned (OpenSpec.upto stxChecksSpec)

/-- 'mummerlaw10.StxParts', WHERE WHAT IT READS IS OF BULK AT MOST 1048576: true; the input reads as it did. -/
def stxPartsUptoRow : OpenClaim := { program := "ytbmgpenllpbioaagreatdoor", sum := "b9a9339c5800ab3492bdff6edb7f40643963219c507e1330874c97ed1931c0d4", func := "mummer/mummerlaw10.StxParts", spec := "stxParts", inPlace := ["internal/bytealg.IndexByteString", "internal/bytealg.IndexString", "internal/abi.NoEscape", "internal/bytealg.MakeNoZero"], unfollowed := true, recurses := true, named := ["mummer/runes.marks", "mummer/runes.members", "unicode/utf8.first", "unicode/utf8.acceptRanges", "internal/strconv.uint64pow10", "math/bits.deBruijn32tab", "math/bits.deBruijn64tab", "internal/bytealg.MaxLen"], apart := false, laid := [("math/bits.deBruijn32tab", laid_math_bits_deBruijn32tab), ("math/bits.deBruijn64tab", laid_math_bits_deBruijn64tab), ("internal/strconv.uint64pow10", laid_internal_strconv_uint64pow10), ("unicode/utf8.acceptRanges", laid_unicode_utf8_acceptRanges), ("mummer/runes.members", laid_mummer_runes_members), ("mummer/runes.marks", laid_mummer_runes_marks), ("unicode/utf8.first", laid_unicode_utf8_first)], narrowed := true }
def StxPartsUptoSaid : Prop := stxPartsUptoRow.holds Tryz.pinned (OpenSpec.upto stxPartsSpec)

/-- 'mummerlaw10.StxData', WHERE WHAT IT READS IS OF BULK AT MOST 1048576: true; the input reads as it did. -/
def stxDataUptoRow : OpenClaim := { program := "ytbmgpenllpbioaagreatdoor", sum := "b9a9339c5800ab3492bdff6edb7f40643963219c507e1330874c97ed1931c0d4", func := "mummer/mummerlaw10.StxData", spec := "stxData", inPlace := ["internal/bytealg.IndexByteString", "internal/bytealg.IndexString", "internal/abi.NoEscape", "internal/bytealg.MakeNoZero"], unfollowed := true, recurses := true, named := ["mummer/runes.marks", "mummer/runes.members", "unicode/utf8.first", "unicode/utf8.acceptRanges", "internal/strconv.uint64pow10", "math/bits.deBruijn32tab", "math/bits.deBruijn64tab", "internal/bytealg.MaxLen"], apart := false, laid := [("math/bits.deBruijn32tab", laid_math_bits_deBruijn32tab), ("math/bits.deBruijn64tab", laid_math_bits_deBruijn64tab), ("internal/strconv.uint64pow10", laid_internal_strconv_uint64pow10), ("unicode/utf8.acceptRanges", laid_unicode_utf8_acceptRanges), ("mummer/runes.members", laid_mummer_runes_members), ("mummer/runes.marks", laid_mummer_runes_marks), ("unicode/utf8.first", laid_unicode_utf8_first)], narrowed := true }
def StxDataUptoSaid : Prop := stxDataUptoRow.holds Tryz.pinned (OpenSpec.upto stxDataSpec)

/-- 'mummerlaw10.StxScopes', WHERE WHAT IT READS IS OF BULK AT MOST 1048576: true; the input reads as it did. -/
def stxScopesUptoRow : OpenClaim := { program := "ytbmgpenllpbioaagreatdoor", sum := "b9a9339c5800ab3492bdff6edb7f40643963219c507e1330874c97ed1931c0d4", func := "mummer/mummerlaw10.StxScopes", spec := "stxScopes", inPlace := ["internal/bytealg.IndexByteString", "internal/bytealg.IndexString", "internal/abi.NoEscape", "internal/bytealg.MakeNoZero"], unfollowed := true, recurses := true, named := ["mummer/runes.marks", "mummer/runes.members", "unicode/utf8.first", "unicode/utf8.acceptRanges", "internal/strconv.uint64pow10", "math/bits.deBruijn32tab", "math/bits.deBruijn64tab", "internal/bytealg.MaxLen"], apart := false, laid := [("math/bits.deBruijn32tab", laid_math_bits_deBruijn32tab), ("math/bits.deBruijn64tab", laid_math_bits_deBruijn64tab), ("internal/strconv.uint64pow10", laid_internal_strconv_uint64pow10), ("unicode/utf8.acceptRanges", laid_unicode_utf8_acceptRanges), ("mummer/runes.members", laid_mummer_runes_members), ("mummer/runes.marks", laid_mummer_runes_marks), ("unicode/utf8.first", laid_unicode_utf8_first)], narrowed := true }
def StxScopesUptoSaid : Prop := stxScopesUptoRow.holds Tryz.pinned (OpenSpec.upto stxScopesSpec)

/-- 'mummerlaw10.StxTexts', WHERE WHAT IT READS IS OF BULK AT MOST 1048576: true; the input reads as it did. -/
def stxTextsUptoRow : OpenClaim := { program := "ytbmgpenllpbioaagreatdoor", sum := "b9a9339c5800ab3492bdff6edb7f40643963219c507e1330874c97ed1931c0d4", func := "mummer/mummerlaw10.StxTexts", spec := "stxTexts", inPlace := ["internal/bytealg.IndexByteString", "internal/bytealg.IndexString", "internal/abi.NoEscape", "internal/bytealg.MakeNoZero"], unfollowed := true, recurses := true, named := ["mummer/runes.marks", "mummer/runes.members", "unicode/utf8.first", "unicode/utf8.acceptRanges", "internal/strconv.uint64pow10", "math/bits.deBruijn32tab", "math/bits.deBruijn64tab", "internal/bytealg.MaxLen"], apart := false, laid := [("math/bits.deBruijn32tab", laid_math_bits_deBruijn32tab), ("math/bits.deBruijn64tab", laid_math_bits_deBruijn64tab), ("internal/strconv.uint64pow10", laid_internal_strconv_uint64pow10), ("unicode/utf8.acceptRanges", laid_unicode_utf8_acceptRanges), ("mummer/runes.members", laid_mummer_runes_members), ("mummer/runes.marks", laid_mummer_runes_marks), ("unicode/utf8.first", laid_unicode_utf8_first)], narrowed := true }
def StxTextsUptoSaid : Prop := stxTextsUptoRow.holds Tryz.pinned (OpenSpec.upto stxTextsSpec)

/-- 'mummerlaw10.StxAlone', WHERE WHAT IT READS IS OF BULK AT MOST 1048576: true; the input reads as it did. -/
def stxAloneUptoRow : OpenClaim := { program := "ytbmgpenllpbioaagreatdoor", sum := "b9a9339c5800ab3492bdff6edb7f40643963219c507e1330874c97ed1931c0d4", func := "mummer/mummerlaw10.StxAlone", spec := "stxAlone", inPlace := ["internal/bytealg.IndexByteString", "internal/bytealg.IndexString", "internal/abi.NoEscape", "internal/bytealg.MakeNoZero"], unfollowed := true, recurses := true, named := ["mummer/runes.marks", "mummer/runes.members", "unicode/utf8.first", "unicode/utf8.acceptRanges", "internal/strconv.uint64pow10", "math/bits.deBruijn32tab", "math/bits.deBruijn64tab", "internal/bytealg.MaxLen"], apart := false, laid := [("math/bits.deBruijn32tab", laid_math_bits_deBruijn32tab), ("math/bits.deBruijn64tab", laid_math_bits_deBruijn64tab), ("internal/strconv.uint64pow10", laid_internal_strconv_uint64pow10), ("unicode/utf8.acceptRanges", laid_unicode_utf8_acceptRanges), ("mummer/runes.members", laid_mummer_runes_members), ("mummer/runes.marks", laid_mummer_runes_marks), ("unicode/utf8.first", laid_unicode_utf8_first)], narrowed := true }
def StxAloneUptoSaid : Prop := stxAloneUptoRow.holds Tryz.pinned (OpenSpec.upto stxAloneSpec)

/-- 'mummerlaw10.StxPuts', WHERE WHAT IT READS IS OF BULK AT MOST 1048576: true; the input reads as it did. -/
def stxPutsUptoRow : OpenClaim := { program := "ytbmgpenllpbioaagreatdoor", sum := "b9a9339c5800ab3492bdff6edb7f40643963219c507e1330874c97ed1931c0d4", func := "mummer/mummerlaw10.StxPuts", spec := "stxPuts", inPlace := ["internal/bytealg.IndexByteString", "internal/bytealg.IndexString", "internal/abi.NoEscape", "internal/bytealg.MakeNoZero"], unfollowed := true, recurses := true, named := ["mummer/runes.marks", "mummer/runes.members", "unicode/utf8.first", "unicode/utf8.acceptRanges", "internal/strconv.uint64pow10", "math/bits.deBruijn32tab", "math/bits.deBruijn64tab", "internal/bytealg.MaxLen"], apart := false, laid := [("math/bits.deBruijn32tab", laid_math_bits_deBruijn32tab), ("math/bits.deBruijn64tab", laid_math_bits_deBruijn64tab), ("internal/strconv.uint64pow10", laid_internal_strconv_uint64pow10), ("unicode/utf8.acceptRanges", laid_unicode_utf8_acceptRanges), ("mummer/runes.members", laid_mummer_runes_members), ("mummer/runes.marks", laid_mummer_runes_marks), ("unicode/utf8.first", laid_unicode_utf8_first)], narrowed := true }
def StxPutsUptoSaid : Prop := stxPutsUptoRow.holds Tryz.pinned (OpenSpec.upto stxPutsSpec)

end Rows
end Go.Proofs.YtbmgpenllpbioaaGreatDoor
