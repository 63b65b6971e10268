/-
  NARROWER THAN 'FOR EVERY INPUT', by the rows' own cells (each row's printed sentence says how): RunesDecodes: laid · RunesTexts: laid · RunesStarts: laid · RunesBack: laid · RunesOrder: laid · RunesClasses: laid · RunesKnown: laid.
  DERIVED. THE GIVEN ROWS OF THIS SEAT. 7 by the template 'for every input the law returns true; each argument reads behind the call as it read before'; 0 by the template 'total and deterministic' (their statements: YtkpapggojiejdaaDoorTotals.lean).
  GIVEN WITH THE SEED: the statements are not yours to turn. If you find one false, say at which input.
  Laid BY PROGRAM, IN A SANDBOX (cutbox-rows.mjs): the forced cells as the released guide's own fill.sh prints them over the translation 8dd52f147bc3e41f… (all of the seat's roots in one cut). By AI agents, Wed Nov 11 2026. No macro, syntax, notation, axiom, sorry.
-/
import Derived.Test.YtkpapggojiejdaaDoorChecked
import GoSem.Claim
import GoSem.ClaimJoined
import GoSem.ClaimMapViews
import Derived.JoinedTies
import Derived.KernelRfl
namespace Go.Proofs.YtkpapggojiejdaaDoor
/- THE CELL 'sum', in the pinned program and in every row, IS THE sha256 OF THE DUMP (.gsa) THAT YtkpapggojiejdaaDoorProg.lean LOADS. Nothing in Lean hashes anything: it is a label: what it is worth is what the hold of that sum in a sandbox is worth. -/
noncomputable def Tryd.pinned : Pinned := { name := "ytkpapggojiejdaadoor", sum := "8dd52f147bc3e41f126d2cd5a7b528dba251edc0b858dbad661036083dc6a18b", checked := Tryd.checked }
namespace Rows
def none {H : Type} : Left H := { results := [], args := [] }

/- WHAT THE LISTED PACKAGE-LEVEL VARIABLES READ AS WHEN THE CALL BEGINS. Each datum BY PROGRAM (the guide's laid-datum.mjs) off the statement by which the dump's own 'gosem.cut.vars' lays the variable. In a bare row this is a premise. The card (YtkpapggojiejdaaDoorCards.lean) ties it to the program's text. -/
def laid_mummer_runes_members {H : Type} : DataW H := .agg [.lit (.string []), .lit (.string [9, 10, 13, 32]), .lit (.string [40, 91]), .lit (.string [41, 93]), .lit (.string [39]), .lit (.string [35]), .lit (.string [59]), .lit (.string [48, 49, 50, 51, 52, 53, 54, 55, 56, 57]), .lit (.string [43, 45]), .lit (.string [97, 98, 99, 100, 101, 102, 103, 104, 105, 106, 107, 108, 109, 110, 111, 112, 113, 114, 115, 116, 117, 118, 119, 120, 121, 122, 65, 66, 67, 68, 69, 70, 71, 72, 73, 74, 75, 76, 77, 78, 79, 80, 81, 82, 83, 84, 85, 86, 87, 88, 89, 90, 33, 36, 37, 38, 42, 47, 58, 60, 61, 62, 63, 94, 95, 126, 46, 64])]
def laid_mummer_runes_marks {H : Type} : DataW H := .agg [.lit (.int .i32 0), .lit (.int .i32 0), .lit (.int .i32 192), .lit (.int .i32 224), .lit (.int .i32 240)]

/-- 'mummerlaw02.RunesDecodes': WHATEVER THE INPUT: true; the input reads as it did. -/
def runesDecodesSpec : ChangeSpec := { name := "runesDecodes", fn := fun _ => fun
  | [d1, d2, d3] => { results := [.lit (.bool true)], args := [d1, d2, d3] }
  | _ => none }
def runesDecodesRow : OpenClaim := { program := "ytkpapggojiejdaadoor", sum := "8dd52f147bc3e41f126d2cd5a7b528dba251edc0b858dbad661036083dc6a18b", func := "mummer/mummerlaw02.RunesDecodes", spec := "runesDecodes", inPlace := ["internal/bytealg.IndexByteString"], unfollowed := true, recurses := true, named := ["mummer/runes.marks", "mummer/runes.members"], apart := false, laid := [("mummer/runes.members", laid_mummer_runes_members), ("mummer/runes.marks", laid_mummer_runes_marks)] }
def RunesDecodesSaid : Prop := runesDecodesRow.holds Tryd.pinned (OpenSpec.ofChange runesDecodesSpec)

/-- ITS FALSE NEIGHBOUR: 'it returns false'. Refute it at one input. -/
def runesDecodesWrong : ChangeSpec := { name := "runesDecodes", fn := fun _ => fun
  | [d1, d2, d3] => { results := [.lit (.bool false)], args := [d1, d2, d3] }
  | _ => none }
def RunesDecodesWrongFalsely : Prop := runesDecodesRow.holds Tryd.pinned (OpenSpec.ofChange runesDecodesWrong)

/-- 'mummerlaw02.RunesTexts': WHATEVER THE INPUT: true; the input reads as it did. -/
def runesTextsSpec : ChangeSpec := { name := "runesTexts", fn := fun _ => fun
  | [d1, d2] => { results := [.lit (.bool true)], args := [d1, d2] }
  | _ => none }
def runesTextsRow : OpenClaim := { program := "ytkpapggojiejdaadoor", sum := "8dd52f147bc3e41f126d2cd5a7b528dba251edc0b858dbad661036083dc6a18b", func := "mummer/mummerlaw02.RunesTexts", spec := "runesTexts", inPlace := ["internal/bytealg.IndexByteString"], unfollowed := true, recurses := true, named := ["mummer/runes.marks", "mummer/runes.members"], apart := false, laid := [("mummer/runes.members", laid_mummer_runes_members), ("mummer/runes.marks", laid_mummer_runes_marks)] }
def RunesTextsSaid : Prop := runesTextsRow.holds Tryd.pinned (OpenSpec.ofChange runesTextsSpec)

/-- ITS FALSE NEIGHBOUR: 'it returns false'. Refute it at one input. -/
def runesTextsWrong : ChangeSpec := { name := "runesTexts", fn := fun _ => fun
  | [d1, d2] => { results := [.lit (.bool false)], args := [d1, d2] }
  | _ => none }
def RunesTextsWrongFalsely : Prop := runesTextsRow.holds Tryd.pinned (OpenSpec.ofChange runesTextsWrong)

/-- 'mummerlaw02.RunesStarts': WHATEVER THE INPUT: true; the input reads as it did. -/
def runesStartsSpec : ChangeSpec := { name := "runesStarts", fn := fun _ => fun
  | [d1, d2] => { results := [.lit (.bool true)], args := [d1, d2] }
  | _ => none }
def runesStartsRow : OpenClaim := { program := "ytkpapggojiejdaadoor", sum := "8dd52f147bc3e41f126d2cd5a7b528dba251edc0b858dbad661036083dc6a18b", func := "mummer/mummerlaw02.RunesStarts", spec := "runesStarts", inPlace := ["internal/bytealg.IndexByteString"], unfollowed := true, recurses := true, named := ["mummer/runes.marks", "mummer/runes.members"], apart := false, laid := [("mummer/runes.members", laid_mummer_runes_members), ("mummer/runes.marks", laid_mummer_runes_marks)] }
def RunesStartsSaid : Prop := runesStartsRow.holds Tryd.pinned (OpenSpec.ofChange runesStartsSpec)

/-- ITS FALSE NEIGHBOUR: 'it returns false'. Refute it at one input. -/
def runesStartsWrong : ChangeSpec := { name := "runesStarts", fn := fun _ => fun
  | [d1, d2] => { results := [.lit (.bool false)], args := [d1, d2] }
  | _ => none }
def RunesStartsWrongFalsely : Prop := runesStartsRow.holds Tryd.pinned (OpenSpec.ofChange runesStartsWrong)

/-- 'mummerlaw02.RunesBack': WHATEVER THE INPUT: true; the input reads as it did. -/
def runesBackSpec : ChangeSpec := { name := "runesBack", fn := fun _ => fun
  | [d1, d2, d3] => { results := [.lit (.bool true)], args := [d1, d2, d3] }
  | _ => none }
def runesBackRow : OpenClaim := { program := "ytkpapggojiejdaadoor", sum := "8dd52f147bc3e41f126d2cd5a7b528dba251edc0b858dbad661036083dc6a18b", func := "mummer/mummerlaw02.RunesBack", spec := "runesBack", inPlace := ["internal/bytealg.IndexByteString"], unfollowed := true, recurses := true, named := ["mummer/runes.marks", "mummer/runes.members"], apart := false, laid := [("mummer/runes.members", laid_mummer_runes_members), ("mummer/runes.marks", laid_mummer_runes_marks)] }
def RunesBackSaid : Prop := runesBackRow.holds Tryd.pinned (OpenSpec.ofChange runesBackSpec)

/-- ITS FALSE NEIGHBOUR: 'it returns false'. Refute it at one input. -/
def runesBackWrong : ChangeSpec := { name := "runesBack", fn := fun _ => fun
  | [d1, d2, d3] => { results := [.lit (.bool false)], args := [d1, d2, d3] }
  | _ => none }
def RunesBackWrongFalsely : Prop := runesBackRow.holds Tryd.pinned (OpenSpec.ofChange runesBackWrong)

/-- 'mummerlaw02.RunesOrder': WHATEVER THE INPUT: true; the input reads as it did. -/
def runesOrderSpec : ChangeSpec := { name := "runesOrder", fn := fun _ => fun
  | [d1, d2, d3] => { results := [.lit (.bool true)], args := [d1, d2, d3] }
  | _ => none }
def runesOrderRow : OpenClaim := { program := "ytkpapggojiejdaadoor", sum := "8dd52f147bc3e41f126d2cd5a7b528dba251edc0b858dbad661036083dc6a18b", func := "mummer/mummerlaw02.RunesOrder", spec := "runesOrder", inPlace := ["internal/bytealg.IndexByteString"], unfollowed := true, recurses := true, named := ["mummer/runes.marks", "mummer/runes.members"], apart := false, laid := [("mummer/runes.members", laid_mummer_runes_members), ("mummer/runes.marks", laid_mummer_runes_marks)] }
def RunesOrderSaid : Prop := runesOrderRow.holds Tryd.pinned (OpenSpec.ofChange runesOrderSpec)

/-- ITS FALSE NEIGHBOUR: 'it returns false'. Refute it at one input. -/
def runesOrderWrong : ChangeSpec := { name := "runesOrder", fn := fun _ => fun
  | [d1, d2, d3] => { results := [.lit (.bool false)], args := [d1, d2, d3] }
  | _ => none }
def RunesOrderWrongFalsely : Prop := runesOrderRow.holds Tryd.pinned (OpenSpec.ofChange runesOrderWrong)

/-- 'mummerlaw02.RunesClasses': WHATEVER THE INPUT: true; the input reads as it did. -/
def runesClassesSpec : ChangeSpec := { name := "runesClasses", fn := fun _ => fun
  | [d] => { results := [.lit (.bool true)], args := [d] }
  | _ => none }
def runesClassesRow : OpenClaim := { program := "ytkpapggojiejdaadoor", sum := "8dd52f147bc3e41f126d2cd5a7b528dba251edc0b858dbad661036083dc6a18b", func := "mummer/mummerlaw02.RunesClasses", spec := "runesClasses", inPlace := ["internal/bytealg.IndexByteString"], unfollowed := true, recurses := true, named := ["mummer/runes.members", "mummer/runes.marks"], apart := false, laid := [("mummer/runes.members", laid_mummer_runes_members), ("mummer/runes.marks", laid_mummer_runes_marks)] }
def RunesClassesSaid : Prop := runesClassesRow.holds Tryd.pinned (OpenSpec.ofChange runesClassesSpec)

/-- ITS FALSE NEIGHBOUR: 'it returns false'. Refute it at one input. -/
def runesClassesWrong : ChangeSpec := { name := "runesClasses", fn := fun _ => fun
  | [d] => { results := [.lit (.bool false)], args := [d] }
  | _ => none }
def RunesClassesWrongFalsely : Prop := runesClassesRow.holds Tryd.pinned (OpenSpec.ofChange runesClassesWrong)

/-- 'mummerlaw02.RunesKnown': WHATEVER THE INPUT: true; the input reads as it did. -/
def runesKnownSpec : ChangeSpec := { name := "runesKnown", fn := fun _ => fun
  | [] => { results := [.lit (.bool true)], args := [] }
  | _ => none }
def runesKnownRow : OpenClaim := { program := "ytkpapggojiejdaadoor", sum := "8dd52f147bc3e41f126d2cd5a7b528dba251edc0b858dbad661036083dc6a18b", func := "mummer/mummerlaw02.RunesKnown", spec := "runesKnown", inPlace := ["internal/bytealg.IndexByteString"], unfollowed := true, recurses := true, named := ["mummer/runes.marks", "mummer/runes.members"], apart := false, laid := [("mummer/runes.members", laid_mummer_runes_members), ("mummer/runes.marks", laid_mummer_runes_marks)] }
def RunesKnownSaid : Prop := runesKnownRow.holds Tryd.pinned (OpenSpec.ofChange runesKnownSpec)

/-- ITS FALSE NEIGHBOUR: 'it returns false'. Refute it at one input. -/
def runesKnownWrong : ChangeSpec := { name := "runesKnown", fn := fun _ => fun
  | [] => { results := [.lit (.bool false)], args := [] }
  | _ => none }
def RunesKnownWrongFalsely : Prop := runesKnownRow.holds Tryd.pinned (OpenSpec.ofChange runesKnownWrong)

/- THE SECOND FORM. 'bulk': how many values and letters a reading holds, each counted each time it is reached (what is shared counts as often as it is met; a slice's spare places count too). A statement '..UptoSaid' is the law's where the arguments, and the package variables that the reading takes, are together of bulk at most 1048576: NARROWER than '..Said'. Prove '..Said' where nothing that the law and all that it calls make is longer than what came in: it says more and counts as full. Else prove '..UptoSaid'. A law counts once. -/
mutual
def uptoBulk {H : Type} : DataW H → Nat
  | .lit (.string bytes) => bytes.length + 1
  | .lit _ => 1
  | .nil => 1
  | .ptr d => uptoBulk d + 1
  | .slice elems spare => uptoBulkAll elems + uptoBulkAll spare + 1
  | .agg parts => uptoBulkAll parts + 1
  | .iface _ d => uptoBulk d + 1
  | .map entries => uptoBulkEntries entries + 1
  | .held _ => 1
def uptoBulkAll {H : Type} : List (DataW H) → Nat
  | [] => 0
  | d :: r => uptoBulk d + uptoBulkAll r
def uptoBulkEntries {H : Type} : List (Lit × DataW H) → Nat
  | [] => 0
  | x :: r => uptoBulkEntry x + uptoBulkEntries r
def uptoBulkEntry {H : Type} : Lit × DataW H → Nat
  | (.string bytes, d) => bytes.length + uptoBulk d + 1
  | (_, d) => uptoBulk d + 1
 end
def uptoSmall : (H : Type) → List (DataW H) → Bool := fun _ ds => decide (uptoBulkAll ds ≤ 1048576)
def OpenSpec.upto (s : _root_.Go.ChangeSpec) : _root_.Go.OpenSpec := { _root_.Go.OpenSpec.ofChange s with cond := some uptoSmall }

/-- 'mummerlaw02.RunesDecodes', WHERE WHAT IT READS IS OF BULK AT MOST 1048576: true; the input reads as it did. -/
def runesDecodesUptoRow : OpenClaim := { program := "ytkpapggojiejdaadoor", sum := "8dd52f147bc3e41f126d2cd5a7b528dba251edc0b858dbad661036083dc6a18b", func := "mummer/mummerlaw02.RunesDecodes", spec := "runesDecodes", inPlace := ["internal/bytealg.IndexByteString"], unfollowed := true, recurses := true, named := ["mummer/runes.marks", "mummer/runes.members"], apart := false, laid := [("mummer/runes.members", laid_mummer_runes_members), ("mummer/runes.marks", laid_mummer_runes_marks)], narrowed := true }
def RunesDecodesUptoSaid : Prop := runesDecodesUptoRow.holds Tryd.pinned (OpenSpec.upto runesDecodesSpec)

/-- 'mummerlaw02.RunesTexts', WHERE WHAT IT READS IS OF BULK AT MOST 1048576: true; the input reads as it did. -/
def runesTextsUptoRow : OpenClaim := { program := "ytkpapggojiejdaadoor", sum := "8dd52f147bc3e41f126d2cd5a7b528dba251edc0b858dbad661036083dc6a18b", func := "mummer/mummerlaw02.RunesTexts", spec := "runesTexts", inPlace := ["internal/bytealg.IndexByteString"], unfollowed := true, recurses := true, named := ["mummer/runes.marks", "mummer/runes.members"], apart := false, laid := [("mummer/runes.members", laid_mummer_runes_members), ("mummer/runes.marks", laid_mummer_runes_marks)], narrowed := true }
def RunesTextsUptoSaid : Prop := runesTextsUptoRow.holds Tryd.pinned (OpenSpec.upto runesTextsSpec)

/-- 'mummerlaw02.RunesStarts', WHERE WHAT IT READS IS OF BULK AT MOST 1048576: true; the input reads as it did. -/
def runesStartsUptoRow : OpenClaim := { program := "ytkpapggojiejdaadoor", sum := "8dd52f147bc3e41f126d2cd5a7b528dba251edc0b858dbad661036083dc6a18b", func := "mummer/mummerlaw02.RunesStarts", spec := "runesStarts", inPlace := ["internal/bytealg.IndexByteString"], unfollowed := true, recurses := true, named := ["mummer/runes.marks", "mummer/runes.members"], apart := false, laid := [("mummer/runes.members", laid_mummer_runes_members), ("mummer/runes.marks", laid_mummer_runes_marks)], narrowed := true }
def RunesStartsUptoSaid : Prop := runesStartsUptoRow.holds Tryd.pinned (OpenSpec.upto runesStartsSpec)

/-- 'mummerlaw02.RunesBack', WHERE WHAT IT READS IS OF BULK AT MOST 1048576: true; the input reads as it did. -/
def runesBackUptoRow : OpenClaim := { program := "ytkpapggojiejdaadoor", sum := "8dd52f147bc3e41f126d2cd5a7b528dba251edc0b858dbad661036083dc6a18b", func := "mummer/mummerlaw02.RunesBack", spec := "runesBack", inPlace := ["internal/bytealg.IndexByteString"], unfollowed := true, recurses := true, named := ["mummer/runes.marks", "mummer/runes.members"], apart := false, laid := [("mummer/runes.members", laid_mummer_runes_members), ("mummer/runes.marks", laid_mummer_runes_marks)], narrowed := true }
def RunesBackUptoSaid : Prop := runesBackUptoRow.holds Tryd.pinned (OpenSpec.upto runesBackSpec)

/-- 'mummerlaw02.RunesOrder', WHERE WHAT IT READS IS OF BULK AT MOST 1048576: true; the input reads as it did. -/
def runesOrderUptoRow : OpenClaim := { program := "ytkpapggojiejdaadoor", sum := "8dd52f147bc3e41f126d2cd5a7b528dba251edc0b858dbad661036083dc6a18b", func := "mummer/mummerlaw02.RunesOrder", spec := "runesOrder", inPlace := ["internal/bytealg.IndexByteString"], unfollowed := true, recurses := true, named := ["mummer/runes.marks", "mummer/runes.members"], apart := false, laid := [("mummer/runes.members", laid_mummer_runes_members), ("mummer/runes.marks", laid_mummer_runes_marks)], narrowed := true }
def RunesOrderUptoSaid : Prop := runesOrderUptoRow.holds Tryd.pinned (OpenSpec.upto runesOrderSpec)

/-- 'mummerlaw02.RunesClasses', WHERE WHAT IT READS IS OF BULK AT MOST 1048576: true; the input reads as it did. -/
def runesClassesUptoRow : OpenClaim := { program := "ytkpapggojiejdaadoor", sum := "8dd52f147bc3e41f126d2cd5a7b528dba251edc0b858dbad661036083dc6a18b", func := "mummer/mummerlaw02.RunesClasses", spec := "runesClasses", inPlace := ["internal/bytealg.IndexByteString"], unfollowed := true, recurses := true, named := ["mummer/runes.members", "mummer/runes.marks"], apart := false, laid := [("mummer/runes.members", laid_mummer_runes_members), ("mummer/runes.marks", laid_mummer_runes_marks)], narrowed := true }
def RunesClassesUptoSaid : Prop := runesClassesUptoRow.holds Tryd.pinned (OpenSpec.upto runesClassesSpec)

/-- 'mummerlaw02.RunesKnown', WHERE WHAT IT READS IS OF BULK AT MOST 1048576: true; the input reads as it did. -/
def runesKnownUptoRow : OpenClaim := { program := "ytkpapggojiejdaadoor", sum := "8dd52f147bc3e41f126d2cd5a7b528dba251edc0b858dbad661036083dc6a18b", func := "mummer/mummerlaw02.RunesKnown", spec := "runesKnown", inPlace := ["internal/bytealg.IndexByteString"], unfollowed := true, recurses := true, named := ["mummer/runes.marks", "mummer/runes.members"], apart := false, laid := [("mummer/runes.members", laid_mummer_runes_members), ("mummer/runes.marks", laid_mummer_runes_marks)], narrowed := true }
def RunesKnownUptoSaid : Prop := runesKnownUptoRow.holds Tryd.pinned (OpenSpec.upto runesKnownSpec)

end Rows
end Go.Proofs.YtkpapggojiejdaaDoor
