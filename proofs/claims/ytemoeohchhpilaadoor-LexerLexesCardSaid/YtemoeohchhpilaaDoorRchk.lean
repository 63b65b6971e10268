/- runes.Check; the reference's SameInts and Same. -/
import Derived.Test.YtemoeohchhpilaaDoorLs
namespace Go.Proofs.YtemoeohchhpilaaDoor
open Go.RowKit Go.PlainAid

theorem below_same {B : Nat} {w w1 w2 : World} (h : Below B w w1) (e : w1 = w2) : Below B w w2 := e ▸ h
def chkV (L : List UInt8) : Value := .tuple #[.int .i64 ((chkS L).1 : Int), .int .i64 (chkS L).2]

end Go.Proofs.YtemoeohchhpilaaDoor
