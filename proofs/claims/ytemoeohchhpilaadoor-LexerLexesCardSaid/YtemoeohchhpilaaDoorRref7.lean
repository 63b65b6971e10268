/- The reference's Starts, Back, On. -/
import Derived.Test.YtemoeohchhpilaaDoorRst
import Derived.Deep.DeepCutAuto
namespace Go.Proofs.YtemoeohchhpilaaDoor
open Go.RowKit Go.PlainAid

def ints (l : List Nat) : List Value := l.map fun k : Nat => Value.int .i64 (k : Int)

end Go.Proofs.YtemoeohchhpilaaDoor
