/- runes.Starts. -/
import Derived.Test.YtemoeohchhpilaaDoorRrunes
namespace Go.Proofs.YtemoeohchhpilaaDoor
open Go.RowKit Go.Shelf Go.PlainAid

attribute [local go_sem] Oper.semAt_some

/-- runes.Starts -/
def StV (l : List UInt8) (w : World) (e : Ending) (w' : World) : Prop :=
  ∃ v, e = .returned (.tuple #[v, .int .i64 (startsS l).2]) ∧ w'.ownsRow w.heap.size 3 1 v (startsS l).1.length ((startsS l).1.map (fun k : Nat => Value.int .i64 (k : Int))) ∧ Below w.heap.size w w'
theorem infoSt : (Tryd.prog.info? 3).map (fun i => (i.zero, i.size, i.bytes)) = some (some (.int .i64 0), 1, 8) := by kernel_rfl

end Go.Proofs.YtemoeohchhpilaaDoor
