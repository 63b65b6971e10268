/- What the rows' list gives in layer 9; a world for the witness. -/
import Derived.Test.YtchnmbfeaaialaaDoorCards
import Derived.Test.YtchnmbfeaaialaaDoorTie
import Derived.ProofKit
import Derived.LaidMore
import Derived.OpenShut
import Derived.Stop.LaidErr
import Derived.Stop.Texts
import Derived.Lib.LaidTab
import Derived.Deep.DeepHandedRow
import Derived.Lay
import Derived.SevenTiedAt
import Derived.Stop.Joined
import Derived.ChangeSlices
import Derived.Deep.SlicePairs
import Derived.Lib.SmallJoins
import Derived.Test.YtchnmbfeaaialaaDoorSw
namespace Go.Proofs.YtchnmbfeaaialaaDoor
open Go.ChangeShapes Go.WideShapes Go.ChangeAt Go.RowKit Go.Deep

set_option maxRecDepth 100000 in
theorem door_met (os : Os) (args : Array Value) : laidMetH Tryd.prog Rows.scopesChecksRow.laid ((World.doorLaid Tryd.prog 2000 os).forCall (fun _ _ => 0) ⟨#[], args, []⟩).memory :=
  laidMetH_of_parts3 (fuel := 8) (laidMet_of_run' 8 (by kernel_rfl) (by kernel_rfl)) (by kernel_rfl) (by kernel_rfl)
theorem laidOut : laidOutB Tryd.prog = true := by kernel_rfl
theorem own : ownKnob Tryd.prog.godebug = none := by kernel_rfl
theorem gPow : Tryd.prog.globalNamed "internal/strconv.uint64pow10" = some 1 := by kernel_rfl
theorem tPow : (Tryd.prog.globals[1]?).map (·.type) = some 115 := by kernel_rfl
theorem cU64 : Tryd.prog.cellsOf 83 = 1 := by kernel_rfl
theorem cPow : Tryd.prog.cellsOf 115 = 20 := by kernel_rfl
/-- What the list gives. -/
theorem tabs_of {W : World} (h : laidMetH Tryd.prog Rows.scopesChecksRow.laid W) : STab W := by
  rw [MakeChecks.laidMetH_plain _ _ _ (by kernel_rfl)] at h
  have h2 := h.tail.tail
  have hp : PowIs W := Lib.tabIs_of_head gPow tPow Tryd.underlying115 Tryd.underlying83 cU64 cPow h2
  exact ⟨hp, World.block_lt_of_cell? W ⟨1, 0, none⟩ (hp.cell gPow 0 (by decide))⟩
end Go.Proofs.YtchnmbfeaaialaaDoor
