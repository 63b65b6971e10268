/- What the row's list gives at the great seat of stage 9; a world for the witness. -/
import Derived.Test.YtchnmbfeaaialaaGreatDoorCards
import Derived.Test.YtchnmbfeaaialaaGreatDoorTie
import Derived.ProofKit
import Derived.LaidMore
import Derived.OpenShut
import Derived.Stop.LaidErr
import Derived.Stop.Texts
import Derived.Lib.LaidTab
import Derived.Deep.DeepHandedRow
import Derived.Test.YtchnmbfeaaialaaGreatDoorSzl
import Derived.Test.YtchnmbfeaaialaaGreatDoorShelfM
import Derived.Lay
import Derived.SevenTiedAt
import Derived.Stop.Joined
namespace Go.Proofs.YtchnmbfeaaialaaGreatDoor
open Go.ChangeShapes Go.WideShapes Go.ChangeAt Go.RowKit

set_option maxRecDepth 100000 in
theorem door_met (os : Os) (args : Array Value) : laidMetH Tryz.prog Rows.scopesTextsRow.laid ((World.laidAll Tryz.prog os Rows.scopesTextsRow.laid).forCall (fun _ _ => 0) ⟨#[], args, []⟩).memory := by
  rw [MakeChecks.laidMetH_plain _ _ _ (by kernel_rfl)]; exact laidMet_laidAll _ (by kernel_rfl) (by kernel_rfl)
theorem max_of {W : World} (h : W.ShapedOpen Tryz.prog) : MaxIs W := Tryz.laysM146.s1_3 W h
theorem laidOut : laidOutB Tryz.prog = true := by kernel_rfl
theorem own : ownKnob Tryz.prog.godebug = none := by kernel_rfl
theorem gRng : Tryz.prog.globalNamed "strconv.ErrRange" = some 3 := by kernel_rfl
theorem gPow : Tryz.prog.globalNamed "internal/strconv.uint64pow10" = some 1 := by kernel_rfl
theorem tRng : (Tryz.prog.globals[3]?).map (·.type) = some 76 := by kernel_rfl
theorem tPow : (Tryz.prog.globals[1]?).map (·.type) = some 147 := by kernel_rfl
theorem cU64 : Tryz.prog.cellsOf 97 = 1 := by kernel_rfl
theorem cPow : Tryz.prog.cellsOf 147 = 20 := by kernel_rfl
theorem cStr : Tryz.prog.cellsOf 9 = 1 := by kernel_rfl
theorem cErrS : Tryz.prog.cellsOf 170 = 1 := by kernel_rfl
theorem star : "*" ++ "errors.errorString" = "*errors.errorString" := by decide
theorem rowErr (u : TypeId) (h : Tryz.prog.typeName? 3 u = some "*errors.errorString") : u = 168 :=
  typeName_ptr_named (nm := "errors.errorString") (by rw [star]; kernel_rfl) (by kernel_rfl) (by decide) u (by rw [star]; exact h)
theorem tabs_rng {W : World} (h : RangeIs W) : 3 < W.heap.size := by
  obtain ⟨tp, p, h⟩ := h
  exact World.block_lt_of_cell? W ⟨3, 0, none⟩ (u := .iface tp p) (by have := World.var?_cell gRng h 0; simpa using this)
/-- What the list gives. -/
theorem ztab_of {W : World} (h : laidMetH Tryz.prog Rows.scopesTextsRow.laid W) (hsh : W.ShapedOpen Tryz.prog) : ZTab W := by
  rw [MakeChecks.laidMetH_plain _ _ _ (by kernel_rfl)] at h
  have h2 := h.tail.tail
  have hp : PowIs W := Lib.tabIs_of_head gPow tPow Tryz.underlying147 Tryz.underlying97 cU64 cPow h2
  have h3 := h2.tail.tail
  obtain ⟨a, sm, hv, _, _, _⟩ := laid_sentinel h3 gRng tRng Tryz.underlying76 rowErr Tryz.underlying168 Tryz.underlying170 rfl rfl Tryz.underlying9 cErrS cStr
  have hr : RangeIs W := ⟨_, _, hv⟩
  exact ⟨⟨hp, World.block_lt_of_cell? W ⟨1, 0, none⟩ (hp.cell gPow 0 (by decide))⟩, max_of hsh, hr, tabs_rng hr⟩
end Go.Proofs.YtchnmbfeaaialaaGreatDoor
