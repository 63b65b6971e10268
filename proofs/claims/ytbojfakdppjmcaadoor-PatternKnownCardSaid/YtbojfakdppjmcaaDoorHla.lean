/- PatternKnown: the law called with any world. -/
import Derived.Test.YtbojfakdppjmcaaDoorHdo
namespace Go.Proofs.YtbojfakdppjmcaaDoor
open Go.RowKit

theorem lawKn_any (w : World) (T : STabs w) :
    Calls Tryd.prog 8 #[] w fun e w' => e = .returned (.bool true) ∧ Below w.heap.size w w' := by
  go_enter Tryd.func8, Tryd.ntmps8
  go_wp2_with fail
  refine (shown_any w T).mono ?_
  rintro e w1 ⟨rfl, hb⟩
  go_wp2_with fail
  go_ret
  exact ⟨rfl, hb⟩
end Go.Proofs.YtbojfakdppjmcaaDoor
