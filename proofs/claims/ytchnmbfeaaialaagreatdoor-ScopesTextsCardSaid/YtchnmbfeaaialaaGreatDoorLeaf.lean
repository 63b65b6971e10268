/- Contracts of the leaf predicates on bytes of layer 1: words.lowerByte, words.digitByte, words.plainByte and the reference's lower, digit, plain. -/
import Derived.Test.YtchnmbfeaaialaaGreatDoorProg
import Derived.Test.YtchnmbfeaaialaaGreatDoorKit
import Derived.BigGuardPart
namespace Go.Proofs.YtchnmbfeaaialaaGreatDoor
open Go.RowKit

/-- A byte from a to z. -/
def lowB (c : Int) : Bool := decide (97 ≤ c ∧ c ≤ 122)
/-- A byte from 0 to 9. -/
def digB (c : Int) : Bool := decide (48 ≤ c ∧ c ≤ 57)
/-- A byte that stands for itself between quotes. -/
def plainB (c : Int) : Bool := decide (32 ≤ c ∧ c ≤ 126 ∧ c ≠ 34 ∧ c ≠ 92)


theorem digitByte_any (c : Int) (w : World) : Calls Tryz.prog 98 #[.int .u8 c] w fun e w' => e = .returned (.bool (digB c)) ∧ w = w' := by
  go_enter Tryz.func98, Tryz.ntmps98
  go_wp2
  all_goals go_ret
  all_goals exact ⟨ret_bool (by rw [Bool.eq_iff_iff]; simp [digB]; omega), rfl⟩

theorem rdigit_any (c : Int) (w : World) : Calls Tryz.prog 63 #[.int .u8 c] w fun e w' => e = .returned (.bool (digB c)) ∧ w = w' := by
  go_enter Tryz.func63, Tryz.ntmps63
  go_wp2
  all_goals go_ret
  all_goals exact ⟨ret_bool (by rw [Bool.eq_iff_iff]; simp [digB]; omega), rfl⟩

end Go.Proofs.YtchnmbfeaaialaaGreatDoor
