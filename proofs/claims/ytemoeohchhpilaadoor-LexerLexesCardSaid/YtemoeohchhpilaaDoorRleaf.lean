/- Layer 2: the small functions: widthAfter, secondBounds, widthOf, lowBits, laterByte, the reference's Is. -/
import Derived.Test.YtemoeohchhpilaaDoorProg
import Derived.Test.YtemoeohchhpilaaDoorRuns
import Derived.BigGuardPart
namespace Go.Proofs.YtemoeohchhpilaaDoor
open Go.RowKit

theorem ret_two {a b c d : Value} (h1 : a = c) (h2 : b = d) : Ending.returned (.tuple #[a, b]) = .returned (.tuple #[c, d]) := by rw [h1, h2]
theorem int_v {k : IntKind} {a b : Int} (h : a = b) : Value.int k a = .int k b := by rw [h]

theorem widthAfter_any (c : Int) (w : World) : Calls Tryd.prog 58 #[.int .u8 c] w fun e w' => e = .returned (.int .i64 (wA c : Nat)) ∧ w = w' := by
  go_enter Tryd.func58, Tryd.ntmps58
  go_wp2
  all_goals go_ret
  · exact ⟨ret_int (by rw [wA_1 (by omega)]; rfl), rfl⟩
  · exact ⟨ret_int (by rw [wA_0 (by omega)]; rfl), rfl⟩
  · exact ⟨ret_int (by rw [wA_2 (by omega) (by omega)]; rfl), rfl⟩
  · exact ⟨ret_int (by rw [wA_3 (by omega) (by omega)]; rfl), rfl⟩
  · exact ⟨ret_int (by rw [wA_4 (by omega) (by omega)]; rfl), rfl⟩
  · exact ⟨ret_int (by rw [wA_0 (by omega)]; rfl), rfl⟩
theorem secondBounds_any (c : Int) (w : World) : Calls Tryd.prog 59 #[.int .u8 c] w fun e w' => e = .returned (.tuple #[.int .u8 (loB c), .int .u8 (hiB c)]) ∧ w = w' := by
  have hl := lo_hi_bd c
  go_enter Tryd.func59, Tryd.ntmps59
  go_wp2
  all_goals go_ret2
  all_goals simp only [beq_iff_eq, beq_eq_false_iff_ne, ne_eq] at *
  all_goals exact ⟨ret_two (int_v (by omega)) (int_v (by omega)), trivial⟩
theorem widthOf_any (r : Int) (w : World) : Calls Tryd.prog 60 #[.int .i32 r] w fun e w' => e = .returned (.int .i64 (wO r : Nat)) ∧ w = w' := by
  go_enter Tryd.func60, Tryd.ntmps60
  go_wp2
  all_goals go_ret
  all_goals first
    | exact ⟨ret_int (by rw [wO_0 (isR_not.2 (by omega))]; rfl), rfl⟩
    | exact ⟨ret_int (by rw [wO_1 (by omega) (by omega)]; rfl), rfl⟩
    | exact ⟨ret_int (by rw [wO_2 (by omega) (by omega)]; rfl), rfl⟩
    | exact ⟨ret_int (by rw [wO_3 (isR_iff.2 (by omega)) (by omega) (by omega)]; rfl), rfl⟩
    | exact ⟨ret_int (by rw [wO_4 (by omega) (by omega)]; rfl), rfl⟩
theorem is_any (r : Int) (w : World) : Calls Tryd.prog 64 #[.int .i32 r] w fun e w' => e = .returned (.bool (isR r)) ∧ w = w' := by
  go_enter Tryd.func64, Tryd.ntmps64
  go_wp2
  all_goals go_ret
  all_goals exact ⟨ret_bool (by rw [Bool.eq_iff_iff, isR_iff]; simp; omega), rfl⟩
def latB (c : Int) : Bool := decide (128 ≤ c ∧ c < 192)
end Go.Proofs.YtemoeohchhpilaaDoor
