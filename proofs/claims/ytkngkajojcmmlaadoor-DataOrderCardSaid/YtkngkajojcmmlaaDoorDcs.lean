/- cmp.Compare of strings. -/
import Derived.Test.YtkngkajojcmmlaaDoorDom
import Derived.Laws.Cover1
namespace Go.Proofs.YtkngkajojcmmlaaDoor
open Go.RowKit Go.PlainAid

set_option maxRecDepth 50000 in
theorem nan_str (x : ByteArray) (w : World) : Calls Tryd.prog 115 #[.string x] w fun e w' => e = .returned (.bool false) ∧ w = w' := by
  have h : (x.toList == x.toList) = true := by simp
  go_enter Tryd.func115, Tryd.ntmps115
  go_wp2_with fail
  go_ret
  exact ⟨rfl, rfl⟩
theorem str_bless (x y : List UInt8) : Op.bytesLess (str x).toList (str y).toList = decide (strS x y < 0) := by
  rw [ByteArray.toList_eq, ByteArray.toList_eq, str_list, str_list, strS_less]
theorem str_same (x y : List UInt8) : ((str x).toList == (str y).toList) = decide (strS x y = 0) := by
  rw [ByteArray.toList_eq, ByteArray.toList_eq, str_list, str_list, Bool.eq_iff_iff, beq_iff_eq, decide_eq_true_eq]
  exact ⟨fun e => by rw [e]; exact strS_refl y, strS_0⟩
set_option maxRecDepth 50000 in
theorem cmp_str (x y : List UInt8) (w : World) : Calls Tryd.prog 93 #[.string (str x), .string (str y)] w fun e w' => e = .returned (.int .i64 (strS x y)) ∧ w = w' := by
  have C := Lib.hid (nan_str)
  have t1 := str_bless x y
  have t2 := str_same x y
  obtain ⟨X, hX⟩ : ∃ X, str x = X := ⟨_, rfl⟩
  obtain ⟨Y, hY⟩ : ∃ Y, str y = Y := ⟨_, rfl⟩
  obtain ⟨q, hq⟩ : ∃ q, strS x y = q := ⟨_, rfl⟩
  have hb := strS_bd x y
  rw [hX, hY] at t1 t2 ⊢
  rw [hq] at t1 t2 hb ⊢
  clear hX hY hq
  rcases (show q = -1 ∨ q = 0 ∨ q = 1 by omega) with rfl | rfl | rfl <;> simp only [show ((-1 : Int) < 0) = True by simp, show ((-1 : Int) = 0) = False by simp, show ((1 : Int) < 0) = False by simp, show ((1 : Int) = 0) = False by simp, show ((0 : Int) < 0) = False by simp, decide_true, decide_false] at t1 t2 <;> (
    go_enter Tryd.func93, Tryd.ntmps93
    go_wp2_with (go_at_call 115; refine (C.out _ _).mono ?_; rintro e w' ⟨rfl, rfl⟩)
    go_ret
    exact ⟨rfl, rfl⟩)
end Go.Proofs.YtkngkajojcmmlaaDoor
