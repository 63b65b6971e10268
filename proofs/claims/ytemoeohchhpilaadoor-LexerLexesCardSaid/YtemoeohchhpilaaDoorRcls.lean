/- runes.Class. -/
import Derived.Test.YtemoeohchhpilaaDoorRenc
import Derived.Test.YtemoeohchhpilaaDoorShelf
import Derived.Laws.Rows
namespace Go.Proofs.YtemoeohchhpilaaDoor
open Go.RowKit Go.PlainAid

/-- The bytes that are runes of each class. -/
def memS : List (List UInt8) := [[], [9, 10, 13, 32], [40, 91], [41, 93], [39], [35], [59], [48, 49, 50, 51, 52, 53, 54, 55, 56, 57], [43, 45], [97, 98, 99, 100, 101, 102, 103, 104, 105, 106, 107, 108, 109, 110, 111, 112, 113, 114, 115, 116, 117, 118, 119, 120, 121, 122, 65, 66, 67, 68, 69, 70, 71, 72, 73, 74, 75, 76, 77, 78, 79, 80, 81, 82, 83, 84, 85, 86, 87, 88, 89, 90, 33, 36, 37, 38, 42, 47, 58, 60, 61, 62, 63, 94, 95, 126, 46, 64]]
def memCells : Array Value := (memS.map fun l => Value.string (str l)).toArray
def MembersTab (w : World) : Prop := ∃ t fr, w.heap[2]? = some (.cells memCells t fr)
theorem members_below {B : Nat} {w w' : World} (h : MembersTab w) (hb : Below B w w') (hB : 2 < B) : MembersTab w' := by
  obtain ⟨t, fr, h⟩ := h; exact ⟨t, fr, (hb.block _ hB).trans h⟩
def mem (k : Nat) : List UInt8 := memS.getD k []
theorem mx0 (w : World) : (Instr.index 93 (.agg memCells) (.int .i64 0)).run Tryd.prog w = .ok (.string (str (mem 0))) w := by kernel_rfl
theorem mx1 (w : World) : (Instr.index 93 (.agg memCells) (.int .i64 1)).run Tryd.prog w = .ok (.string (str (mem 1))) w := by kernel_rfl
theorem mx2 (w : World) : (Instr.index 93 (.agg memCells) (.int .i64 2)).run Tryd.prog w = .ok (.string (str (mem 2))) w := by kernel_rfl
theorem mx3 (w : World) : (Instr.index 93 (.agg memCells) (.int .i64 3)).run Tryd.prog w = .ok (.string (str (mem 3))) w := by kernel_rfl
theorem mx4 (w : World) : (Instr.index 93 (.agg memCells) (.int .i64 4)).run Tryd.prog w = .ok (.string (str (mem 4))) w := by kernel_rfl
theorem mx5 (w : World) : (Instr.index 93 (.agg memCells) (.int .i64 5)).run Tryd.prog w = .ok (.string (str (mem 5))) w := by kernel_rfl
theorem mx6 (w : World) : (Instr.index 93 (.agg memCells) (.int .i64 6)).run Tryd.prog w = .ok (.string (str (mem 6))) w := by kernel_rfl
theorem mx7 (w : World) : (Instr.index 93 (.agg memCells) (.int .i64 7)).run Tryd.prog w = .ok (.string (str (mem 7))) w := by kernel_rfl
theorem mx8 (w : World) : (Instr.index 93 (.agg memCells) (.int .i64 8)).run Tryd.prog w = .ok (.string (str (mem 8))) w := by kernel_rfl
theorem mx9 (w : World) : (Instr.index 93 (.agg memCells) (.int .i64 9)).run Tryd.prog w = .ok (.string (str (mem 9))) w := by kernel_rfl
theorem mxk (k : Nat) (hk : k < 10) (w : World) : (Instr.index 93 (.agg memCells) (.int .i64 (k : Int))).run Tryd.prog w = .ok (.string (str (mem k))) w := by
  match k, hk with
  | 0, _ => exact mx0 w
  | 1, _ => exact mx1 w
  | 2, _ => exact mx2 w
  | 3, _ => exact mx3 w
  | 4, _ => exact mx4 w
  | 5, _ => exact mx5 w
  | 6, _ => exact mx6 w
  | 7, _ => exact mx7 w
  | 8, _ => exact mx8 w
  | 9, _ => exact mx9 w
/-- The first class from k on that has a byte. -/
def clsGo : Nat → Nat → UInt8 → Int
  | 0, _, _ => 10
  | f + 1, k, c => if 0 ≤ Lib.indexByte (mem k) c then (k : Int) else clsGo f (k + 1) c
def clsS (r : Int) : Int := if isR r = false then 0 else if 161 ≤ r then 9 else clsGo 10 0 (u8 r)
def clsV (r : Int) : Value := .tuple #[.int .i64 (clsS r), .int .i64 (if isR r then 0 else 7)]

set_option maxHeartbeats 1600000 in
theorem class_any (r : Int) (w : World) (hm : MembersTab w) : Calls Tryd.prog 42 #[.int .i32 r] w fun e w' => e = .returned (clsV r) ∧ w = w' := by
  have C := fun w => widthOf_any r w
  cases hr : isR r
  · have C0 : Hid (∀ w, Calls Tryd.prog 60 #[.int .i32 r] w fun e w' => e = .returned (.int .i64 0) ∧ w = w') := Lib.hid (by
      intro w; have := C w; rw [wO_0 hr] at this; exact this)
    have HV : Hid (clsV r = .tuple #[.int .i64 0, .int .i64 7]) := Lib.hid (by unfold clsV clsS; rw [hr]; rfl)
    clear C hr hm
    go_enter Tryd.func42, Tryd.ntmps42
    go_wp2_with (go_at_call 60; refine (C0.out _).mono ?_; rintro e w' ⟨rfl, rfl⟩)
    go_ret2
    exact ⟨(congrArg Ending.returned HV.out).symm, rfl⟩
  · obtain ⟨n, hn⟩ : ∃ n, n = wO r := ⟨_, rfl⟩
    have hb := isR_iff.1 hr
    have hp : 1 ≤ n := by rw [hn]; exact wO_pos hr
    have hz : ((n : Int) == 0) = false := beq_eq_false_iff_ne.2 (by omega)
    have C0 : Hid (∀ w, Calls Tryd.prog 60 #[.int .i32 r] w fun e w' => e = .returned (.int .i64 (n : Int)) ∧ w = w') := Lib.hid (by
      rw [hn]; exact C)
    by_cases h9 : 161 ≤ r
    · have HV : Hid (clsV r = .tuple #[.int .i64 9, .int .i64 0]) := Lib.hid (by unfold clsV clsS; rw [hr, if_neg (by simp), if_pos h9]; rfl)
      clear C hr hm hn hp
      go_enter Tryd.func42, Tryd.ntmps42
      go_wp2_with (go_at_call 60; refine (C0.out _).mono ?_; rintro e w' ⟨rfl, rfl⟩)
      go_ret2
      exact ⟨(congrArg Ending.returned HV.out).symm, rfl⟩
    · obtain ⟨tt, fr, htab'⟩ := hm
      have hlt : r ≤ 160 := by omega
      have hge : 0 ≤ r := hb.1
      have HV : Hid (∀ x, clsGo 10 0 (u8 r) = x → clsV r = .tuple #[.int .i64 x, .int .i64 0]) := Lib.hid (by
        rintro x rfl; unfold clsV clsS; rw [hr, if_neg (by simp), if_neg (by omega)]; rfl)
      have CI : Hid (∀ (k : Nat) (w : World), Calls Tryd.prog 61 #[.string (str (mem k)), .int .u8 r] w fun e w' => e = .returned (.int .i64 (Lib.indexByte (mem k) (u8 r))) ∧ w = w') := Lib.hid (by
        intro k w
        refine (Tryd.strings_IndexByte (str (mem k)) r w).mono ?_
        rintro e w' ⟨h1, h2⟩
        exact ⟨h1, h2.symm⟩)
      have MX : Hid (∀ k : Nat, k < 10 → ∀ w : World, (Instr.index 93 (.agg memCells) (.int .i64 (k : Int))).run Tryd.prog w = .ok (.string (str (mem k))) w) := Lib.hid mxk
      clear C hr hn hp hb h9
      go_enter Tryd.func42, Tryd.ntmps42
      go_wp2_with (first | (go_at_call 60; refine (C0.out _).mono ?_; rintro e w' ⟨rfl, rfl⟩) | (refine wpList_load_row rfl 93 _ rfl 2 rfl tt _ fr _ htab' Tryd.underlying93 rfl (by kernel_rfl) ?_))
      go_loop [12] (fun i => ∃ k : Nat, k ≤ 10 ∧ i = .int .i64 k ∧ Hid (clsGo 10 0 (u8 r) = clsGo (10 - k) k (u8 r))) (fun i => 10 - (intOf i).toNat)
      case atStart => exact ⟨0, by omega, rfl, Lib.hid rfl⟩
      case round =>
        obtain ⟨k, hk, rfl, HG⟩ := hrel
        by_cases hlt : k < 10
        · have mx := MX.out k hlt
          obtain ⟨x, hx⟩ : ∃ x, x = Lib.indexByte (mem k) (u8 r) := ⟨_, rfl⟩
          have CK : Hid (∀ (w : World), Calls Tryd.prog 61 #[.string (str (mem k)), .int .u8 r] w fun e w' => e = .returned (.int .i64 x) ∧ w = w') := Lib.hid (by rw [hx]; exact CI.out k)
          have HS : Hid (clsGo (10 - k) k (u8 r) = if 0 ≤ x then (k : Int) else clsGo (10 - (k + 1)) (k + 1) (u8 r)) := Lib.hid (by
            rw [show 10 - k = 10 - (k + 1) + 1 by omega, clsGo, hx])
          clear hx
          by_cases h0 : 0 ≤ x
          · go_wp2_with (go_at_call 61; refine (CK.out _).mono ?_; rintro e w' ⟨rfl, rfl⟩)
            go_ret2
            exact ⟨(congrArg Ending.returned (HV.out (k : Int) (by rw [HG.out, HS.out, if_pos h0]))).symm, rfl⟩
          · go_wp2_with (go_at_call 61; refine (CK.out _).mono ?_; rintro e w' ⟨rfl, rfl⟩)
            go_round
            case rel => exact ⟨k + 1, by omega, by go_num, Lib.hid (by rw [HG.out, HS.out, if_neg (by omega)])⟩
            case measure => simp [intOf]; omega
        · obtain rfl : k = 10 := by omega
          go_wp2
          go_ret2
          exact ⟨(congrArg Ending.returned (HV.out 10 (by rw [HG.out]; rfl))).symm, rfl⟩
end Go.Proofs.YtemoeohchhpilaaDoor
