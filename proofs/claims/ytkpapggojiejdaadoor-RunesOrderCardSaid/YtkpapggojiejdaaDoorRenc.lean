/- runes.Encode. -/
import Derived.Test.YtkpapggojiejdaaDoorRdec2
import Derived.RangeFuncRecord
namespace Go.Proofs.YtkpapggojiejdaaDoor
open Go.RowKit Go.PlainAid

theorem bc_u8 {n m : Int} (h : 0 ≤ n ∧ n < 256) (e : m = n) : Value.int .u8 m = bc (u8 n) := by
  have := ub_u8 h
  unfold bc; unfold ub at this; rw [this, e]
/-- What Encode returns. -/
def EncV (r : Int) (w : World) (e : Ending) (w' : World) : Prop :=
  ∃ v, e = .returned (.tuple #[v, .int .i64 (if isR r then 0 else 7)]) ∧ w'.ownsRow w.heap.size 5 1 v (enc r).length ((enc r).map bc) ∧ Below w.heap.size w w'

set_option maxHeartbeats 1600000 in
theorem encode_no (r : Int) (w : World) (h : isR r = false) : Calls Tryd.prog 13 #[.int .i32 r] w (EncV r w) := by
  have C : Hid (∀ w, Calls Tryd.prog 37 #[.int .i32 r] w fun e w' => e = .returned (.int .i64 0) ∧ w = w') := Lib.hid (by
    intro w; have := widthOf_any r w; rw [wO_0 h] at this; exact this)
  have H := Lib.hid h
  clear h
  go_enter Tryd.func13, Tryd.ntmps13
  go_wp2_with (go_at_call 37; refine (C.out _).mono ?_; rintro e w' ⟨rfl, rfl⟩)
  go_ret2
  exact ⟨_, by rw [H.out]; rfl, by rw [enc_0 H.out]; exact ⟨rfl, .inl ⟨rfl, rfl⟩⟩, Below.refl _ _⟩
theorem own_new (w : World) (l : List UInt8) (a : Array Value) (t : TypeId) (n : Nat) (ha : a = (l.map bc).toArray) (hn : n = l.length) (hl : l.length ≤ 4) :
    (w.alloc (.cells a t)).ownsRow w.heap.size t 1 (.slice (some ⟨w.heap.size, 0, none⟩) n n) l.length (l.map bc) := by
  subst ha hn
  exact ⟨by simp, .inr ⟨_, _, _, rfl, Nat.le_refl _, World.alloc_heap_new _ _, Nat.le_refl _, by unfold maxLen; omega, by simp, by rw [Nat.mul_one, ← List.length_map (f := bc), List.take_length]⟩⟩
theorem enc_new (r : Int) (w : World) (a : Array Value) (n : Nat) (hr : isR r = true) (ha : a = ((enc r).map bc).toArray) (hn : n = wO r) :
    EncV r w (.returned (.tuple #[.slice (some ⟨w.heap.size, 0, none⟩) n n, .int .i64 0])) (w.alloc (.cells a 5)) :=
  ⟨_, by rw [hr]; rfl, own_new w (enc r) a _ n ha (by rw [enc_len, hn]) (by rw [enc_len]; exact wO_le r), (Below.refl _ _).alloc (Nat.le_refl _) _⟩
set_option maxHeartbeats 1600000 in
theorem encode_1 (r : Int) (w : World) (hr : isR r = true) (h0 : 0 ≤ r) (h1 : r < 128) (hm : MarksTab w) (hg : 0 < w.heap.size) : Calls Tryd.prog 13 #[.int .i32 r] w (EncV r w) := by
  have C : Hid (∀ w, Calls Tryd.prog 37 #[.int .i32 r] w fun e w' => e = .returned (.int .i64 1) ∧ w = w') := Lib.hid (by
    intro w; have := widthOf_any r w; rw [wO_1 h0 h1] at this; exact this)
  have c1 : w.cell? ⟨0, 1, none⟩ = some (.int .i32 0) := marks_cell hm (by omega)
  have HR := Lib.hid hr
  clear hm hr
  have hmk : ∀ w : World, (Instr.makeSlice 22 (.int .i64 1) (.int .i64 1)).run Tryd.prog w = .ok (.slice (some ⟨w.heap.size, 0, none⟩) 1 1) (w.alloc (.cells #[.int .u8 0] 5)) := fun _ => by kernel_rfl
  go_enter Tryd.func13, Tryd.ntmps13
  go_wp2_with (first | (go_at_call 37; refine (C.out _).mono ?_; rintro e w' ⟨rfl, rfl⟩))
  go_ret2
  have hr := HR.out
  refine enc_new r w _ 1 hr ?_ (wO_1 h0 h1).symm
  rw [enc_1 h0 h1]
  refine congrArg List.toArray ?_
  refine List.cons_eq_cons.2 ⟨bc_u8 (by omega) (by omega), ?_⟩
  rfl
set_option maxHeartbeats 1600000 in
theorem encode_2 (r : Int) (w : World) (hr : isR r = true) (h0 : 128 ≤ r) (h1 : r < 2048) (hm : MarksTab w) (hg : 0 < w.heap.size) : Calls Tryd.prog 13 #[.int .i32 r] w (EncV r w) := by
  have C : Hid (∀ w, Calls Tryd.prog 37 #[.int .i32 r] w fun e w' => e = .returned (.int .i64 2) ∧ w = w') := Lib.hid (by
    intro w; have := widthOf_any r w; rw [wO_2 h0 h1] at this; exact this)
  have c1 : w.cell? ⟨0, 2, none⟩ = some (.int .i32 192) := marks_cell hm (by omega)
  have HR := Lib.hid hr
  clear hm hr
  have hmk : ∀ w : World, (Instr.makeSlice 22 (.int .i64 2) (.int .i64 2)).run Tryd.prog w = .ok (.slice (some ⟨w.heap.size, 0, none⟩) 2 2) (w.alloc (.cells #[.int .u8 0, .int .u8 0] 5)) := fun _ => by kernel_rfl
  go_enter Tryd.func13, Tryd.ntmps13
  go_wp2_with (first | (go_at_call 37; refine (C.out _).mono ?_; rintro e w' ⟨rfl, rfl⟩) | (go_at_call 38; refine (lowBits_any _ _ (by omega) (by omega)).mono ?_; rintro e w' ⟨rfl, rfl⟩))
  go_ret2
  have hr := HR.out
  refine enc_new r w _ 2 hr ?_ (wO_2 h0 h1).symm
  rw [enc_2 h0 h1]
  refine congrArg List.toArray ?_
  refine List.cons_eq_cons.2 ⟨bc_u8 (by omega) (by omega), ?_⟩; refine List.cons_eq_cons.2 ⟨bc_u8 (by omega) (by omega), ?_⟩
  rfl
set_option maxHeartbeats 1600000 in
theorem encode_3 (r : Int) (w : World) (hr : isR r = true) (h0 : 2048 ≤ r) (h1 : r < 65536) (hm : MarksTab w) (hg : 0 < w.heap.size) : Calls Tryd.prog 13 #[.int .i32 r] w (EncV r w) := by
  have C : Hid (∀ w, Calls Tryd.prog 37 #[.int .i32 r] w fun e w' => e = .returned (.int .i64 3) ∧ w = w') := Lib.hid (by
    intro w; have := widthOf_any r w; rw [wO_3 hr h0 h1] at this; exact this)
  have c1 : w.cell? ⟨0, 3, none⟩ = some (.int .i32 224) := marks_cell hm (by omega)
  have HR := Lib.hid hr
  clear hm hr
  have hmk : ∀ w : World, (Instr.makeSlice 22 (.int .i64 3) (.int .i64 3)).run Tryd.prog w = .ok (.slice (some ⟨w.heap.size, 0, none⟩) 3 3) (w.alloc (.cells #[.int .u8 0, .int .u8 0, .int .u8 0] 5)) := fun _ => by kernel_rfl
  go_enter Tryd.func13, Tryd.ntmps13
  go_wp2_with (first | (go_at_call 37; refine (C.out _).mono ?_; rintro e w' ⟨rfl, rfl⟩) | (go_at_call 38; refine (lowBits_any _ _ (by omega) (by omega)).mono ?_; rintro e w' ⟨rfl, rfl⟩))
  go_ret2
  have hr := HR.out
  refine enc_new r w _ 3 hr ?_ (wO_3 hr h0 h1).symm
  rw [enc_3 hr h0 h1]
  refine congrArg List.toArray ?_
  refine List.cons_eq_cons.2 ⟨bc_u8 (by omega) (by omega), ?_⟩; refine List.cons_eq_cons.2 ⟨bc_u8 (by omega) (by omega), ?_⟩; refine List.cons_eq_cons.2 ⟨bc_u8 (by omega) (by omega), ?_⟩
  rfl
set_option maxHeartbeats 1600000 in
theorem encode_4 (r : Int) (w : World) (hr : isR r = true) (h0 : 65536 ≤ r) (h1 : r ≤ 1114111) (hm : MarksTab w) (hg : 0 < w.heap.size) : Calls Tryd.prog 13 #[.int .i32 r] w (EncV r w) := by
  have C : Hid (∀ w, Calls Tryd.prog 37 #[.int .i32 r] w fun e w' => e = .returned (.int .i64 4) ∧ w = w') := Lib.hid (by
    intro w; have := widthOf_any r w; rw [wO_4 h0 h1] at this; exact this)
  have c1 : w.cell? ⟨0, 4, none⟩ = some (.int .i32 240) := marks_cell hm (by omega)
  have HR := Lib.hid hr
  clear hm hr
  have hmk : ∀ w : World, (Instr.makeSlice 22 (.int .i64 4) (.int .i64 4)).run Tryd.prog w = .ok (.slice (some ⟨w.heap.size, 0, none⟩) 4 4) (w.alloc (.cells #[.int .u8 0, .int .u8 0, .int .u8 0, .int .u8 0] 5)) := fun _ => by kernel_rfl
  go_enter Tryd.func13, Tryd.ntmps13
  go_wp2_with (first | (go_at_call 37; refine (C.out _).mono ?_; rintro e w' ⟨rfl, rfl⟩) | (go_at_call 38; refine (lowBits_any _ _ (by omega) (by omega)).mono ?_; rintro e w' ⟨rfl, rfl⟩))
  go_ret2
  have hr := HR.out
  refine enc_new r w _ 4 hr ?_ (wO_4 h0 h1).symm
  rw [enc_4 h0 h1]
  refine congrArg List.toArray ?_
  refine List.cons_eq_cons.2 ⟨bc_u8 (by omega) (by omega), ?_⟩; refine List.cons_eq_cons.2 ⟨bc_u8 (by omega) (by omega), ?_⟩; refine List.cons_eq_cons.2 ⟨bc_u8 (by omega) (by omega), ?_⟩; refine List.cons_eq_cons.2 ⟨bc_u8 (by omega) (by omega), ?_⟩
  rfl
theorem encode_any (r : Int) (w : World) (hm : MarksTab w) (hg : 0 < w.heap.size) : Calls Tryd.prog 13 #[.int .i32 r] w (EncV r w) := by
  cases hr : isR r
  · exact encode_no r w hr
  · rcases isR_forms hr with ⟨a, b⟩ | ⟨a, b⟩ | ⟨a, b⟩ | ⟨a, b⟩
    · exact encode_1 r w hr a b hm hg
    · exact encode_2 r w hr a b hm hg
    · exact encode_3 r w hr a b hm hg
    · exact encode_4 r w hr a b hm hg
end Go.Proofs.YtkpapggojiejdaaDoor
