/- Contracts of the reference's quoted, and of both Unquote. -/
import Derived.Test.YtnajkkbcfebegaaGreatDoorUnq
namespace Go.Proofs.YtnajkkbcfebegaaGreatDoor
open Go.RowKit Go.PlainAid

/-- The form of a byte stands at index q. -/
def StandsAt (s : ByteArray) (q : Nat) (c : UInt8) : Prop := ∃ r, s.data.toList.drop q = esc c ++ r
theorem stands_len {s : ByteArray} {q : Nat} {c : UInt8} (h : StandsAt s q c) (hq : q ≤ s.size) : q + (esc c).length ≤ s.size := by
  obtain ⟨r, h⟩ := h
  have e := congrArg List.length h
  simp only [List.length_drop, List.length_append] at e
  have : s.data.toList.length = s.size := by simp
  omega
theorem piece_data (s : ByteArray) (q n : Nat) : (s.extract q (q + n)).toList = (s.data.toList.drop q).take n := by
  rw [ByteArray.toList_eq, Lib.extract_data]; congr 1; omega
theorem stands_yes {s : ByteArray} {q : Nat} {c : UInt8} (h : StandsAt s q c) : ((s.extract q (q + (str (esc c)).size)).toList == (str (esc c)).toList) = true := by
  obtain ⟨r, h⟩ := h
  rw [piece_data, h, str_size, ByteArray.toList_eq]
  simp [str]
theorem stands_no {s : ByteArray} {q : Nat} {c : UInt8} (h : ¬ StandsAt s q c) : ((s.extract q (q + (str (esc c)).size)).toList == (str (esc c)).toList) = false := by
  rw [piece_data, str_size, ByteArray.toList_eq, beq_eq_false_iff_ne]
  intro e
  apply h
  refine ⟨(s.data.toList.drop q).drop (esc c).length, ?_⟩
  have e' : (s.data.toList.drop q).take (esc c).length = esc c := e
  conv => lhs; rw [← List.take_append_drop (esc c).length (s.data.toList.drop q)]
  rw [e']
theorem stands_rd {s : ByteArray} {q : Nat} {c : UInt8} (h : StandsAt s q c) : rd (s.data.toList.drop q) = some (c, (esc c).length) := by
  obtain ⟨r, h⟩ := h; rw [h]; exact rd_esc c r

/-- What the reference's quoted returns. -/
def RQuo (s : ByteArray) (w : World) (e : Ending) (w' : World) : Prop :=
  e = .returned (match quoS s.data.toList 0 with
   | some x => .tuple #[.string (str x.1), .int .i64 (x.2 : Int)]
   | none => .tuple #[.string (str []), .int .i64 0]) ∧ Below w.heap.size w w'
theorem rquo_no {s : ByteArray} {w w' : World} {t : ByteArray} (h : quoS s.data.toList 0 = none) (ht : t = str []) (hb : Below w.heap.size w w') :
    RQuo s w (.returned (.tuple #[.string t, .int .i64 0])) w' := by unfold RQuo; rw [h, ht]; exact ⟨rfl, hb⟩
theorem rquo_yes {s : ByteArray} {n : Nat} {w w' : World} {b : List UInt8} {m : Int} (h : quoS s.data.toList 0 = some (b, n)) (hm : (n : Int) = m) (hb : Below w.heap.size w w') :
    RQuo s w (.returned (.tuple #[.string (str b), .int .i64 m])) w' := by unfold RQuo; rw [h, ← hm]; exact ⟨rfl, hb⟩

/-- The string that a quoted form stands for. -/
def unqS (s : ByteArray) : Option (List UInt8) := match quoS s.data.toList 0 with
  | some x => if x.2 = s.size then some x.1 else none
  | none => none
def UnqV (s : ByteArray) (w : World) (e : Ending) (w' : World) : Prop :=
  e = .returned (match unqS s with
   | some l => .tuple #[.string (str l), .int .i64 0]
   | none => .tuple #[.string (str []), .int .i64 6]) ∧ Below w.heap.size w w'
theorem unqV_no {s : ByteArray} {w w' : World} {t : ByteArray} (h : unqS s = none) (ht : t = str []) (hb : Below w.heap.size w w') :
    UnqV s w (.returned (.tuple #[.string t, .int .i64 6])) w' := by unfold UnqV; rw [h, ht]; exact ⟨rfl, hb⟩
theorem unqV_yes {s : ByteArray} {w w' : World} {b : List UInt8} (h : unqS s = some b) (hb : Below w.heap.size w w') :
    UnqV s w (.returned (.tuple #[.string (str b), .int .i64 0])) w' := by unfold UnqV; rw [h]; exact ⟨rfl, hb⟩
theorem unqS_none {s : ByteArray} (h : quoS s.data.toList 0 = none) : unqS s = none := by unfold unqS; rw [h]
theorem unqS_part {s : ByteArray} {x : List UInt8 × Nat} (h : quoS s.data.toList 0 = some x) (hn : x.2 ≠ s.size) : unqS s = none := by unfold unqS; rw [h]; simp [hn]
theorem unqS_all {s : ByteArray} {x : List UInt8 × Nat} (h : quoS s.data.toList 0 = some x) (hn : x.2 = s.size) : unqS s = some x.1 := by unfold unqS; rw [h]; simp [hn]

set_option maxHeartbeats 1600000 in
theorem unquote_any (s : ByteArray) (w : World) (hs : s.size ≤ 1000000000) (htab : EscTab w) (hw : 0 < w.heap.size) :
    Calls Tryz.prog 16 #[.string s] w (UnqV s w) := by
  have c0 := quotedAt_any s 0 w (by omega) hs htab hw
  rw [show ((0 : Nat) : Int) = 0 from rfl] at c0
  unfold QuoV at c0
  cases hq : quoS s.data.toList 0 with
  | none =>
    rw [hq] at c0
    have C := Lib.hid c0
    have HN := Lib.hid (unqS_none hq)
    clear c0 hq
    go_enter Tryz.func16, Tryz.ntmps16
    go_wp2_with (go_at_call 40; refine C.out.mono ?_; rintro e w' ⟨⟨n, hn, rfl⟩, hb⟩)
    go_ret2
    exact unqV_no HN.out rfl hb
  | some x =>
    rw [hq] at c0
    have C := Lib.hid c0
    by_cases hx : x.2 = s.size
    · have HN := Lib.hid (unqS_all hq hx)
      have hne : ((x.2 : Int) != (s.size : Int)) = false := by rw [hx]; simp
      clear c0 hq hx
      go_enter Tryz.func16, Tryz.ntmps16
      go_wp2_with (go_at_call 40; refine C.out.mono ?_; rintro e w' ⟨rfl, hb⟩)
      all_goals go_ret2
      all_goals exact unqV_yes HN.out hb
    · have HN := Lib.hid (unqS_part hq hx)
      have hne : ((x.2 : Int) != (s.size : Int)) = true := by rw [bne_iff_ne]; omega
      clear c0 hq hx
      go_enter Tryz.func16, Tryz.ntmps16
      go_wp2_with (go_at_call 40; refine C.out.mono ?_; rintro e w' ⟨rfl, hb⟩)
      all_goals go_ret2
      all_goals exact unqV_no HN.out rfl hb

end Go.Proofs.YtnajkkbcfebegaaGreatDoor
