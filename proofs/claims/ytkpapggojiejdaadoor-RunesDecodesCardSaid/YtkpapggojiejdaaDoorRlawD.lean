/- The law RunesDecodes, walked. -/
import Derived.Test.YtkpapggojiejdaaDoorRref4
import Derived.Test.YtkpapggojiejdaaDoorRawake
namespace Go.Proofs.YtkpapggojiejdaaDoor
open Go.RowKit Go.PlainAid

set_option maxRecDepth 100000 in
set_option maxHeartbeats 6400000 in
theorem lawD_small (a : Option Addr) (n cap : Nat) (l : List UInt8) (i r : Int) (w : World) (T : Tabs w) (h : ArgAt w (.slice a n cap) (l.map bc)) (hn : n = l.length) (hb : n ≤ 200) :
    Calls Tryd.prog 3 #[.slice a n cap, .int .i64 i, .int .i32 r] w fun e w' => e = .returned (.bool true) ∧ Below w.heap.size w w' := by
  have HT : Hid (∀ W, Below w.heap.size w W → Tabs W) := Lib.hid fun W hb => T.below hb
  have CA : Hid (∀ W, Below w.heap.size w W → Calls Tryd.prog 10 #[] W fun e w' => e = .returned (.bool true) ∧ Below W.heap.size W w') := Lib.hid fun W hb => awake_any W (T.below hb)
  have hd1 : decide ((200 : Int) < (n : Int)) = false := decide_eq_false (by omega)
  obtain ⟨x, q, e, hd⟩ : ∃ x q e, decAt l i = (x, q, e) := ⟨_, _, _, rfl⟩
  have C1 : Hid (Calls Tryd.prog 11 #[.slice a n cap, .int .i64 i] w fun e' w' => e' = .returned (.tuple #[.int .i32 x, .int .i64 (q : Int), .int .i64 e]) ∧ Below w.heap.size w w') := Lib.hid (by
    have := decode_any _ l i w h.row (by omega) T.marks
    rw [hd] at this; exact this)
  have C2 : Hid (∀ W, Below w.heap.size w W → Calls Tryd.prog 12 #[.slice a n cap, .int .i64 i] W fun e' w' => e' = .returned (.tuple #[.int .i32 x, .int .i64 (q : Int), .int .i64 e]) ∧ Below W.heap.size W w') := Lib.hid fun W hb => by
    have := rdecode_any _ l i W (h.below hb (Nat.le_refl _)) (by omega)
    rw [hd] at this; exact this
  obtain ⟨f, hf⟩ : ∃ f : Int, (if isR r then (0 : Int) else 7) = f := ⟨_, rfl⟩
  obtain ⟨d, hdd⟩ : ∃ d, wO r = d := ⟨_, rfl⟩
  have C3 : Hid (∀ W, Below w.heap.size w W → Calls Tryd.prog 13 #[.int .i32 r] W fun e w1 => ∃ a c, e = .returned (.tuple #[.slice a d c, .int .i64 f]) ∧ SrcAt w1 (.slice a d c) d ((enc r).map bc) ∧ Below W.heap.size W w1) := Lib.hid fun W hb =>
    (enc_at r (enc r) f d W (T.below hb) rfl hf (by rw [enc_len, hdd])).mono fun _ _ ⟨a, c, h1, h2, h3⟩ => ⟨a, c, h1, SrcAt.own h2, h3⟩
  have C4 : Hid (∀ W, Below w.heap.size w W → Calls Tryd.prog 14 #[.int .i32 r] W fun e w1 => ∃ a c, e = .returned (.tuple #[.slice a d c, .int .i64 f]) ∧ SrcAt w1 (.slice a d c) d ((enc r).map bc) ∧ Below W.heap.size W w1) := Lib.hid fun W hb => by
    refine (rencode_any r W).mono ?_
    rintro e w1 ⟨v, h1, h2, h3⟩
    rw [hf] at h1
    rw [enc_len, hdd] at h2
    obtain ⟨a, k, rfl⟩ := (RowAt.own h2).slice
    rw [List.length_map, enc_len, hdd] at h1 h2
    exact ⟨_, _, h1, SrcAt.own h2, h3⟩
  obtain ⟨k, hk⟩ : ∃ k, clsS r = k := ⟨_, rfl⟩
  have C5 : Hid (∀ W, Below w.heap.size w W → Calls Tryd.prog 15 #[.int .i32 r] W fun e w' => e = .returned (.tuple #[.int .i64 k, .int .i64 f]) ∧ W = w') := Lib.hid fun W hb => by
    have := class_any r W (T.below hb).members
    unfold clsV at this; rw [hk, hf] at this; exact this
  have C6 : Hid (∀ W, Calls Tryd.prog 16 #[.int .i32 r] W fun e w' => e = .returned (.tuple #[.int .i64 k, .int .i64 f]) ∧ W = w') := Lib.hid fun W => by
    have := rclass_any r W
    unfold clsV at this; rw [hk, hf] at this; exact this
  have HL : Hid (d = (enc r).length) := Lib.hid (by rw [enc_len, hdd])
  clear T h hd hf hk hdd hn
  go_enter Tryd.func3, Tryd.ntmps3
  go_wp2_with fail
  refine C1.out.mono ?_
  rintro e1 w1 ⟨rfl, hb1⟩
  go_wp2_with fail
  refine (C2.out w1 hb1).mono ?_
  rintro e2 w2 ⟨rfl, hb2⟩
  have hB2 := hb1.trans (hb2.mono hb1.size)
  go_wp2_with fail
  refine (C3.out w2 hB2).mono ?_
  rintro e3 w3 ⟨a3, c3, rfl, hs3, hb3⟩
  have hB3 := hB2.trans (hb3.mono hB2.size)
  have HS3 := Lib.hid hs3
  clear hs3
  go_wp2_with fail
  refine (C4.out w3 hB3).mono ?_
  rintro e4 w4 ⟨a4, c4, rfl, hs4, hb4⟩
  have hB4 := hB3.trans (hb4.mono hB3.size)
  have HS4 := Lib.hid hs4
  clear hs4
  go_wp2_with fail
  refine (C5.out w4 hB4).mono ?_
  rintro e5 w5 ⟨rfl, rfl⟩
  go_wp2_with fail
  refine (C6.out w4).mono ?_
  rintro e6 w6 ⟨rfl, rfl⟩
  have hv1 := conv_src (HS3.out.below hb4 (Nat.le_refl _)) HL.out
  have hv2 := conv_src HS4.out HL.out
  go_wp2_with fail
  refine (CA.out w4 hB4).mono ?_
  rintro e7 w7 ⟨rfl, hb7⟩
  go_wp2_with fail
  go_ret
  exact ⟨rfl, hB4.trans (hb7.mono hB4.size)⟩

set_option maxRecDepth 100000 in
set_option maxHeartbeats 1600000 in
theorem lawD_big (a : Option Addr) (n cap : Nat) (i r : Int) (w : World) (T : Tabs w) (hb : 200 < n) :
    Calls Tryd.prog 3 #[.slice a n cap, .int .i64 i, .int .i32 r] w fun e w' => e = .returned (.bool true) ∧ Below w.heap.size w w' := by
  have CA : Hid (Calls Tryd.prog 10 #[] w fun e w' => e = .returned (.bool true) ∧ Below w.heap.size w w') := Lib.hid (awake_any w T)
  clear T
  go_enter Tryd.func3, Tryd.ntmps3
  go_wp2_with (go_at_call 10; refine CA.out.mono ?_; rintro e w1 ⟨rfl, hb1⟩)
  go_ret
  exact ⟨rfl, hb1⟩
theorem lawD_any (v : Value) (l : List UInt8) (i r : Int) (w : World) (T : Tabs w) (h : ArgAt w v (l.map bc)) :
    Calls Tryd.prog 3 #[v, .int .i64 i, .int .i32 r] w fun e w' => e = .returned (.bool true) ∧ Below w.heap.size w w' := by
  have h' := h
  obtain ⟨a, n, c, rfl, hn, _, _⟩ := h'
  rw [List.length_map] at hn
  by_cases hb : 200 < n
  · exact lawD_big a n c i r w T hb
  · exact lawD_small a n c l i r w T h hn (by omega)
end Go.Proofs.YtkpapggojiejdaaDoor
