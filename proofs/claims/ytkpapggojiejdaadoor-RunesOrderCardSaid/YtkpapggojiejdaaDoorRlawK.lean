/- The law RunesKnown, walked. -/
import Derived.Test.YtkpapggojiejdaaDoorRawake
namespace Go.Proofs.YtkpapggojiejdaaDoor
open Go.RowKit Go.PlainAid

/-- Encode at a given rune. -/
theorem enc_at (r : Int) (l : List UInt8) (f : Int) (n : Nat) (W : World) (T : Tabs W) (h1 : enc r = l) (h2 : (if isR r then (0 : Int) else 7) = f) (h3 : n = l.length) :
    Calls Tryd.prog 13 #[.int .i32 r] W fun e w1 => ∃ a c, e = .returned (.tuple #[.slice a n c, .int .i64 f]) ∧ w1.ownsRow W.heap.size 5 1 (.slice a n c) n (l.map bc) ∧ Below W.heap.size W w1 := by
  subst h1 h2 h3
  refine (encode_any r W T.marks T.hm).mono ?_
  rintro e w1 ⟨v, h1, h2, h3⟩
  obtain ⟨a, c, rfl⟩ := (RowAt.own h2).slice
  rw [List.length_map] at h1 h2
  exact ⟨a, c, h1, h2, h3⟩
/-- Decode of a new row, from its beginning. -/
theorem dec_at (l : List UInt8) (y : Int × Nat × Int) (a : Array Value) (n : Nat) (W : World) (T : Tabs W) (hy : dec l = y) (ha : a = (l.map bc).toArray) (hn : n = l.length) (hl : l.length ≤ 8) :
    Calls Tryd.prog 11 #[.slice (some ⟨W.heap.size, 0, none⟩) n n, .int .i64 0] (W.alloc (.cells a 5)) fun e w' => e = .returned (.tuple #[.int .i32 y.1, .int .i64 (y.2.1 : Int), .int .i64 y.2.2]) ∧ Below W.heap.size W w' := by
  refine (decode_any _ l 0 _ (row_new W (l.map bc) a _ n n ha (by rw [List.length_map]; exact hn)) (by omega) (T.alloc _).marks).mono ?_
  rintro e w' ⟨h1, h2⟩
  have : decAt l 0 = y := by rw [show (0 : Int) = ((0 : Nat) : Int) from rfl, decAt_in]; exact hy
  rw [this] at h1
  exact ⟨h1, below_alloc h2⟩
theorem conv_at {w : World} {B n : Nat} {v : Value} {l : List UInt8} (h : w.ownsRow B 5 1 v n (l.map bc)) : (convert 22 9 v).run Tryd.prog w = .ok (.string (str l)) w :=
  conv_own (P := Tryd.prog) Tryd.underlying22 Tryd.underlying5 h 9 Tryd.underlying9

set_option maxRecDepth 100000 in
set_option maxHeartbeats 6400000 in
theorem lawK_any (w : World) (T : Tabs w) : Calls Tryd.prog 9 #[] w fun e w' => e = .returned (.bool true) ∧ Below w.heap.size w w' := by
  have HT : Hid (∀ W, Below w.heap.size w W → Tabs W) := Lib.hid fun W hb => T.below hb
  have d1 : enc 65 = [65] := by decide
  have d2 : enc 233 = [195, 169] := by decide
  have d3 : enc 128512 = [240, 159, 152, 128] := by decide
  have d4 : enc 55296 = [] := by decide
  have d5 : enc 1114112 = [] := by decide
  have d6 : enc (-1) = [] := by decide
  have C1 : Hid (∀ W, Below w.heap.size w W → Calls Tryd.prog 13 #[.int .i32 65] W fun e w1 => ∃ a c, e = .returned (.tuple #[.slice a 1 c, .int .i64 0]) ∧ w1.ownsRow W.heap.size 5 1 (.slice a 1 c) 1 ([65].map bc) ∧ Below W.heap.size W w1) := Lib.hid fun W hb => enc_at 65 [65] 0 1 W (HT.out W hb) d1 (by decide) rfl
  have C2 : Hid (∀ W, Below w.heap.size w W → Calls Tryd.prog 13 #[.int .i32 233] W fun e w1 => ∃ a c, e = .returned (.tuple #[.slice a 2 c, .int .i64 0]) ∧ w1.ownsRow W.heap.size 5 1 (.slice a 2 c) 2 ([195, 169].map bc) ∧ Below W.heap.size W w1) := Lib.hid fun W hb => enc_at 233 [195, 169] 0 2 W (HT.out W hb) d2 (by decide) rfl
  have C3 : Hid (∀ W, Below w.heap.size w W → Calls Tryd.prog 13 #[.int .i32 128512] W fun e w1 => ∃ a c, e = .returned (.tuple #[.slice a 4 c, .int .i64 0]) ∧ w1.ownsRow W.heap.size 5 1 (.slice a 4 c) 4 ([240, 159, 152, 128].map bc) ∧ Below W.heap.size W w1) := Lib.hid fun W hb => enc_at 128512 [240, 159, 152, 128] 0 4 W (HT.out W hb) d3 (by decide) rfl
  have C4 : Hid (∀ W, Below w.heap.size w W → Calls Tryd.prog 13 #[.int .i32 55296] W fun e w1 => ∃ a c, e = .returned (.tuple #[.slice a 0 c, .int .i64 7]) ∧ Below W.heap.size W w1) := Lib.hid fun W hb => (enc_at 55296 [] 7 0 W (HT.out W hb) d4 (by decide) rfl).mono fun _ _ ⟨a, c, h1, _, h3⟩ => ⟨a, c, h1, h3⟩
  have C5 : Hid (∀ W, Below w.heap.size w W → Calls Tryd.prog 13 #[.int .i32 1114112] W fun e w1 => ∃ a c, e = .returned (.tuple #[.slice a 0 c, .int .i64 7]) ∧ Below W.heap.size W w1) := Lib.hid fun W hb => (enc_at 1114112 [] 7 0 W (HT.out W hb) d5 (by decide) rfl).mono fun _ _ ⟨a, c, h1, _, h3⟩ => ⟨a, c, h1, h3⟩
  have C6 : Hid (∀ W, Below w.heap.size w W → Calls Tryd.prog 13 #[.int .i32 (-1)] W fun e w1 => ∃ a c, e = .returned (.tuple #[.slice a 0 c, .int .i64 7]) ∧ Below W.heap.size W w1) := Lib.hid fun W hb => (enc_at (-1) [] 7 0 W (HT.out W hb) d6 (by decide) rfl).mono fun _ _ ⟨a, c, h1, _, h3⟩ => ⟨a, c, h1, h3⟩
  have D : ∀ (W : World), Below w.heap.size w W → ∀ l : List UInt8, l.length ≤ 8 → ∀ a : Array Value, a = (l.map bc).toArray → ∀ n, n = l.length → BytesAt (W.alloc (.cells a 5)) (.slice (some ⟨W.heap.size, 0, none⟩) n n) l := fun W _ l _ a ha n hn =>
    row_new W (l.map bc) a _ n n ha (by rw [List.length_map]; exact hn)
  have CK : Hid (∀ W, Below w.heap.size w W → Calls Tryd.prog 17 #[.slice (some ⟨W.heap.size, 0, none⟩) 4 4] (W.alloc (.cells #[.int .u8 97, .int .u8 195, .int .u8 169, .int .u8 255] 5)) fun e w' => e = .returned (.tuple #[.int .i64 3, .int .i64 6]) ∧ Below W.heap.size W w') := Lib.hid fun W hb => by
    refine (check_any _ [97, 195, 169, 255] _ (D W hb _ (by decide) _ rfl _ rfl) (by decide) ((HT.out W hb).alloc _).marks ((HT.out W hb).alloc _).hm).mono ?_
    rintro e w1 ⟨h1, h2⟩
    have e1 : chkS [97, 195, 169, 255] = (3, 6) := by decide
    unfold chkV at h1; rw [e1] at h1
    exact ⟨h1, below_alloc h2⟩
  have CN : Hid (∀ W, Below w.heap.size w W → Calls Tryd.prog 19 #[.slice (some ⟨W.heap.size, 0, none⟩) 3 3] (W.alloc (.cells #[.int .u8 97, .int .u8 195, .int .u8 169] 5)) fun e w' => e = .returned (.tuple #[.int .i64 2, .int .i64 0]) ∧ Below W.heap.size W w') := Lib.hid fun W hb => by
    refine (count_any _ [97, 195, 169] _ (D W hb _ (by decide) _ rfl _ rfl) (by decide) ((HT.out W hb).alloc _).marks ((HT.out W hb).alloc _).hm).mono ?_
    rintro e w1 ⟨h1, h2⟩
    have e1 : cntS [97, 195, 169] = (2, 0) := by decide
    unfold cntV at h1; rw [e1] at h1
    exact ⟨h1, below_alloc h2⟩
  have CO : Hid (∀ W, Below w.heap.size w W → Calls Tryd.prog 28 #[.slice (some ⟨W.heap.size, 0, none⟩) 3 3, .int .i64 2] (W.alloc (.cells #[.int .u8 97, .int .u8 195, .int .u8 169] 5)) fun e w' => e = .returned (.tuple #[.bool false, .int .i64 0]) ∧ Below W.heap.size W w') := Lib.hid fun W hb => by
    refine (on_any _ [97, 195, 169] 2 _ (D W hb _ (by decide) _ rfl _ rfl) (by decide) ((HT.out W hb).alloc _).marks ((HT.out W hb).alloc _).hm).mono ?_
    rintro e w1 ⟨h1, h2⟩
    have e1 : onS [97, 195, 169] 2 = (false, 0) := by decide
    unfold onV at h1; rw [e1] at h1
    exact ⟨h1, below_alloc h2⟩
  have CB : Hid (∀ W, Below w.heap.size w W → Calls Tryd.prog 30 #[.slice (some ⟨W.heap.size, 0, none⟩) 3 3, .int .i64 2] (W.alloc (.cells #[.int .u8 97, .int .u8 195, .int .u8 169] 5)) fun e w' => e = .returned (.tuple #[.int .i64 1, .int .i64 0]) ∧ Below W.heap.size W w') := Lib.hid fun W hb => by
    refine (back_any _ [97, 195, 169] 2 _ (D W hb _ (by decide) _ rfl _ rfl) (by decide) ((HT.out W hb).alloc _).marks ((HT.out W hb).alloc _).hm).mono ?_
    rintro e w1 ⟨h1, h2⟩
    have e1 : backS [97, 195, 169] 2 = (1, 0) := by decide
    unfold backV at h1; rw [e1] at h1
    exact ⟨h1, below_alloc h2⟩
  have CA : Hid (∀ W, Below w.heap.size w W → Calls Tryd.prog 10 #[] W fun e w' => e = .returned (.bool true) ∧ Below W.heap.size W w') := Lib.hid fun W hb => awake_any W (T.below hb)
  clear T D d1 d2 d3 d4 d5 d6
  go_enter Tryd.func9, Tryd.ntmps9
  go_wp2_with fail
  refine (C1.out w (Below.refl _ _)).mono ?_
  rintro e w1 ⟨a1, c1, rfl, ho1, hb1⟩
  have HO1 := Lib.hid ho1
  clear ho1
  go_wp2_with fail
  refine (C2.out w1 hb1).mono ?_
  rintro e w2 ⟨a2, c2, rfl, ho2, hb2⟩
  have hB2 := hb1.trans (hb2.mono hb1.size)
  have HO1 := Lib.hid (own_below HO1.out hb2)
  have HO2 := Lib.hid ho2
  clear ho2
  go_wp2_with fail
  refine (C3.out w2 hB2).mono ?_
  rintro e w3 ⟨a3, c3, rfl, ho3, hb3⟩
  have hB3 := hB2.trans (hb3.mono hB2.size)
  have HO1 := Lib.hid (own_below HO1.out hb3)
  have HO2 := Lib.hid (own_below HO2.out hb3)
  have HO3 := Lib.hid ho3
  clear ho3
  go_wp2_with fail
  refine (C4.out w3 hB3).mono ?_
  rintro e w4 ⟨a4, c4, rfl, hb4⟩
  have hB4 := hB3.trans (hb4.mono hB3.size)
  have HO1 := Lib.hid (own_below HO1.out hb4)
  have HO2 := Lib.hid (own_below HO2.out hb4)
  have HO3 := Lib.hid (own_below HO3.out hb4)
  go_wp2_with fail
  refine (C5.out w4 hB4).mono ?_
  rintro e w5 ⟨a5, c5, rfl, hb5⟩
  have hB5 := hB4.trans (hb5.mono hB4.size)
  have HO1 := Lib.hid (own_below HO1.out hb5)
  have HO2 := Lib.hid (own_below HO2.out hb5)
  have HO3 := Lib.hid (own_below HO3.out hb5)
  go_wp2_with fail
  refine (C6.out w5 hB5).mono ?_
  rintro e w6 ⟨a6, c6, rfl, hb6⟩
  have hB6 := hB5.trans (hb6.mono hB5.size)
  have hv1 : (convert 22 9 (.slice a1 1 c1)).run Tryd.prog w6 = .ok (.string ⟨#[65]⟩) w6 := conv_at (own_below HO1.out hb6)
  have hv2 : (convert 22 9 (.slice a2 2 c2)).run Tryd.prog w6 = .ok (.string ⟨#[195, 169]⟩) w6 := conv_at (own_below HO2.out hb6)
  have hv3 : (convert 22 9 (.slice a3 4 c3)).run Tryd.prog w6 = .ok (.string ⟨#[240, 159, 152, 128]⟩) w6 := conv_at (own_below HO3.out hb6)
  go_wp2_with fail
  clear hv1 hv2 hv3
  refine (dec_at [169] (0, 0, 6) _ _ w6 (HT.out _ hB6) (by decide) rfl rfl (by decide)).mono ?_
  rintro e w7 ⟨rfl, hb7⟩
  have hB7 := hB6.trans (hb7.mono hB6.size)
  go_wp2_with fail
  refine (dec_at [192, 128] (0, 0, 6) _ _ w7 (HT.out _ hB7) (by decide) rfl rfl (by decide)).mono ?_
  rintro e w8 ⟨rfl, hb8⟩
  have hB8 := hB7.trans (hb8.mono hB7.size)
  go_wp2_with fail
  refine (CK.out w8 hB8).mono ?_
  rintro e w9 ⟨rfl, hb9⟩
  have hB9 := hB8.trans (hb9.mono hB8.size)
  go_wp2_with fail
  refine (CN.out w9 hB9).mono ?_
  rintro e w10 ⟨rfl, hb10⟩
  have hB10 := hB9.trans (hb10.mono hB9.size)
  go_wp2_with fail
  refine (CO.out w10 hB10).mono ?_
  rintro e w11 ⟨rfl, hb11⟩
  have hB11 := hB10.trans (hb11.mono hB10.size)
  go_wp2_with fail
  refine (CB.out w11 hB11).mono ?_
  rintro e w12 ⟨rfl, hb12⟩
  have hB12 := hB11.trans (hb12.mono hB11.size)
  go_wp2_with fail
  refine (CA.out w12 hB12).mono ?_
  rintro e w13 ⟨rfl, hb13⟩
  have hB13 := hB12.trans (hb13.mono hB12.size)
  go_wp2_with fail
  go_ret
  exact ⟨rfl, hB13⟩
end Go.Proofs.YtkpapggojiejdaaDoor
