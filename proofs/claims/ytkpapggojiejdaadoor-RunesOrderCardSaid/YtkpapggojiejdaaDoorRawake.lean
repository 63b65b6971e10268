/- What the laws of layer 2 lean on: the tables; and what 'awake' returns. -/
import Derived.Test.YtkpapggojiejdaaDoorRsame
import Derived.Test.YtkpapggojiejdaaDoorRcls
namespace Go.Proofs.YtkpapggojiejdaaDoor
open Go.RowKit Go.PlainAid

/-- The tables of layer 2. -/
structure Tabs (w : World) : Prop where
  marks : MarksTab w
  members : MembersTab w
  hm : 0 < w.heap.size
  hs : 1 < w.heap.size
theorem Tabs.below {w w' : World} (h : Tabs w) (hb : Below w.heap.size w w') : Tabs w' :=
  ⟨marks_below h.marks hb h.hm, members_below h.members hb h.hs, Nat.lt_of_lt_of_le h.hm hb.size, Nat.lt_of_lt_of_le h.hs hb.size⟩
theorem Tabs.alloc {w : World} (h : Tabs w) (o : Obj) : Tabs (w.alloc o) := h.below ((Below.refl _ _).alloc (Nat.le_refl _) o)

/-- A new row of one-cell elements. -/
theorem row_new (W : World) (cs : List Value) (a : Array Value) (t : TypeId) (n cap : Nat) (ha : a = cs.toArray) (hn : n = cs.length) : RowAt (W.alloc (.cells a t)) (.slice (some ⟨W.heap.size, 0, none⟩) n cap) cs := by
  subst ha hn
  refine .inr ⟨_, 0, _, cap, rfl, rfl, by simp, fun j u h => ?_⟩
  rw [Nat.zero_add, World.cell?_alloc_new, List.getElem?_toArray, h]
theorem below_alloc {W W' : World} {o : Obj} (h : Below (W.alloc o).heap.size (W.alloc o) W') : Below W.heap.size W W' :=
  ((Below.refl _ W).alloc (Nat.le_refl _) o).trans (h.mono (by simp))

set_option maxRecDepth 100000 in
set_option maxHeartbeats 3200000 in
theorem awake_any (w : World) (T : Tabs w) : Calls Tryd.prog 10 #[] w fun e w' => e = .returned (.bool true) ∧ Below w.heap.size w w' := by
  have C1 : Hid (Calls Tryd.prog 13 #[.int .i32 8364] w fun e w1 => ∃ a c, e = .returned (.tuple #[.slice a 3 c, .int .i64 0]) ∧ w1.ownsRow w.heap.size 5 1 (.slice a 3 c) 3 ([226, 130, 172].map bc) ∧ Below w.heap.size w w1) := Lib.hid (by
    refine (encode_any 8364 w T.marks T.hm).mono ?_
    rintro e w1 ⟨v, h1, h2, h3⟩
    have e1 : enc 8364 = [226, 130, 172] := by decide
    have e2 : isR 8364 = true := by decide
    rw [e1] at h2
    rw [e2] at h1
    obtain ⟨a, c, rfl⟩ := (RowAt.own h2).slice
    exact ⟨a, c, h1, h2, h3⟩)
  have CD : Hid (∀ (l : List UInt8) (y : Int × Nat × Int) (a : Array Value) (n : Nat) (W : World), dec l = y → a = (l.map bc).toArray → n = l.length → l.length ≤ 3 → Below w.heap.size w W →
      Calls Tryd.prog 11 #[.slice (some ⟨W.heap.size, 0, none⟩) n n, .int .i64 0] (W.alloc (.cells a 5)) fun e w' => e = .returned (.tuple #[.int .i32 y.1, .int .i64 (y.2.1 : Int), .int .i64 y.2.2]) ∧ Below W.heap.size W w') := Lib.hid (by
    rintro l y a n W hy ha hn hl hb
    refine (decode_any _ l 0 _ (row_new W (l.map bc) a _ n n ha (by rw [List.length_map]; exact hn)) (by omega) ((T.below hb).alloc _).marks).mono ?_
    rintro e w' ⟨h1, h2⟩
    have : decAt l 0 = y := by rw [show (0 : Int) = ((0 : Nat) : Int) from rfl, decAt_in]; exact hy
    rw [this] at h1
    exact ⟨h1, below_alloc h2⟩)
  have CS : Hid (∀ (W : World), Below w.heap.size w W → Calls Tryd.prog 26 #[.slice (some ⟨W.heap.size, 0, none⟩) 3 3] (W.alloc (.cells #[.int .u8 97, .int .u8 195, .int .u8 169] 5)) fun e w' =>
      ∃ a c, e = .returned (.tuple #[.slice a 3 c, .int .i64 0]) ∧ RowAt w' (.slice a 3 c) ([0, 1, 3].map (Value.int .i64)) ∧ Below W.heap.size W w') := Lib.hid (by
    intro W hb
    refine (starts_any _ [97, 195, 169] _ (row_new W ([97, 195, 169].map bc) _ _ 3 3 rfl rfl) (by decide) ((T.below hb).alloc _).marks ((T.below hb).alloc _).hm).mono ?_
    rintro e w1 ⟨v, h1, h2, h3⟩
    have e1 : startsS [97, 195, 169] = ([0, 1, 3], 0) := by decide
    rw [e1] at h1 h2
    have h4 := RowAt.own h2
    obtain ⟨a, c, rfl⟩ := h4.slice
    exact ⟨a, c, h1, h4, below_alloc h3⟩)
  have CC : Hid (∀ (W : World), Below w.heap.size w W → Calls Tryd.prog 15 #[.int .i32 91] W fun e w' => e = .returned (.tuple #[.int .i64 2, .int .i64 0]) ∧ W = w') := Lib.hid (by
    intro W hb
    have := class_any 91 W (T.below hb).members
    have e1 : clsV 91 = .tuple #[.int .i64 2, .int .i64 0] := by
      have h1 : clsS 91 = 2 := by decide
      have h2 : isR 91 = true := by decide
      unfold clsV; rw [h1, h2]; rfl
    rw [e1] at this; exact this)
  have CI : Hid (∀ (W : World) (a : Option Addr) (c : Nat), Below w.heap.size w W → RowAt W (.slice a 3 c) ([0, 1, 3].map (Value.int .i64)) → Calls Tryd.prog 32 #[.slice a 3 c, .slice (some ⟨W.heap.size, 0, none⟩) 3 3] (W.alloc (.cells #[.int .i64 0, .int .i64 1, .int .i64 3] 3)) fun e w' =>
      e = .returned (.bool true) ∧ Below W.heap.size W w') := Lib.hid (by
    intro W a c hb hr
    refine (sameints_any _ _ [0, 1, 3] [0, 1, 3] _ (hr.below ((Below.refl _ W).alloc (Nat.le_refl _) _) (Nat.le_refl _)) (row_new W ([0, 1, 3].map (Value.int .i64)) _ _ 3 3 rfl rfl) (by decide)).mono ?_
    rintro e w1 ⟨h1, h2⟩
    exact ⟨h1, below_alloc h2⟩)
  clear T
  go_enter Tryd.func10, Tryd.ntmps10
  go_wp2_with fail
  refine C1.out.mono ?_
  rintro e w1 ⟨a1, c1, rfl, ho1, hb1⟩
  have HO1 := Lib.hid ho1
  clear ho1
  go_wp2_with fail
  refine (CD.out [195, 169, 0] (233, 2, 0) _ _ _ (by decide) rfl rfl (by decide) hb1).mono ?_
  rintro e w2 ⟨rfl, hb2⟩
  have hB2 := hb1.trans (hb2.mono hb1.size)
  have HO2 := Lib.hid (own_below HO1.out hb2)
  clear HO1
  go_wp2_with fail
  refine (CD.out [195] (0, 0, 320) _ _ _ (by decide) rfl rfl (by decide) hB2).mono ?_
  rintro e w3 ⟨rfl, hb3⟩
  have hB3 := hB2.trans (hb3.mono hB2.size)
  have HO3 := Lib.hid (own_below HO2.out hb3)
  clear HO2
  go_wp2_with fail
  refine (CD.out [237, 160, 128] (0, 0, 6) _ _ _ (by decide) rfl rfl (by decide) hB3).mono ?_
  rintro e w4 ⟨rfl, hb4⟩
  have hB4 := hB3.trans (hb4.mono hB3.size)
  have HO4 := Lib.hid (own_below HO3.out hb4)
  clear HO3
  go_wp2_with fail
  refine (CS.out w4 hB4).mono ?_
  rintro e w5 ⟨a2, c2, rfl, hr5, hb5⟩
  have hB5 := hB4.trans (hb5.mono hB4.size)
  have HO5 := own_below HO4.out hb5
  have HR5 := Lib.hid hr5
  have hcv : (convert 22 9 (.slice a1 3 c1)).run Tryd.prog w5 = .ok (.string ⟨#[226, 130, 172]⟩) w5 := conv_own (P := Tryd.prog) Tryd.underlying22 Tryd.underlying5 HO5 9 Tryd.underlying9
  clear HO4 hr5 HO5
  go_wp2_with fail
  refine (CC.out w5 hB5).mono ?_
  rintro e w6 ⟨rfl, rfl⟩
  go_wp2_with fail
  refine (CI.out w5 _ _ hB5 HR5.out).mono ?_
  rintro e w7 ⟨rfl, hb7⟩
  have hB7 := hB5.trans (hb7.mono hB5.size)
  go_wp2_with fail
  go_ret
  exact ⟨rfl, hB7⟩
end Go.Proofs.YtkpapggojiejdaaDoor
