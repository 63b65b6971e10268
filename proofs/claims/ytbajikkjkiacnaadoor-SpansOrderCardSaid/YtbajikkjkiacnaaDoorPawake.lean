/- Layer 3: what 'awake' returns. -/
import Derived.Test.YtbajikkjkiacnaaDoorPat
namespace Go.Proofs.YtbajikkjkiacnaaDoor
open Go.RowKit Go.PlainAid

/-- The table of layer 2 that layer 3 reads. -/
structure PTabs (w : World) : Prop where
  marks : MarksTab w
  hm : 0 < w.heap.size
theorem PTabs.below {w w' : World} (h : PTabs w) (hb : Below w.heap.size w w') : PTabs w' := ⟨marks_below h.marks hb h.hm, Nat.lt_of_lt_of_le h.hm hb.size⟩
theorem below_alloc1 {W W' : World} {o : Obj} (h : Below (W.alloc o).heap.size (W.alloc o) W') : Below W.heap.size W W' := (below_a1 _ _).trans (h.mono (by simp))

def txt : List UInt8 := [97, 98, 10, 99, 195, 169, 100]
set_option maxRecDepth 50000 in
theorem text_any (w : World) : Calls Tryd.prog 39 #[] w fun e w' => ∃ a c, e = .returned (.slice a 7 c) ∧ BytesAt w' (.slice a 7 c) txt ∧ 7 ≤ c ∧ Below w.heap.size w w' := by
  go_enter Tryd.func39, Tryd.ntmps39
  go_wp2
  go_ret
  exact ⟨_, _, rfl, row_new w (txt.map bc) _ _ 7 7 rfl rfl, by omega, below_a1 _ _⟩

theorem meet_c : meetS (2, 5) (4, 9) = ((4, 5), true, 0) := by decide
theorem shift_c : shiftS (10, 12) (3, 5) 4 = ((12, 14), 0) := by decide
theorem nest_c : nestS [(0, 9), (1, 3), (1, 2), (4, 8)] = ([-1, 0, 1, 0], 0, 0) := by decide
set_option maxRecDepth 100000 in
theorem place_c : placeP txt 6 = (2, 3, 0) := by decide
set_option maxRecDepth 100000 in
theorem at_c : atP txt 2 3 = (6, 0) := by decide

set_option maxRecDepth 100000 in
set_option maxHeartbeats 3200000 in
theorem awake_any (w : World) (T : PTabs w) : Calls Tryd.prog 12 #[] w fun e w' => e = .returned (.bool true) ∧ Below w.heap.size w w' := by
  have C1 : Hid (∀ W, Calls Tryd.prog 15 #[.agg #[.int .i64 2, .int .i64 5], .agg #[.int .i64 4, .int .i64 9]] W fun e w' => e = .returned (.tuple #[.agg #[.int .i64 4, .int .i64 5], .bool true, .int .i64 0]) ∧ Below W.heap.size W w') := Lib.hid fun W => by
    have := Meet_any 2 5 4 9 W; rw [meet_c] at this; exact this
  have C2 : Hid (∀ W, Calls Tryd.prog 23 #[.agg #[.int .i64 10, .int .i64 12], .agg #[.int .i64 3, .int .i64 5], .int .i64 4] W fun e w' => e = .returned (.tuple #[.agg #[.int .i64 12, .int .i64 14], .int .i64 0]) ∧ Below W.heap.size W w') := Lib.hid fun W => by
    have := Shift_any 10 12 3 5 4 W; rw [shift_c] at this; exact this
  have C3 : Hid (∀ (W : World) (n : Nat) (t : TypeId), W.heap.size = n → Calls Tryd.prog 25 #[.slice (some ⟨n, 0, none⟩) 4 4] (W.alloc (.cells #[.int .i64 0, .int .i64 9, .int .i64 1, .int .i64 3, .int .i64 1, .int .i64 2, .int .i64 4, .int .i64 8] t)) fun e w' => ∃ a c, e = .returned (.tuple #[.slice a 4 c, .int .i64 0, .int .i64 0]) ∧ RowAt w' (.slice a 4 c) ([-1, 0, 1, 0].map (Value.int .i64)) ∧ Below W.heap.size W w') := Lib.hid fun W n t hn => by
    subst hn
    refine (nest_any _ [(0, 9), (1, 3), (1, 2), (4, 8)] _ (sps_new W _ _ _ 4 4 rfl rfl) (by simp)).mono ?_
    rintro e w1 ⟨v, h1, h2, h3⟩
    rw [nest_c] at h1 h2
    have h4 := RowAt.own h2
    obtain ⟨a, c, rfl⟩ := h4.slice
    exact ⟨a, c, h1, h4, below_alloc1 h3⟩
  have C4 : Hid (∀ W a c, Below w.heap.size w W → BytesAt W (.slice a 7 c) txt → 7 ≤ c → Calls Tryd.prog 33 #[.slice a 7 c, .int .i64 6] W fun e w' => e = .returned (.tuple #[.int .i64 2, .int .i64 3, .int .i64 0]) ∧ Below W.heap.size W w') := Lib.hid fun W a c hb h hc => by
    have := Place_any a 7 c txt 6 W h rfl hc (by decide) (T.below hb).marks (T.below hb).hm; rw [place_c] at this; exact this
  have C5 : Hid (∀ W a c, Below w.heap.size w W → BytesAt W (.slice a 7 c) txt → 7 ≤ c → Calls Tryd.prog 35 #[.slice a 7 c, .int .i64 2, .int .i64 3] W fun e w' => e = .returned (.tuple #[.int .i64 6, .int .i64 0]) ∧ Below W.heap.size W w') := Lib.hid fun W a c hb h hc => by
    have := At_any a 7 c txt 2 3 W h rfl hc (by decide) (T.below hb).marks (T.below hb).hm; rw [at_c] at this; exact this
  have C6 : Hid (∀ (W : World) (n : Nat) (t : TypeId) (a : Option Addr) (c : Nat), W.heap.size = n → RowAt W (.slice a 4 c) ([-1, 0, 1, 0].map (Value.int .i64)) → Calls Tryd.prog 27 #[.slice a 4 c, .slice (some ⟨n, 0, none⟩) 4 4] (W.alloc (.cells #[.int .i64 (-1), .int .i64 0, .int .i64 1, .int .i64 0] t)) fun e w' =>
      e = .returned (.bool true) ∧ Below W.heap.size W w') := Lib.hid fun W n t a c hn hr => by
    subst hn
    refine (sameints_any _ _ [-1, 0, 1, 0] [-1, 0, 1, 0] _ (hr.below ((Below.refl _ W).alloc (Nat.le_refl _) _) (Nat.le_refl _)) (row_new W ([-1, 0, 1, 0].map (Value.int .i64)) _ _ 4 4 rfl rfl) (by decide)).mono ?_
    rintro e w1 ⟨h1, h2⟩
    exact ⟨h1, below_alloc1 h2⟩
  clear T
  go_enter Tryd.func12, Tryd.ntmps12
  go_wp2_with fail
  refine (C1.out _).mono ?_
  rintro e w1 ⟨rfl, hb1⟩
  go_wp2_with fail
  refine (C2.out _).mono ?_
  rintro e w2 ⟨rfl, hb2⟩
  obtain ⟨x0, x1, hB2⟩ := one_cells _ _ _ _ _ hb2
  have hB2 := hb1.trans (hB2.mono hb1.size)
  have hsx : w1.heap.size < w2.heap.size := by have := hb2.size; simp only [World.size_alloc] at this; omega
  have HX : Hid (∀ W, Below w2.heap.size w2 W → W.cell? ⟨w1.heap.size, 0, none⟩ = some (.int .i64 4) ∧ W.cell? ⟨w1.heap.size, 1, none⟩ = some (.int .i64 5)) := Lib.hid fun W hb => ⟨(hb.cell (p := ⟨w1.heap.size, 0, none⟩) hsx).trans x0, (hb.cell (p := ⟨w1.heap.size, 1, none⟩) hsx).trans x1⟩
  clear x0 x1
  go_wp2_with fail
  refine (C3.out _ _ _ (by simp)).mono ?_
  rintro e w3 ⟨pa, pc, rfl, hr3, hb3⟩
  obtain ⟨y0, y1, hB3⟩ := one_cells _ _ _ _ _ hb3
  have hW3 := hB3
  have hB3 := hB2.trans (hB3.mono hB2.size)
  have hsy : w2.heap.size < w3.heap.size := by have := hb3.size; simp only [World.size_alloc] at this; omega
  have HY : Hid (∀ W, Below w3.heap.size w3 W → W.cell? ⟨w2.heap.size, 0, none⟩ = some (.int .i64 12) ∧ W.cell? ⟨w2.heap.size, 1, none⟩ = some (.int .i64 14)) := Lib.hid fun W hb => ⟨(hb.cell (p := ⟨w2.heap.size, 0, none⟩) hsy).trans y0, (hb.cell (p := ⟨w2.heap.size, 1, none⟩) hsy).trans y1⟩
  have HR3 := Lib.hid hr3
  clear y0 y1 hr3
  go_wp2_with fail
  refine (text_any w3).mono ?_
  rintro e w4 ⟨ta, tc, rfl, ht4, hc4, hb4⟩
  have hB4 := hB3.trans (hb4.mono hB3.size)
  have HT4 := Lib.hid ht4
  clear ht4
  go_wp2_with fail
  refine (C4.out w4 _ _ hB4 HT4.out hc4).mono ?_
  rintro e w5 ⟨rfl, hb5⟩
  have hB5 := hB4.trans (hb5.mono hB4.size)
  have hw5 := hb4.trans (hb5.mono hb4.size)
  go_wp2_with fail
  refine (text_any w5).mono ?_
  rintro e w6 ⟨ua, uc, rfl, ht6, hc6, hb6⟩
  have hB6 := hB5.trans (hb6.mono hB5.size)
  have hw6 := hw5.trans (hb6.mono hw5.size)
  have HT6 := Lib.hid ht6
  clear ht6
  go_wp2_with fail
  refine (C5.out w6 _ _ hB6 HT6.out hc6).mono ?_
  rintro e w7 ⟨rfl, hb7⟩
  have hB7 := hB6.trans (hb7.mono hB6.size)
  have hw7 := hw6.trans (hb7.mono hw6.size)
  obtain ⟨y0, y1⟩ := HY.out w7 hw7
  obtain ⟨x0, x1⟩ := HX.out w7 (hW3.trans (hw7.mono hW3.size))
  have HR7 := Lib.hid (RowAt.below HR3.out hw7 (Nat.le_refl _))
  go_wp2_with fail
  refine (C6.out _ _ _ _ _ rfl HR7.out).mono ?_
  rintro e w8 ⟨rfl, hb8⟩
  go_wp2_with fail
  go_ret
  exact ⟨rfl, hB7.trans (hb8.mono hB7.size)⟩
end Go.Proofs.YtbajikkjkiacnaaDoor
