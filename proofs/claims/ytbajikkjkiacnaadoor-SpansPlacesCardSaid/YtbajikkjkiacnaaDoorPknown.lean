/- The reference's Same for spans; the law SpansKnown, walked. -/
import Derived.Test.YtbajikkjkiacnaaDoorPcover
namespace Go.Proofs.YtbajikkjkiacnaaDoor
open Go.RowKit Go.PlainAid

set_option maxHeartbeats 1600000 in
theorem same3_any (v v' : Value) (l : List Sp) (w : World) (h : SpsAt w v l) (h' : SpsAt w v' l) (hl : l.length ≤ 1000000) :
    Calls Tryd.prog 32 #[v, v'] w fun e w' => e = .returned (.bool true) ∧ Below w.heap.size w w' := by
  obtain ⟨a, c, hv⟩ := h.slice
  obtain ⟨a', c', hv'⟩ := h'.slice
  obtain ⟨n, hn⟩ : ∃ n, l.length = n := ⟨_, rfl⟩
  rw [hn] at hv hv'
  subst hv hv'
  have H := Lib.hid h
  have H' := Lib.hid h'
  have HN := Lib.hid hn
  have hnb : n ≤ 1000000 := by omega
  have hne : (((n : Int)) != (n : Int)) = false := by simp
  clear h h' hn hl
  go_enter Tryd.func32, Tryd.ntmps32
  go_wp2
  go_loopw [5] (fun i wr => ∃ k : Nat, k ≤ n ∧ i = .int .i64 k ∧ Below w.heap.size w wr) (fun i _ => n - (intOf i).toNat)
  case atStart => exact ⟨0, Nat.zero_le _, rfl, Below.refl _ _⟩
  case round =>
    obtain ⟨k, hk, rfl, hB⟩ := hrel
    by_cases hlt : k < n
    · obtain ⟨s, hs⟩ : ∃ s, l[k]? = some s := ⟨_, List.getElem?_eq_getElem (by rw [HN.out]; exact hlt)⟩
      obtain ⟨sa, sb⟩ := s
      rcases H.out.below hB (Nat.le_refl _) with ⟨_, _, _, hnil⟩ | ⟨g, off, cc, hv, hg, hcl⟩
      · rw [hnil] at hs; simp at hs
      · rcases H'.out.below hB (Nat.le_refl _) with ⟨_, _, _, hnil⟩ | ⟨g', off', cc', hv', hg', hcl'⟩
        · rw [hnil] at hs; simp at hs
        · obtain ⟨rfl, hv2, rfl⟩ := Value.slice.inj hv
          obtain ⟨rfl, hv3, rfl⟩ := Value.slice.inj hv'
          have d0 : wr.cell? ⟨g, off + k * 2, none⟩ = some (.int .i64 sa) := hcl _ _ (scs_at l hs).1
          have d1 : wr.cell? ⟨g, off + k * 2 + 1, none⟩ = some (.int .i64 sb) := hcl _ _ (scs_at l hs).2
          have d2 : wr.cell? ⟨g', off' + k * 2, none⟩ = some (.int .i64 sa) := hcl' _ _ (scs_at l hs).1
          have d3 : wr.cell? ⟨g', off' + k * 2 + 1, none⟩ = some (.int .i64 sb) := hcl' _ _ (scs_at l hs).2
          have hkm : (k : Int) < (n : Int) := by omega
          have hk0 : (0 : Int) ≤ (k : Int) := Int.natCast_nonneg _
          clear hcl hcl' hv hv' hv2 hv3 hs
          go_wp2
          go_quiet (fail)
          go_wp2
          exact ⟨⟨k + 1, by omega, by go_num, ⟨hB.os, hB.tape, hB.output, hB.size, hB.block⟩⟩, by simp [intOf]; omega⟩
    · obtain rfl : k = n := by omega
      go_wp2
      go_ret
      exact ⟨rfl, hB⟩

theorem cover_c : coverS [(2, 4), (7, 7)] = ((2, 7), 0) := by decide
theorem shift_c1 : shiftS (3, 8) (3, 5) 4 = ((3, 10), 0) := by decide
theorem shift_c2 : shiftS (4, 8) (3, 5) 4 = ((0, 0), 4) := by decide
theorem shift_c3 : shiftS (3, 4) (3, 5) 4 = ((0, 0), 4) := by decide
theorem before_c : beforeS (4, 4) (4, 4) = (false, 0) := by decide
theorem meet_c2 : meetS (2, 4) (4, 9) = ((4, 4), true, 0) := by decide
set_option maxRecDepth 100000 in
theorem place_c2 : placeP txt 5 = (0, 0, 6) := by decide
set_option maxRecDepth 100000 in
theorem at_c2 : atP txt 1 4 = (0, 4) := by decide
set_option maxRecDepth 100000 in
theorem lines_c : linesS txt = ([(0, 2), (3, 7)], 0) := by decide
theorem check_c1 : checkS 5 (2, 5) = 0 := by decide
theorem check_c2 : checkS 5 (2, 6) = 7 := by decide
theorem check_c3 : checkS 5 (3, 2) = 6 := by decide

set_option maxRecDepth 100000 in
set_option maxHeartbeats 6400000 in
theorem lawKn_any (w : World) (T : PTabs w) : Calls Tryd.prog 11 #[] w fun e w' => e = .returned (.bool true) ∧ Below w.heap.size w w' := by
  have C1 : Hid (∀ (W : World) (n : Nat) (t : TypeId), W.heap.size = n → Calls Tryd.prog 13 #[.slice (some ⟨n, 0, none⟩) 2 2] (W.alloc (.cells #[.int .i64 2, .int .i64 4, .int .i64 7, .int .i64 7] t)) fun e w' => e = .returned (.tuple #[.agg #[.int .i64 2, .int .i64 7], .int .i64 0]) ∧ Below W.heap.size W w') := Lib.hid fun W n t hn => by
    subst hn
    have := Cover_any _ 2 2 [(2, 4), (7, 7)] _ (sps_new W _ _ t 2 2 rfl rfl) rfl (by omega) (by omega)
    rw [cover_c] at this
    exact this.mono fun e w1 ⟨h1, h2⟩ => ⟨h1, below_alloc1 h2⟩
  have C2 : Hid (∀ W (a b c d n : Int) x y z, shiftS (a, b) (c, d) n = ((x, y), z) → Calls Tryd.prog 23 #[.agg #[.int .i64 a, .int .i64 b], .agg #[.int .i64 c, .int .i64 d], .int .i64 n] W fun e w' => e = .returned (.tuple #[.agg #[.int .i64 x, .int .i64 y], .int .i64 z]) ∧ Below W.heap.size W w') := Lib.hid fun W a b c d n x y z h => by
    have := Shift_any a b c d n W; rw [h] at this; exact this
  have C3 : Hid (∀ W, Calls Tryd.prog 19 #[.agg #[.int .i64 4, .int .i64 4], .agg #[.int .i64 4, .int .i64 4]] W fun e w' => e = .returned (.tuple #[.bool false, .int .i64 0]) ∧ Below W.heap.size W w') := Lib.hid fun W => by
    have := Before_any 4 4 4 4 W; rw [before_c] at this; exact this
  have C4 : Hid (∀ W, Calls Tryd.prog 15 #[.agg #[.int .i64 2, .int .i64 4], .agg #[.int .i64 4, .int .i64 9]] W fun e w' => e = .returned (.tuple #[.agg #[.int .i64 4, .int .i64 4], .bool true, .int .i64 0]) ∧ Below W.heap.size W w') := Lib.hid fun W => by
    have := Meet_any 2 4 4 9 W; rw [meet_c2] at this; exact this
  have C5 : Hid (∀ W a c, Below w.heap.size w W → BytesAt W (.slice a 7 c) txt → 7 ≤ c → Calls Tryd.prog 33 #[.slice a 7 c, .int .i64 5] W fun e w' => e = .returned (.tuple #[.int .i64 0, .int .i64 0, .int .i64 6]) ∧ Below W.heap.size W w') := Lib.hid fun W a c hb h hc => by
    have := Place_any a 7 c txt 5 W h rfl hc (by decide) (T.below hb).marks (T.below hb).hm; rw [place_c2] at this; exact this
  have C6 : Hid (∀ W a c, Below w.heap.size w W → BytesAt W (.slice a 7 c) txt → 7 ≤ c → Calls Tryd.prog 35 #[.slice a 7 c, .int .i64 1, .int .i64 4] W fun e w' => e = .returned (.tuple #[.int .i64 0, .int .i64 4]) ∧ Below W.heap.size W w') := Lib.hid fun W a c hb h hc => by
    have := At_any a 7 c txt 1 4 W h rfl hc (by decide) (T.below hb).marks (T.below hb).hm; rw [at_c2] at this; exact this
  have C7 : Hid (∀ W a c, Below w.heap.size w W → BytesAt W (.slice a 7 c) txt → Calls Tryd.prog 28 #[.slice a 7 c] W fun e w' => ∃ x cx, e = .returned (.tuple #[.slice x 2 cx, .int .i64 0]) ∧ SpsAt w' (.slice x 2 cx) [(0, 2), (3, 7)] ∧ Below W.heap.size W w') := Lib.hid fun W a c hb h => by
    refine (Lines_any _ txt W h (by decide) (T.below hb).marks (T.below hb).hm).mono ?_
    rintro e w1 ⟨v, h1, h2, h3⟩
    rw [lines_c] at h1 h2
    have h4 := SpsAt.own h2
    obtain ⟨x, cx, rfl⟩ := h4.slice
    exact ⟨x, cx, h1, h4, h3⟩
  have C8 : Hid (∀ (W : World) (n : Nat) (t : TypeId) (a : Option Addr) (c : Nat), W.heap.size = n → SpsAt W (.slice a 2 c) [(0, 2), (3, 7)] → Calls Tryd.prog 32 #[.slice a 2 c, .slice (some ⟨n, 0, none⟩) 2 2] (W.alloc (.cells #[.int .i64 0, .int .i64 2, .int .i64 3, .int .i64 7] t)) fun e w' =>
      e = .returned (.bool true) ∧ Below W.heap.size W w') := Lib.hid fun W n t a c hn hr => by
    subst hn
    exact (same3_any _ _ [(0, 2), (3, 7)] _ (hr.below ((Below.refl _ W).alloc (Nat.le_refl _) _) (Nat.le_refl _)) (sps_new W [(0, 2), (3, 7)] _ _ 2 2 rfl rfl) (by decide)).mono fun e w1 ⟨h1, h2⟩ => ⟨h1, below_alloc1 h2⟩
  have C9 : Hid (∀ W (n a b x : Int), checkS n (a, b) = x → Calls Tryd.prog 21 #[.int .i64 n, .agg #[.int .i64 a, .int .i64 b]] W fun e w' => e = .returned (.int .i64 x) ∧ Below W.heap.size W w') := Lib.hid fun W n a b x h => by
    have := check_spans n a b W; rw [h] at this; exact this
  have CA : Hid (∀ W, Below w.heap.size w W → Calls Tryd.prog 12 #[] W fun e w' => e = .returned (.bool true) ∧ Below W.heap.size W w') := Lib.hid fun W hb => awake_any W (T.below hb)
  clear T
  go_enter Tryd.func11, Tryd.ntmps11
  go_wp2_with fail
  refine (C1.out _ _ _ rfl).mono ?_
  rintro e w1 ⟨rfl, hb1⟩
  go_wp2_with fail
  refine (C2.out _ 3 8 3 5 4 _ _ _ shift_c1).mono ?_
  rintro e w2 ⟨rfl, hb2⟩
  obtain ⟨x0, x1, hB2⟩ := one_cells _ _ _ _ _ hb2
  have hB2 := hb1.trans (hB2.mono hb1.size)
  have hsx : w1.heap.size < w2.heap.size := by have := hb2.size; simp only [World.size_alloc] at this; omega
  have HX : Hid (∀ W, Below w2.heap.size w2 W → W.cell? ⟨w1.heap.size, 0, none⟩ = some (.int .i64 2) ∧ W.cell? ⟨w1.heap.size, 1, none⟩ = some (.int .i64 7)) := Lib.hid fun W hb => ⟨(hb.cell (p := ⟨w1.heap.size, 0, none⟩) hsx).trans x0, (hb.cell (p := ⟨w1.heap.size, 1, none⟩) hsx).trans x1⟩
  clear x0 x1
  go_wp2_with fail
  refine (C2.out _ 4 8 3 5 4 _ _ _ shift_c2).mono ?_
  rintro e w3 ⟨rfl, hb3⟩
  obtain ⟨y0, y1, hW3⟩ := one_cells _ _ _ _ _ hb3
  have hB3 := hB2.trans (hW3.mono hB2.size)
  have hsy : w2.heap.size < w3.heap.size := by have := hb3.size; simp only [World.size_alloc] at this; omega
  have HY : Hid (∀ W, Below w3.heap.size w3 W → W.cell? ⟨w2.heap.size, 0, none⟩ = some (.int .i64 3) ∧ W.cell? ⟨w2.heap.size, 1, none⟩ = some (.int .i64 10)) := Lib.hid fun W hb => ⟨(hb.cell (p := ⟨w2.heap.size, 0, none⟩) hsy).trans y0, (hb.cell (p := ⟨w2.heap.size, 1, none⟩) hsy).trans y1⟩
  clear y0 y1
  go_wp2_with fail
  refine (C2.out _ 3 4 3 5 4 _ _ _ shift_c3).mono ?_
  rintro e w4 ⟨rfl, hb4⟩
  have hb4 := below_alloc1 hb4
  have hB4 := hB3.trans (hb4.mono hB3.size)
  go_wp2_with fail
  refine (C3.out _).mono ?_
  rintro e w5 ⟨rfl, hb5⟩
  have hb5 := below_alloc1 hb5
  have hB5 := hB4.trans (hb5.mono hB4.size)
  have h35 := hb4.trans (hb5.mono hb4.size)
  go_wp2_with fail
  refine (C4.out _).mono ?_
  rintro e w6 ⟨rfl, hb6⟩
  have hB6 := hB5.trans (hb6.mono hB5.size)
  have h36 := h35.trans (hb6.mono h35.size)
  obtain ⟨W7, hW7⟩ : ∃ W7, W7 = w6.alloc (.cells #[.int .i64 4, .int .i64 4] 25) := ⟨_, rfl⟩
  have h67 : Below w6.heap.size w6 W7 := by subst hW7; exact below_a1 _ _
  have h37 := h36.trans (h67.mono h36.size)
  have hB7 := hB6.trans (h67.mono hB6.size)
  obtain ⟨y0, y1⟩ := HY.out W7 h37
  obtain ⟨x0, x1⟩ := HX.out W7 (hW3.trans (h37.mono hW3.size))
  obtain ⟨q0, q1, _⟩ := one_cells w6 W7 4 4 25 (by subst hW7; exact Below.refl _ _)
  rw [hW7] at y0 y1 x0 x1 q0 q1
  go_wp2_with fail
  rw [← hW7]
  refine (text_any W7).mono ?_
  rintro e w8 ⟨ta, tc, rfl, ht8, hc8, hb8⟩
  have hB8 := hB7.trans (hb8.mono hB7.size)
  have HT8 := Lib.hid ht8
  clear ht8 y0 y1 x0 x1 q0 q1
  go_wp2_with fail
  refine (C5.out w8 _ _ hB8 HT8.out hc8).mono ?_
  rintro e w9 ⟨rfl, hb9⟩
  have hB9 := hB8.trans (hb9.mono hB8.size)
  go_wp2_with fail
  refine (text_any w9).mono ?_
  rintro e w10 ⟨ua, uc, rfl, ht10, hc10, hb10⟩
  have hB10 := hB9.trans (hb10.mono hB9.size)
  have HT10 := Lib.hid ht10
  clear ht10
  go_wp2_with fail
  refine (C6.out w10 _ _ hB10 HT10.out hc10).mono ?_
  rintro e w11 ⟨rfl, hb11⟩
  have hB11 := hB10.trans (hb11.mono hB10.size)
  go_wp2_with fail
  refine (text_any w11).mono ?_
  rintro e w12 ⟨va, vc, rfl, ht12, hc12, hb12⟩
  have hB12 := hB11.trans (hb12.mono hB11.size)
  have HT12 := Lib.hid ht12
  clear ht12
  go_wp2_with fail
  refine (C7.out w12 _ _ hB12 HT12.out).mono ?_
  rintro e w13 ⟨xa, xc, rfl, hr13, hb13⟩
  have hB13 := hB12.trans (hb13.mono hB12.size)
  have HR13 := Lib.hid hr13
  clear hr13
  go_wp2_with fail
  refine (C8.out w13 _ _ _ _ rfl HR13.out).mono ?_
  rintro e w14 ⟨rfl, hb14⟩
  have hB14 := hB13.trans (hb14.mono hB13.size)
  go_wp2_with fail
  refine (C9.out _ 5 2 5 _ check_c1).mono ?_
  rintro e w15 ⟨rfl, hb15⟩
  have hB15 := hB14.trans (hb15.mono hB14.size)
  go_wp2_with fail
  refine (C9.out _ 5 2 6 _ check_c2).mono ?_
  rintro e w16 ⟨rfl, hb16⟩
  have hB16 := hB15.trans (hb16.mono hB15.size)
  go_wp2_with fail
  refine (C9.out _ 5 3 2 _ check_c3).mono ?_
  rintro e w17 ⟨rfl, hb17⟩
  have hB17 := hB16.trans (hb17.mono hB16.size)
  go_wp2_with fail
  refine (CA.out _ hB17).mono ?_
  rintro e w18 ⟨rfl, hb18⟩
  go_wp2_with fail
  go_ret
  exact ⟨rfl, hB17.trans (hb18.mono hB17.size)⟩
end Go.Proofs.YtbajikkjkiacnaaDoor
