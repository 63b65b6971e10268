/- The law SpansPairs, walked. -/
import Derived.Test.YtbmcejaheipjjaaDoorPref5
import Derived.Test.YtbmcejaheipjjaaDoorPlawO
namespace Go.Proofs.YtbmcejaheipjjaaDoor
open Go.RowKit Go.PlainAid

theorem both1 (w : World) (c : Array Value) (t : TypeId) (p : Obj) : ((w.alloc (.cells c t)).alloc p).drew.heap[w.heap.size]? = some (.cells c t (0, 0)) := by
  show ((w.alloc (.cells c t)).alloc p).heap[w.heap.size]? = _
  rw [Below.heap_alloc _ _ _ (by simp), World.alloc_heap_new]
theorem both2 (w : World) (c : Array Value) (t : TypeId) (p : Obj) : ((w.alloc p).alloc (.cells c t)).drew.heap[w.heap.size + 1]? = some (.cells c t (0, 0)) := by
  show ((w.alloc p).alloc (.cells c t)).heap[w.heap.size + 1]? = _
  have := World.alloc_heap_new (w.alloc p) (.cells c t)
  rw [World.size_alloc] at this; exact this
theorem both_below {w W : World} (h : Below w.heap.size w W) (p q : Obj) : Below w.heap.size w ((W.alloc p).alloc q).drew := drew_below ((h.alloc h.size p).alloc (by have := h.size; simp; omega) q)

set_option maxRecDepth 100000 in
set_option maxHeartbeats 25600000 in
theorem lawP_small (a : Option Addr) (n c : Nat) (l : List Sp) (m : Int) (w : World) (T : PTabs w) (h : SpsAt w (.slice a n c) l) (hn : n = l.length) (hcap : n ≤ c) (hb : n ≤ 40) :
    Calls Tryd.prog 3 #[.slice a n c, .int .i64 m] w fun e w' => e = .returned (.bool true) ∧ Below w.heap.size w w' := by
  have CA : Hid (∀ W, Below w.heap.size w W → Calls Tryd.prog 12 #[] W fun e w' => e = .returned (.bool true) ∧ Below W.heap.size W w') := Lib.hid fun W hb => awake_any W (T.below hb)
  obtain ⟨x, y, e, hcv⟩ : ∃ x y e, coverS l = ((x, y), e) := ⟨_, _, _, rfl⟩
  have C1 : Hid (Calls Tryd.prog 13 #[.slice a n c] w fun e' w' => e' = .returned (.tuple #[.agg #[.int .i64 x, .int .i64 y], .int .i64 e]) ∧ Below w.heap.size w w') := Lib.hid (by
    have := Cover_any a n c l w h hn hcap (by omega); rw [hcv] at this; exact this)
  have C2 : Hid (∀ W, Below w.heap.size w W → Calls Tryd.prog 14 #[.slice a n c] W fun e' w' => e' = .returned (.tuple #[.agg #[.int .i64 x, .int .i64 y], .int .i64 e]) ∧ Below W.heap.size W w') := Lib.hid fun W hb => by
    have := rCover_any a n c l W (h.below hb (Nat.le_refl _)) hn (by omega); rw [hcv] at this; exact this
  have H := Lib.hid h
  have HN := Lib.hid hn
  have hd1 : decide ((40 : Int) < (n : Int)) = false := decide_eq_false (by omega)
  clear h hn T hcv
  go_enter Tryd.func3, Tryd.ntmps3
  go_wp2_with fail
  refine C1.out.mono ?_
  rintro e w1 ⟨rfl, hb1⟩
  go_wp2_with fail
  refine (C2.out _ (hb1.alloc hb1.size _)).mono ?_
  rintro e' w2 ⟨rfl, hb2⟩
  obtain ⟨x0, x1, hB2⟩ := one_cells _ _ _ _ _ hb2
  have hB2 := hb1.trans (hB2.mono hb1.size)
  have hsx : w1.heap.size < w2.heap.size := by have := hb2.size; simp only [World.size_alloc] at this; omega
  obtain ⟨W3, hW3⟩ : ∃ W3, W3 = w2.alloc (.cells #[.int .i64 x, .int .i64 y] 25) := ⟨_, rfl⟩
  have hB3 : Below w.heap.size w W3 := by subst hW3; exact hB2.alloc hB2.size _
  have y0 : W3.cell? ⟨w1.heap.size, 0, none⟩ = some (.int .i64 x) := by subst hW3; exact (World.cell?_alloc_lt _ _ _ hsx).trans x0
  have y1 : W3.cell? ⟨w1.heap.size, 1, none⟩ = some (.int .i64 y) := by subst hW3; exact (World.cell?_alloc_lt _ _ _ hsx).trans x1
  obtain ⟨z0, z1, _⟩ := one_cells w2 W3 x y 25 (by subst hW3; exact Below.refl _ _)
  rw [hW3] at y0 y1 z0 z1
  go_wp2
  rw [← hW3]
  clear hW3 y0 y1 z0 z1
  go_loopw [9] (fun x9 wr => ∃ k : Nat, x9 = .int .i64 k ∧ k ≤ n ∧ Below w.heap.size w wr) (fun x9 _ => n - (intOf x9).toNat)
  case atStart => exact ⟨0, rfl, Nat.zero_le _, hB3⟩
  case round =>
    obtain ⟨k, rfl, hk, hB⟩ := hrel
    clear C1 C2 hb1 hb2 hB2 hB3
    by_cases hlt : k < n
    · obtain ⟨s, hs⟩ : ∃ s, l[k]? = some s := ⟨_, List.getElem?_eq_getElem (by rw [← HN.out]; exact hlt)⟩
      obtain ⟨q, hq⟩ : ∃ q : Nat, n = k + 1 + q := ⟨n - 1 - k, by omega⟩
      obtain ⟨t, ht⟩ : ∃ t, l[q]? = some t := ⟨_, List.getElem?_eq_getElem (by rw [← HN.out]; omega)⟩
      obtain ⟨aa, ab⟩ := s
      obtain ⟨ba, bb⟩ := t
      rcases H.out.below hB (Nat.le_refl _) with ⟨_, _, _, hnil⟩ | ⟨g, off, cc, hv, hg, hcl⟩
      · rw [hnil] at hs; simp at hs
      · obtain ⟨rfl, hv2, rfl⟩ := Value.slice.inj hv
        have d0 : wr.cell? ⟨g, off + k * 2, none⟩ = some (.int .i64 aa) := hcl _ _ (scs_at l hs).1
        have d1 : wr.cell? ⟨g, off + k * 2 + 1, none⟩ = some (.int .i64 ab) := hcl _ _ (scs_at l hs).2
        have d2 : wr.cell? ⟨g, off + q * 2, none⟩ = some (.int .i64 ba) := hcl _ _ (scs_at l ht).1
        have d3 : wr.cell? ⟨g, off + q * 2 + 1, none⟩ = some (.int .i64 bb) := hcl _ _ (scs_at l ht).2
        obtain ⟨ca, cb, ci, ce, hM⟩ : ∃ ca cb ci ce, meetS (aa, ab) (ba, bb) = ((ca, cb), ci, ce) := ⟨_, _, _, _, rfl⟩
        obtain ⟨wi, we, hW⟩ : ∃ wi we, withinS (aa, ab) (ba, bb) = (wi, we) := ⟨_, _, rfl⟩
        obtain ⟨bi, be, hBf⟩ : ∃ bi be, beforeS (aa, ab) (ba, bb) = (bi, be) := ⟨_, _, rfl⟩
        obtain ⟨ck, hck⟩ : ∃ ck, checkS m (aa, ab) = ck := ⟨_, rfl⟩
        have K1 : Hid (∀ W, Calls Tryd.prog 15 #[.agg #[.int .i64 aa, .int .i64 ab], .agg #[.int .i64 ba, .int .i64 bb]] W fun e w' => e = .returned (.tuple #[.agg #[.int .i64 ca, .int .i64 cb], .bool ci, .int .i64 ce]) ∧ Below W.heap.size W w') := Lib.hid fun W => by
          have := Meet_any aa ab ba bb W; rw [hM] at this; exact this
        have K2 : Hid (∀ W, Calls Tryd.prog 16 #[.agg #[.int .i64 aa, .int .i64 ab], .agg #[.int .i64 ba, .int .i64 bb]] W fun e w' => e = .returned (.tuple #[.agg #[.int .i64 ca, .int .i64 cb], .bool ci, .int .i64 ce]) ∧ Below W.heap.size W w') := Lib.hid fun W => by
          have := rMeet_any aa ab ba bb W; rw [hM] at this; exact this
        have K3 : Hid (∀ W, Calls Tryd.prog 17 #[.agg #[.int .i64 aa, .int .i64 ab], .agg #[.int .i64 ba, .int .i64 bb]] W fun e w' => e = .returned (.tuple #[.bool wi, .int .i64 we]) ∧ Below W.heap.size W w') := Lib.hid fun W => by
          have := Within_any aa ab ba bb W; rw [hW] at this; exact this
        have K4 : Hid (∀ W, Calls Tryd.prog 18 #[.agg #[.int .i64 aa, .int .i64 ab], .agg #[.int .i64 ba, .int .i64 bb]] W fun e w' => e = .returned (.tuple #[.bool wi, .int .i64 we]) ∧ Below W.heap.size W w') := Lib.hid fun W => by
          have := rWithin_any aa ab ba bb W; rw [hW] at this; exact this
        have K5 : Hid (∀ W, Calls Tryd.prog 19 #[.agg #[.int .i64 aa, .int .i64 ab], .agg #[.int .i64 ba, .int .i64 bb]] W fun e w' => e = .returned (.tuple #[.bool bi, .int .i64 be]) ∧ Below W.heap.size W w') := Lib.hid fun W => by
          have := Before_any aa ab ba bb W; rw [hBf] at this; exact this
        have K6 : Hid (∀ W, Calls Tryd.prog 20 #[.agg #[.int .i64 aa, .int .i64 ab], .agg #[.int .i64 ba, .int .i64 bb]] W fun e w' => e = .returned (.tuple #[.bool bi, .int .i64 be]) ∧ Below W.heap.size W w') := Lib.hid fun W => by
          have := rBefore_any aa ab ba bb W; rw [hBf] at this; exact this
        have K7 : Hid (∀ W, Calls Tryd.prog 21 #[.int .i64 m, .agg #[.int .i64 aa, .int .i64 ab]] W fun e w' => e = .returned (.int .i64 ck) ∧ Below W.heap.size W w') := Lib.hid fun W => by
          have := check_spans m aa ab W; rw [hck] at this; exact this
        have K8 : Hid (∀ W, Calls Tryd.prog 22 #[.int .i64 m, .agg #[.int .i64 aa, .int .i64 ab]] W fun e w' => e = .returned (.int .i64 ck) ∧ Below W.heap.size W w') := Lib.hid fun W => by
          have := rcheck_spans m aa ab W; rw [hck] at this; exact this
        have hk0 : (0 : Int) ≤ (k : Int) := Int.natCast_nonneg _
        have hk1 : (k : Int) < (n : Int) := by omega
        have hq0 : (0 : Int) ≤ (q : Int) := Int.natCast_nonneg _
        have hq1 : (q : Int) < (n : Int) := by omega
        have hw1 : (n : Int) - 1 - (k : Int) = (q : Int) := by omega
        clear hcl hv hv2 hs ht hM hW hBf hck hq
        go_upto_region 10 with (fail)
        go_cut [10, 11] (fun s10 s11 wx => ∃ pa pb, s10 = .pointer (some ⟨pa, 0, none⟩) ∧ s11 = .pointer (some ⟨pb, 0, none⟩) ∧ wx.heap[pa]? = some (.cells #[.int .i64 aa, .int .i64 ab] 25 (0, 0)) ∧ wx.heap[pb]? = some (.cells #[.int .i64 ba, .int .i64 bb] 25 (0, 0)) ∧ Below w.heap.size w wx)
        case first =>
          go_region
          all_goals go_wp2
          all_goals go_meet
          all_goals refine ⟨_, _, rfl, rfl, ?_, ?_, ?_⟩
          all_goals first
            | exact both1 _ _ _ _
            | exact both2 _ _ _ _
            | exact both_below hB _ _
        case rest =>
          obtain ⟨pa, pb, rfl, rfl, ha, hb2, hBc⟩ := hcut
          have hla := (Array.getElem?_eq_some_iff.1 ha).1
          have hlb := (Array.getElem?_eq_some_iff.1 hb2).1
          have HX : Hid (∀ W, Below wc.heap.size wc W → W.cell? ⟨pa, 0, none⟩ = some (.int .i64 aa) ∧ W.cell? ⟨pa, 1, none⟩ = some (.int .i64 ab) ∧ W.cell? ⟨pb, 0, none⟩ = some (.int .i64 ba) ∧ W.cell? ⟨pb, 1, none⟩ = some (.int .i64 bb)) := Lib.hid fun W hW => by
            obtain ⟨a0, a1, _, _⟩ := box_facts ((hW.block _ hla).trans ha)
            obtain ⟨b0, b1, _, _⟩ := box_facts ((hW.block _ hlb).trans hb2)
            exact ⟨a0, a1, b0, b1⟩
          clear ha hb2 hla hlb hB
          have hC := Below.refl wc.heap.size wc
          obtain ⟨a0, a1, b0, b1⟩ := HX.out _ hC
          go_wp2_with fail
          refine (K1.out _).mono ?_
          rintro e' w4 ⟨rfl, hb4⟩
          have hC4 := hC.trans (hb4.mono hC.size)
          obtain ⟨a0, a1, b0, b1⟩ := HX.out (w4.alloc (.cells #[.int .i64 ca, .int .i64 cb] 25)) (hC4.alloc hC4.size _)
          go_wp2_with fail
          refine (K2.out _).mono ?_
          rintro e' w5 ⟨rfl, hb5⟩
          obtain ⟨c0, c1, hb45⟩ := one_cells _ _ _ _ _ hb5
          have hC5 := hC4.trans (hb45.mono hC4.size)
          have hs4 : w4.heap.size < w5.heap.size := by have := hb5.size; simp only [World.size_alloc] at this; omega
          have HC1 : Hid (∀ W, Below w5.heap.size w5 W → W.cell? ⟨w4.heap.size, 0, none⟩ = some (.int .i64 ca) ∧ W.cell? ⟨w4.heap.size, 1, none⟩ = some (.int .i64 cb)) := Lib.hid fun W hb => ⟨(hb.cell (p := ⟨w4.heap.size, 0, none⟩) hs4).trans c0, (hb.cell (p := ⟨w4.heap.size, 1, none⟩) hs4).trans c1⟩
          obtain ⟨a0, a1, b0, b1⟩ := HX.out (w5.alloc (.cells #[.int .i64 ca, .int .i64 cb] 25)) (hC5.alloc hC5.size _)
          clear c0 c1
          go_wp2_with fail
          refine (K3.out _).mono ?_
          rintro e' w6 ⟨rfl, hb6⟩
          obtain ⟨d4, d5, hb56⟩ := one_cells _ _ _ _ _ hb6
          have hC6 := hC5.trans (hb56.mono hC5.size)
          have hs5 : w5.heap.size < w6.heap.size := by have := hb6.size; simp only [World.size_alloc] at this; omega
          have HD1 : Hid (∀ W, Below w6.heap.size w6 W → W.cell? ⟨w5.heap.size, 0, none⟩ = some (.int .i64 ca) ∧ W.cell? ⟨w5.heap.size, 1, none⟩ = some (.int .i64 cb)) := Lib.hid fun W hb => ⟨(hb.cell (p := ⟨w5.heap.size, 0, none⟩) hs5).trans d4, (hb.cell (p := ⟨w5.heap.size, 1, none⟩) hs5).trans d5⟩
          obtain ⟨a0, a1, b0, b1⟩ := HX.out _ hC6
          clear d4 d5
          go_wp2_with fail
          refine (K4.out _).mono ?_
          rintro e' w7 ⟨rfl, hb7⟩
          have hC7 := hC6.trans (hb7.mono hC6.size)
          obtain ⟨a0, a1, b0, b1⟩ := HX.out _ hC7
          go_wp2_with fail
          refine (K5.out _).mono ?_
          rintro e' w8 ⟨rfl, hb8⟩
          have hC8 := hC7.trans (hb8.mono hC7.size)
          have h68 := hb7.trans (hb8.mono hb7.size)
          obtain ⟨a0, a1, b0, b1⟩ := HX.out _ hC8
          go_wp2_with fail
          refine (K6.out _).mono ?_
          rintro e' w9 ⟨rfl, hb9⟩
          have hC9 := hC8.trans (hb9.mono hC8.size)
          have h69 := h68.trans (hb9.mono h68.size)
          have h59 := hb56.trans (h69.mono hb56.size)
          obtain ⟨a0, a1, b0, b1⟩ := HX.out _ hC9
          obtain ⟨c0, c1⟩ := HC1.out _ h59
          obtain ⟨e0, e1⟩ := HD1.out _ h69
          have HW9 := Lib.hid (drew_below hC9)
          have HV9 := Lib.hid (drew_below h59)
          have HU9 := Lib.hid (drew_below h69)
          clear hC hC4 hC5 hC6 hC7 hC8 hb4 hb5 hb6 hb7 hb8 hb9 h68
          go_wp2
          go_region_held3 (fun w' => w'.cell? ⟨pa, 0, none⟩ = some (.int .i64 aa) ∧ w'.cell? ⟨pa, 1, none⟩ = some (.int .i64 ab) ∧ w'.cell? ⟨w4.heap.size, 0, none⟩ = some (.int .i64 ca) ∧ w'.cell? ⟨w4.heap.size, 1, none⟩ = some (.int .i64 cb) ∧ w'.cell? ⟨w5.heap.size, 0, none⟩ = some (.int .i64 ca) ∧ w'.cell? ⟨w5.heap.size, 1, none⟩ = some (.int .i64 cb)) (go_keep) (first
            | (go_at_call 21; refine (K7.out _).mono ?_; rintro e' w10 ⟨rfl, hb10⟩; have hC10 := HW9.out.trans (hb10.mono HW9.out.size); have hV10 := HV9.out.trans (hb10.mono HV9.out.size); have hU10 := HU9.out.trans (hb10.mono HU9.out.size); obtain ⟨f0, f1, _, _⟩ := HX.out _ hC10; obtain ⟨f2, f3⟩ := HC1.out _ hV10; obtain ⟨f4, f5⟩ := HD1.out _ hU10)
            | (go_at_call 22; refine (K8.out _).mono ?_; rintro e' w11 ⟨rfl, hb11⟩; have hC11 := hC10.trans (hb11.mono hC10.size); have hV11 := hV10.trans (hb11.mono hV10.size); have hU11 := hU10.trans (hb11.mono hU10.size); obtain ⟨h0, h1, _, _⟩ := HX.out _ hC11; obtain ⟨h2, h3⟩ := HC1.out _ hV11; obtain ⟨h4, h5⟩ := HD1.out _ hU11))
          all_goals go_wp2
          all_goals exact ⟨⟨k + 1, by go_num, by omega, hBc.trans (hC11.mono hBc.size)⟩, by simp [intOf]; omega⟩
    · obtain rfl : k = n := by omega
      go_wp2_with (go_at_call 12; refine (CA.out _ hB).mono ?_; rintro e' w4 ⟨rfl, hb4⟩)
      go_ret
      exact ⟨rfl, hB.trans (hb4.mono hB.size)⟩

theorem lawP_any (v : Value) (l : List Sp) (m : Int) (w : World) (T : PTabs w) (h : SpArg w v l) :
    Calls Tryd.prog 3 #[v, .int .i64 m] w fun e w' => e = .returned (.bool true) ∧ Below w.heap.size w w' := by
  obtain ⟨a, n, c, rfl, hn, hc, h⟩ := h
  by_cases hb : n ≤ 40
  · exact lawP_small a n c l m w T h hn hc hb
  · have hd : decide ((40 : Int) < (n : Int)) = true := decide_eq_true (by omega)
    have CA := Lib.hid (awake_any w T)
    clear T h hn
    go_enter Tryd.func3, Tryd.ntmps3
    go_wp2_with (go_at_call 12; refine CA.out.mono ?_; rintro e w1 ⟨rfl, hb1⟩)
    go_ret
    exact ⟨rfl, hb1⟩
end Go.Proofs.YtbmcejaheipjjaaDoor
