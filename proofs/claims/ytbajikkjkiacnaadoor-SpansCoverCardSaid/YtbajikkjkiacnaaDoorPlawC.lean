/- The law SpansCover, walked. -/
import Derived.Test.YtbajikkjkiacnaaDoorPbox
import Derived.Test.YtbajikkjkiacnaaDoorPmc
namespace Go.Proofs.YtbajikkjkiacnaaDoor
open Go.RowKit Go.PlainAid

set_option maxRecDepth 100000 in
set_option maxHeartbeats 6400000 in
theorem lawC_err (a : Option Addr) (n c : Nat) (l : List Sp) (xa xb e0 : Int) (w : World) (T : PTabs w) (h : SpsAt w (.slice a n c) l) (hn : n = l.length) (hcap : n ≤ c) (hb : n ≤ 40) (hx : okS (xa, xb) = true) (hcv : coverS l = ((0, 0), e0)) (he : e0 ≠ 0) :
    Calls Tryd.prog 7 #[.slice a n c, .agg #[.int .i64 xa, .int .i64 xb]] w fun e w' => e = .returned (.bool true) ∧ Below w.heap.size w w' := by
  have CA : Hid (∀ W, Below w.heap.size w W → Calls Tryd.prog 12 #[] W fun e w' => e = .returned (.bool true) ∧ Below W.heap.size W w') := Lib.hid fun W hb => awake_any W (T.below hb)
  obtain ⟨W0, hW0⟩ : ∃ W0, W0 = w.alloc (.cells #[.int .i64 xa, .int .i64 xb] 25) := ⟨_, rfl⟩
  have hw0 : Below w.heap.size w W0 := by subst hW0; exact below_a1 _ _
  have C1 : Hid (∀ W, Below w.heap.size w W → Calls Tryd.prog 13 #[.slice a n c] W fun e' w' => e' = .returned (.tuple #[.agg #[.int .i64 0, .int .i64 0], .int .i64 e0]) ∧ Below W.heap.size W w') := Lib.hid fun W hb => by
    have := Cover_any a n c l W (h.below hb (Nat.le_refl _)) hn hcap (by omega); rw [hcv] at this; exact this
  have hd1 : decide ((40 : Int) < (n : Int)) = false := decide_eq_false (by omega)
  have hne : (e0 != 0) = true := by rw [bne_iff_ne]; exact he
  clear T h hn hcv he hcap hb
  go_enter Tryd.func7, Tryd.ntmps7
  go_wp2_with (first
    | (go_at_call 37; rw [← hW0]; refine (lvalid_any _ _ _).mono ?_; rintro e w1 ⟨rfl, hb1⟩; rw [hx]; have hB := hw0.trans (hb1.mono hw0.size))
    | (go_at_call 13; refine (C1.out _ hB).mono ?_; rintro e w2 ⟨rfl, hb2⟩; have hB2 := hB.trans (hb2.mono hB.size); have hB3 := hB2.alloc hB2.size (.cells #[.int .i64 0, .int .i64 0] 25))
    | (go_at_call 12; refine (CA.out _ hB3).mono ?_; rintro e w3 ⟨rfl, hb3⟩))
  go_ret
  exact ⟨rfl, hB3.trans (hb3.mono hB3.size)⟩
set_option maxRecDepth 100000 in
set_option maxHeartbeats 25600000 in
theorem lawC_ok (a : Option Addr) (n c : Nat) (l : List Sp) (xa xb ca cb : Int) (w : World) (T : PTabs w) (h : SpsAt w (.slice a n c) l) (hn : n = l.length) (hcap : n ≤ c) (hb : n ≤ 40) (hx : okS (xa, xb) = true) (hcv : coverS l = ((ca, cb), 0)) (hco : okS (ca, cb) = true)
    (hin : ∀ (j : Nat) s, l[j]? = some s → okS s = true ∧ wiS s (ca, cb) = true) (hall : wiS (ca, cb) (xa, xb) = allS l (xa, xb) n) :
    Calls Tryd.prog 7 #[.slice a n c, .agg #[.int .i64 xa, .int .i64 xb]] w fun e w' => e = .returned (.bool true) ∧ Below w.heap.size w w' := by
  have CA : Hid (∀ W, Below w.heap.size w W → Calls Tryd.prog 12 #[] W fun e w' => e = .returned (.bool true) ∧ Below W.heap.size W w') := Lib.hid fun W hb => awake_any W (T.below hb)
  obtain ⟨W0, hW0⟩ : ∃ W0, W0 = w.alloc (.cells #[.int .i64 xa, .int .i64 xb] 25) := ⟨_, rfl⟩
  have hw0 : Below w.heap.size w W0 := by subst hW0; exact below_a1 _ _
  have hz0 : W0.heap[w.heap.size]? = some (.cells #[.int .i64 xa, .int .i64 xb] 25 (0, 0)) := by subst hW0; exact World.alloc_heap_new _ _
  have hs0 : w.heap.size < W0.heap.size := (Array.getElem?_eq_some_iff.1 hz0).1
  have C1 : Hid (∀ W, Below w.heap.size w W → Calls Tryd.prog 13 #[.slice a n c] W fun e' w' => e' = .returned (.tuple #[.agg #[.int .i64 ca, .int .i64 cb], .int .i64 0]) ∧ Below W.heap.size W w') := Lib.hid fun W hb => by
    have := Cover_any a n c l W (h.below hb (Nat.le_refl _)) hn hcap (by omega); rw [hcv] at this; exact this
  have CW : Hid (∀ p q r s o, okS (p, q) = true → okS (r, s) = true → wiS (p, q) (r, s) = o → ∀ W, Calls Tryd.prog 17 #[.agg #[.int .i64 p, .int .i64 q], .agg #[.int .i64 r, .int .i64 s]] W fun e w' => e = .returned (.tuple #[.bool o, .int .i64 0]) ∧ Below W.heap.size W w') := Lib.hid fun p q r s o k1 k2 k3 W => by
    have := Within_any p q r s W
    unfold withinS at this; rw [k1, k2, if_neg (by simp), k3] at this; exact this
  have H := Lib.hid h
  have HN := Lib.hid hn
  have HI := Lib.hid hin
  have HA := Lib.hid hall
  have HX0 := Lib.hid hx
  have KE := Lib.hid (CW.out ca cb xa xb _ hco hx hall)
  have hd1 : decide ((40 : Int) < (n : Int)) = false := decide_eq_false (by omega)
  clear T h hn hcv hcap hin hall
  go_enter Tryd.func7, Tryd.ntmps7
  go_upto_region 3 with (first
    | (go_at_call 37; rw [← hW0]; refine (lvalid_any _ _ _).mono ?_; rintro e w1 ⟨rfl, hb1⟩; rw [hx]; have hB := hw0.trans (hb1.mono hw0.size)))
  clear hx
  go_wp2_with fail
  refine (C1.out _ hB).mono ?_
  rintro e w2 ⟨rfl, hb2⟩
  have hB2 := hB.trans (hb2.mono hB.size)
  have hs2 : w.heap.size < w2.heap.size := Nat.lt_of_lt_of_le hs0 (Nat.le_trans hb1.size hb2.size)
  have hz2 : w2.heap[w.heap.size]? = some (.cells #[.int .i64 xa, .int .i64 xb] 25 (0, 0)) := (hb2.block _ (Nat.lt_of_lt_of_le hs0 hb1.size)).trans ((hb1.block _ hs0).trans hz0)
  obtain ⟨W1, hW1⟩ : ∃ W1, W1 = w2.alloc (.cells #[.int .i64 ca, .int .i64 cb] 25) := ⟨_, rfl⟩
  have HX : Hid (∀ W, Below W1.heap.size W1 W → W.cell? ⟨w.heap.size, 0, none⟩ = some (.int .i64 xa) ∧ W.cell? ⟨w.heap.size, 1, none⟩ = some (.int .i64 xb) ∧ W.cell? ⟨w2.heap.size, 0, none⟩ = some (.int .i64 ca) ∧ W.cell? ⟨w2.heap.size, 1, none⟩ = some (.int .i64 cb) ∧ Below w.heap.size w W) := Lib.hid fun W hW => by
    subst hW1
    have e1 := hW.block w.heap.size (by simp only [World.size_alloc]; omega)
    rw [Below.heap_alloc _ _ _ hs2, hz2] at e1
    have e2 := hW.block w2.heap.size (by simp only [World.size_alloc]; omega)
    rw [World.alloc_heap_new] at e2
    obtain ⟨a0, a1, _, _⟩ := box_facts e1
    obtain ⟨b0, b1, _, _⟩ := box_facts e2
    exact ⟨a0, a1, b0, b1, (hB2.alloc hB2.size _).trans (hW.mono (by simp only [World.size_alloc]; omega))⟩
  have hp1 : w.heap.size < W1.heap.size := by subst hW1; simp only [World.size_alloc]; omega
  have hp2 : w2.heap.size < W1.heap.size := by subst hW1; simp only [World.size_alloc]; omega
  go_wp2_with fail
  rw [← hW1]
  clear hW1 hz0 hz2 hb1 hb2 hB hB2 hw0 hW0 hs0 hs2
  obtain ⟨pc, hpc⟩ : ∃ pc, w2.heap.size = pc := ⟨_, rfl⟩
  rw [hpc] at HX hp2 ⊢
  go_loopw [7, 8] (fun x7 x8 wr => ∃ (k : Nat) (al : Bool), x7 = .bool al ∧ x8 = .int .i64 k ∧ Hid (al = allS l (xa, xb) k) ∧ k ≤ n ∧ Below W1.heap.size W1 wr) (fun _ x8 _ => n - (intOf x8).toNat)
  case atStart => exact ⟨0, true, rfl, rfl, Lib.hid rfl, Nat.zero_le _, Below.refl _ _⟩
  case round =>
    obtain ⟨k, al, rfl, rfl, HAL, hk, hB⟩ := hrel
    by_cases hlt : k < n
    · obtain ⟨s, hs⟩ : ∃ s, l[k]? = some s := ⟨_, List.getElem?_eq_getElem (by rw [← HN.out]; exact hlt)⟩
      obtain ⟨sa, sb⟩ := s
      have hso := (HI.out k _ hs).1
      obtain ⟨u, hu⟩ : ∃ u, wiS (sa, sb) (xa, xb) = u := ⟨_, rfl⟩
      obtain ⟨ma, mb, fd, hmt, hmf, hmk⟩ := meet_facts hso HX0.out
      have KM : Hid (∀ W, Calls Tryd.prog 15 #[.agg #[.int .i64 sa, .int .i64 sb], .agg #[.int .i64 xa, .int .i64 xb]] W fun e w' => e = .returned (.tuple #[.agg #[.int .i64 ma, .int .i64 mb], .bool fd, .int .i64 0]) ∧ Below W.heap.size W w') := Lib.hid fun W => by
        have := Meet_any sa sb xa xb W; rw [hmt] at this; exact this
      have K1 := Lib.hid (CW.out sa sb ca cb true hso hco (HI.out k _ hs).2)
      have K2 := Lib.hid (CW.out sa sb xa xb u hso HX0.out hu)
      have HMF := Lib.hid hmf
      have HMK := Lib.hid hmk
      have HSO := Lib.hid hso
      have HAL2 : Hid ((al && u) = allS l (xa, xb) (k + 1)) := Lib.hid (by rw [allS_succ, ← HAL.out, gs_at hs, hu])
      obtain ⟨_, _, _, _, hBw⟩ := HX.out _ hB
      rcases H.out with ⟨_, _, _, hnil⟩ | ⟨g, off, cc, hv, hg, hcl⟩
      · rw [hnil] at hs; simp at hs
      · obtain ⟨rfl, hv2, rfl⟩ := Value.slice.inj hv
        have HG : Hid (∀ (j : Nat) ta tb, l[j]? = some (ta, tb) → ∀ W, Below w.heap.size w W → W.cell? ⟨g, off + j * 2, none⟩ = some (.int .i64 ta) ∧ W.cell? ⟨g, off + j * 2 + 1, none⟩ = some (.int .i64 tb)) := Lib.hid fun j ta tb hj W hW =>
          ⟨(hW.cell (p := ⟨g, off + j * 2, none⟩) hg).trans (hcl _ _ (scs_at l hj).1), (hW.cell (p := ⟨g, off + j * 2 + 1, none⟩) hg).trans (hcl _ _ (scs_at l hj).2)⟩
        have HY : Hid (∀ W, Below W1.heap.size W1 W → W.cell? ⟨g, off + k * 2, none⟩ = some (.int .i64 sa) ∧ W.cell? ⟨g, off + k * 2 + 1, none⟩ = some (.int .i64 sb) ∧ W.cell? ⟨w.heap.size, 0, none⟩ = some (.int .i64 xa) ∧ W.cell? ⟨w.heap.size, 1, none⟩ = some (.int .i64 xb) ∧ W.cell? ⟨pc, 0, none⟩ = some (.int .i64 ca) ∧ W.cell? ⟨pc, 1, none⟩ = some (.int .i64 cb)) := Lib.hid fun W hW => by
          obtain ⟨b0, b1, b2, b3, b4⟩ := HX.out _ hW
          obtain ⟨b5, b6⟩ := HG.out k sa sb hs W b4
          exact ⟨b5, b6, b0, b1, b2, b3⟩
        obtain ⟨x0, x1, x2, x3, x4, x5⟩ := HY.out _ hB
        have hk0 : (0 : Int) ≤ (k : Int) := Int.natCast_nonneg _
        have hk1 : (k : Int) < (n : Int) := by omega
        have hg0 : g < W1.heap.size := by omega
        have HWD := Lib.hid (drewB hB)
        clear hcl hv hv2 hs hmt hmf hmk hso hu hBw
        go_wp2
        go_region_held3 (fun w' => w'.cell? ⟨g, off + k * 2, none⟩ = some (.int .i64 sa) ∧ w'.cell? ⟨g, off + k * 2 + 1, none⟩ = some (.int .i64 sb) ∧ w'.cell? ⟨w.heap.size, 0, none⟩ = some (.int .i64 xa) ∧ w'.cell? ⟨w.heap.size, 1, none⟩ = some (.int .i64 xb) ∧ w'.cell? ⟨pc, 0, none⟩ = some (.int .i64 ca) ∧ w'.cell? ⟨pc, 1, none⟩ = some (.int .i64 cb)) (go_keep) (first | (go_at_call 17; refine (K1.out _).mono ?_; rintro e w3 ⟨rfl, hb3⟩; have hC3 := HWD.out.trans (hb3.mono HWD.out.size); obtain ⟨y0, y1, y2, y3, y4, y5⟩ := HY.out _ hC3))
        go_wp2
        have HWE := Lib.hid (drewB hC3)
        go_region_held3 (fun w' => w'.cell? ⟨g, off + k * 2, none⟩ = some (.int .i64 sa) ∧ w'.cell? ⟨g, off + k * 2 + 1, none⟩ = some (.int .i64 sb) ∧ w'.cell? ⟨w.heap.size, 0, none⟩ = some (.int .i64 xa) ∧ w'.cell? ⟨w.heap.size, 1, none⟩ = some (.int .i64 xb) ∧ w'.cell? ⟨pc, 0, none⟩ = some (.int .i64 ca) ∧ w'.cell? ⟨pc, 1, none⟩ = some (.int .i64 cb)) (go_keep) (first | (go_at_call 17; refine (K2.out _).mono ?_; rintro e w4 ⟨rfl, hb4⟩; have hC4 := HWE.out.trans (hb4.mono HWE.out.size); obtain ⟨z0, z1, z2, z3, z4, z5⟩ := HY.out _ hC4))
        go_upto_region 14 with (fail)
        go_cut [7] (fun s7 wx => s7 = .bool (al && u) ∧ Below W1.heap.size W1 wx)
        case first =>
          cases al <;> (go_wp2; go_meet; exact ⟨rfl, hC4⟩)
        case rest =>
          obtain ⟨rfl, hC5⟩ := hcut
          obtain ⟨wd, hwd⟩ : ∃ x, x = wc := ⟨_, rfl⟩
          subst hwd
          obtain ⟨x0, x1, x2, x3, x4, x5⟩ := HY.out _ hC5
          go_upto_region 15 with (fail)
          go_cut [13, 14, 15] (fun s13 s14 s15 wx => ∃ pm, s13 = .pointer (some ⟨pm, 0, none⟩) ∧ s14 = .bool fd ∧ s15 = .int .i64 0 ∧ W1.heap.size ≤ pm ∧ wx.heap[pm]? = some (.cells #[.int .i64 ma, .int .i64 mb] 25 (0, 0)) ∧ Below W1.heap.size W1 wx)
          case first =>
            have hsz := hC5.size
            have hq1 : wd.heap.size ≠ g := by omega
            have hq2 : wd.heap.size ≠ w.heap.size := by omega
            have HW1 := Lib.hid (drewB hC5)
            have HW2 := Lib.hid (drewB (hC5.alloc hC5.size (.cells #[.int .i64 0, .int .i64 0] 25)))
            have HW3 : Hid (∀ W, Below (wd.alloc (.cells #[.int .i64 0, .int .i64 0] 25)).drew.heap.size (wd.alloc (.cells #[.int .i64 0, .int .i64 0] 25)).drew W → W.heap[wd.heap.size]? = some (.cells #[.int .i64 0, .int .i64 0] 25 (0, 0))) := Lib.hid fun W hW => (hW.block _ (by show wd.heap.size < (wd.alloc _).heap.size; simp)).trans (World.alloc_heap_new _ _)
            go_region_held3 (fun w' => w'.cell? ⟨g, off + k * 2, none⟩ = some (.int .i64 sa) ∧ w'.cell? ⟨g, off + k * 2 + 1, none⟩ = some (.int .i64 sb) ∧ w'.cell? ⟨w.heap.size, 0, none⟩ = some (.int .i64 xa) ∧ w'.cell? ⟨w.heap.size, 1, none⟩ = some (.int .i64 xb)) (go_keep) (first
              | (go_at_call 15; refine (KM.out _).mono ?_; rintro e w5 ⟨rfl, hb5⟩; first
                | (have hb5B := HW1.out.trans (hb5.mono HW1.out.size); obtain ⟨y0, y1, y2, y3, y4, y5⟩ := HY.out _ hb5B; have hq3 : w5.heap.size ≠ g := World.new_ne _ _ y0; have hq4 : w5.heap.size ≠ w.heap.size := World.new_ne _ _ y2)
                | (have hb5B := HW2.out.trans (hb5.mono HW2.out.size); obtain ⟨y0, y1, y2, y3, y4, y5⟩ := HY.out _ hb5B; have hz5 := HW3.out _ hb5; obtain ⟨r0, r1, r2, r3⟩ := box_facts hz5)))
            all_goals go_wp2
            all_goals go_meet
            all_goals first
              | exact ⟨wd.heap.size, rfl, rfl, rfl, hsz, set_both _ _ hz5, set_two hb5B hsz⟩
              | exact ⟨w5.heap.size, rfl, rfl, rfl, hb5B.size, World.alloc_heap_new _ _, hb5B.alloc hb5B.size _⟩
          case rest =>
            obtain ⟨pm, rfl, rfl, rfl, hm1, hm2, hC6⟩ := hcut
            clear hC5
            obtain ⟨we, hwe⟩ : ∃ x, x = wc := ⟨_, rfl⟩
            subst hwe
            have hml : pm < we.heap.size := (Array.getElem?_eq_some_iff.1 hm2).1
            have HZ : Hid (∀ W, Below we.heap.size we W → W.cell? ⟨pm, 0, none⟩ = some (.int .i64 ma) ∧ W.cell? ⟨pm, 1, none⟩ = some (.int .i64 mb) ∧ Below W1.heap.size W1 W) := Lib.hid fun W hW => by
              obtain ⟨b0, b1, _, _⟩ := box_facts ((hW.block _ hml).trans hm2)
              exact ⟨b0, b1, hC6.trans (hW.mono hC6.size)⟩
            have hE := Below.refl we.heap.size we
            obtain ⟨m0, m1, hC⟩ := HZ.out _ hE
            obtain ⟨x0, x1, x2, x3, x4, x5⟩ := HY.out _ hC
            go_upto_if 99 with (fail)
            go_cut [] (fun wx => Below we.heap.size we wx)
            case first =>
              cases fd with
              | false =>
                go_wp2
                go_meet
                exact hE
              | true =>
                obtain ⟨q1, q2, q3⟩ := HMF.out rfl
                have K3 := Lib.hid (CW.out ma mb sa sb true q1 HSO.out q2)
                have K4 := Lib.hid (CW.out ma mb xa xb true q1 HX0.out q3)
                have HWF := Lib.hid (drewB hE)
                clear q1 q2 q3
                go_wp2
                go_region_held3 (fun w' => w'.cell? ⟨g, off + k * 2, none⟩ = some (.int .i64 sa) ∧ w'.cell? ⟨g, off + k * 2 + 1, none⟩ = some (.int .i64 sb) ∧ w'.cell? ⟨w.heap.size, 0, none⟩ = some (.int .i64 xa) ∧ w'.cell? ⟨w.heap.size, 1, none⟩ = some (.int .i64 xb) ∧ w'.cell? ⟨pm, 0, none⟩ = some (.int .i64 ma) ∧ w'.cell? ⟨pm, 1, none⟩ = some (.int .i64 mb)) (go_keep) (first | (go_at_call 17; refine (K3.out _).mono ?_; rintro e w6 ⟨rfl, hb6⟩; have hE6 := HWF.out.trans (hb6.mono HWF.out.size); obtain ⟨m2, m3, hC7⟩ := HZ.out _ hE6; obtain ⟨z0, z1, z2, z3, z4, z5⟩ := HY.out _ hC7))
                go_wp2_with (go_at_call 17; refine (K4.out _).mono ?_; rintro e w7 ⟨rfl, hb7⟩; have hE7 := hE6.trans (hb7.mono hE6.size))
                go_meet
                exact hE7
            case rest =>
              have hF := hcut
              obtain ⟨wf, hwf⟩ : ∃ x, x = wc := ⟨_, rfl⟩
              subst hwf
              clear hE hC hC6 m0 m1 x0 x1 x2 x3 x4 x5 hm2
              have hBB : Below W1.heap.size W1 wf := (HZ.out _ hF).2.2
              go_wp2
              go_loopw [20] (fun x20 wx => ∃ j : Nat, x20 = .int .i64 j ∧ j ≤ n ∧ Below we.heap.size we wx) (fun x20 _ => n - (intOf x20).toNat)
              case atStart => exact ⟨0, rfl, Nat.zero_le _, hF⟩
              case round =>
                obtain ⟨j, rfl, hj, hBj⟩ := hrel
                by_cases hjlt : j < n
                · obtain ⟨t, htj⟩ : ∃ t, l[j]? = some t := ⟨_, List.getElem?_eq_getElem (by rw [← HN.out]; exact hjlt)⟩
                  obtain ⟨ta, tb⟩ := t
                  have hto := (HI.out j _ htj).1
                  obtain ⟨av, hav⟩ : ∃ av, wiS (ta, tb) (sa, sb) = av := ⟨_, rfl⟩
                  obtain ⟨bv, hbv⟩ : ∃ bv, wiS (ta, tb) (xa, xb) = bv := ⟨_, rfl⟩
                  obtain ⟨dv, hdv⟩ : ∃ dv, wiS (ta, tb) (ma, mb) = dv := ⟨_, rfl⟩
                  have hkey := HMK.out (ta, tb) hto
                  rw [hav, hbv, hdv] at hkey
                  have K5 := Lib.hid (CW.out ta tb sa sb av hto HSO.out hav)
                  have K6 := Lib.hid (CW.out ta tb xa xb bv hto HX0.out hbv)
                  have K7 : Hid (fd = true → ∀ W, Calls Tryd.prog 17 #[.agg #[.int .i64 ta, .int .i64 tb], .agg #[.int .i64 ma, .int .i64 mb]] W fun e w' => e = .returned (.tuple #[.bool dv, .int .i64 0]) ∧ Below W.heap.size W w') := Lib.hid fun hfd => CW.out ta tb ma mb dv hto (HMF.out hfd).1 hdv
                  have HT : Hid (∀ W, Below we.heap.size we W → W.cell? ⟨g, off + j * 2, none⟩ = some (.int .i64 ta) ∧ W.cell? ⟨g, off + j * 2 + 1, none⟩ = some (.int .i64 tb) ∧ W.cell? ⟨g, off + k * 2, none⟩ = some (.int .i64 sa) ∧ W.cell? ⟨g, off + k * 2 + 1, none⟩ = some (.int .i64 sb) ∧ W.cell? ⟨w.heap.size, 0, none⟩ = some (.int .i64 xa) ∧ W.cell? ⟨w.heap.size, 1, none⟩ = some (.int .i64 xb) ∧ W.cell? ⟨pm, 0, none⟩ = some (.int .i64 ma) ∧ W.cell? ⟨pm, 1, none⟩ = some (.int .i64 mb)) := Lib.hid fun W hW => by
                    obtain ⟨b0, b1, b2⟩ := HZ.out _ hW
                    obtain ⟨y0, y1, y2, y3, _, _⟩ := HY.out _ b2
                    obtain ⟨_, _, _, _, b3⟩ := HX.out _ b2
                    obtain ⟨t0, t1⟩ := HG.out j ta tb htj W b3
                    exact ⟨t0, t1, y0, y1, y2, y3, b0, b1⟩
                  obtain ⟨x0, x1, x2, x3, x4, x5, x6, x7⟩ := HT.out _ hBj
                  have hj0 : (0 : Int) ≤ (j : Int) := Int.natCast_nonneg _
                  have hj1 : (j : Int) < (n : Int) := by omega
                  have HWG := Lib.hid (drewB hBj)
                  clear htj hto hav hbv hdv
                  go_wp2
                  go_region_held3 (fun w' => w'.cell? ⟨g, off + j * 2, none⟩ = some (.int .i64 ta) ∧ w'.cell? ⟨g, off + j * 2 + 1, none⟩ = some (.int .i64 tb) ∧ w'.cell? ⟨g, off + k * 2, none⟩ = some (.int .i64 sa) ∧ w'.cell? ⟨g, off + k * 2 + 1, none⟩ = some (.int .i64 sb) ∧ w'.cell? ⟨w.heap.size, 0, none⟩ = some (.int .i64 xa) ∧ w'.cell? ⟨w.heap.size, 1, none⟩ = some (.int .i64 xb) ∧ w'.cell? ⟨pm, 0, none⟩ = some (.int .i64 ma) ∧ w'.cell? ⟨pm, 1, none⟩ = some (.int .i64 mb)) (go_keep) (first | (go_at_call 17; refine (K5.out _).mono ?_; rintro e w8 ⟨rfl, hb8⟩; have hE8 := HWG.out.trans (hb8.mono HWG.out.size); obtain ⟨y0, y1, y2, y3, y4, y5, y6, y7⟩ := HT.out _ hE8))
                  go_wp2
                  have HWH := Lib.hid (drewB hE8)
                  go_region_held3 (fun w' => w'.cell? ⟨g, off + j * 2, none⟩ = some (.int .i64 ta) ∧ w'.cell? ⟨g, off + j * 2 + 1, none⟩ = some (.int .i64 tb) ∧ w'.cell? ⟨g, off + k * 2, none⟩ = some (.int .i64 sa) ∧ w'.cell? ⟨g, off + k * 2 + 1, none⟩ = some (.int .i64 sb) ∧ w'.cell? ⟨w.heap.size, 0, none⟩ = some (.int .i64 xa) ∧ w'.cell? ⟨w.heap.size, 1, none⟩ = some (.int .i64 xb) ∧ w'.cell? ⟨pm, 0, none⟩ = some (.int .i64 ma) ∧ w'.cell? ⟨pm, 1, none⟩ = some (.int .i64 mb)) (go_keep) (first | (go_at_call 17; refine (K6.out _).mono ?_; rintro e w9 ⟨rfl, hb9⟩; have hE9 := HWH.out.trans (hb9.mono HWH.out.size); obtain ⟨z0, z1, z2, z3, z4, z5, z6, z7⟩ := HT.out _ hE9))
                  go_upto_if 156 with (fail)
                  go_cut [25] (fun s25 wx => s25 = .bool (fd && dv) ∧ Below we.heap.size we wx)
                  case first =>
                    cases fd with
                    | false =>
                      go_wp2
                      go_meet
                      exact ⟨rfl, hE9⟩
                    | true =>
                      have K8 := Lib.hid (K7.out rfl)
                      have HWI := Lib.hid (drewB hE9)
                      go_wp2
                      go_region_held3 (fun w' => w'.cell? ⟨g, off + j * 2, none⟩ = some (.int .i64 ta) ∧ w'.cell? ⟨g, off + j * 2 + 1, none⟩ = some (.int .i64 tb) ∧ w'.cell? ⟨g, off + k * 2, none⟩ = some (.int .i64 sa) ∧ w'.cell? ⟨g, off + k * 2 + 1, none⟩ = some (.int .i64 sb) ∧ w'.cell? ⟨w.heap.size, 0, none⟩ = some (.int .i64 xa) ∧ w'.cell? ⟨w.heap.size, 1, none⟩ = some (.int .i64 xb) ∧ w'.cell? ⟨pm, 0, none⟩ = some (.int .i64 ma) ∧ w'.cell? ⟨pm, 1, none⟩ = some (.int .i64 mb)) (go_keep) (first | (go_at_call 17; refine (K8.out _).mono ?_; rintro e wa ⟨rfl, hba⟩; have hEa := HWI.out.trans (hba.mono HWI.out.size); obtain ⟨v0, v1, v2, v3, v4, v5, v6, v7⟩ := HT.out _ hEa))
                      go_wp2
                      go_meet
                      exact ⟨rfl, hEa⟩
                  case rest =>
                    obtain ⟨rfl, hG⟩ := hcut
                    have hk3 : (av = false) ∨ (av = true ∧ bv = false) ∨ (av = true ∧ bv = true ∧ (fd && dv) = true) := by
                      cases av
                      · exact .inl rfl
                      · cases bv
                        · exact .inr (.inl ⟨rfl, rfl⟩)
                        · obtain ⟨q1, q2⟩ := hkey rfl rfl
                          exact .inr (.inr ⟨rfl, rfl, by rw [q1, q2]; rfl⟩)
                    obtain ⟨ff, hff⟩ : ∃ ff, (fd && dv) = ff := ⟨_, rfl⟩
                    rw [hff] at hk3 ⊢
                    clear hkey hff
                    rcases hk3 with rfl | ⟨rfl, rfl⟩ | ⟨rfl, rfl, rfl⟩ <;> (
                      go_wp2
                      exact ⟨⟨j + 1, int_v (by omega), by omega, hG⟩, by simp [intOf]; omega⟩)
                · obtain rfl : j = n := by omega
                  have hBz := (HZ.out _ hBj).2.2
                  go_wp2
                  exact ⟨⟨k + 1, _, rfl, int_v (by omega), HAL2, by omega, hBz⟩, by simp [intOf]; omega⟩
    · obtain rfl : k = n := by omega
      obtain ⟨x0, x1, x2, x3, hBw⟩ := HX.out _ hB
      have KE : Hid (∀ W, Calls Tryd.prog 17 #[.agg #[.int .i64 ca, .int .i64 cb], .agg #[.int .i64 xa, .int .i64 xb]] W fun e w' => e = .returned (.tuple #[.bool al, .int .i64 0]) ∧ Below W.heap.size W w') := Lib.hid (by
        rw [HAL.out]; exact KE.out)
      clear CW
      cases al <;> (
        go_wp2_with (first
          | (go_at_call 17; refine (KE.out _).mono ?_; rintro e w3 ⟨rfl, hb3⟩; have hB3 := hBw.trans (hb3.mono hBw.size))
          | (go_at_call 12; refine (CA.out _ hB3).mono ?_; rintro e w4 ⟨rfl, hb4⟩))
        go_ret
        exact ⟨rfl, hB3.trans (hb4.mono hB3.size)⟩)

set_option maxRecDepth 100000 in
theorem lawC_any (v : Value) (l : List Sp) (x : Sp) (w : World) (T : PTabs w) (h : SpArg w v l) :
    Calls Tryd.prog 7 #[v, .agg #[.int .i64 x.1, .int .i64 x.2]] w fun e w' => e = .returned (.bool true) ∧ Below w.heap.size w w' := by
  obtain ⟨a, n, c, rfl, hn, hc, h⟩ := h
  obtain ⟨xa, xb⟩ := x
  obtain ⟨W0, hW0⟩ : ∃ W0, W0 = w.alloc (.cells #[.int .i64 xa, .int .i64 xb] 25) := ⟨_, rfl⟩
  have hw0 : Below w.heap.size w W0 := by subst hW0; exact below_a1 _ _
  have CA : Hid (∀ W, Below w.heap.size w W → Calls Tryd.prog 12 #[] W fun e w' => e = .returned (.bool true) ∧ Below W.heap.size W w') := Lib.hid fun W hb => awake_any W (T.below hb)
  by_cases hb : n ≤ 40
  · cases hx : okS (xa, xb) with
    | true =>
      rcases cover_cases l with ⟨e, hcv, he⟩ | ⟨p, q, hcv, h1, h2, h3⟩
      · exact lawC_err a n c l xa xb e w T h hn hc hb hx hcv he
      · exact lawC_ok a n c l xa xb p q w T h hn hc hb hx hcv h1 h2 (by rw [hn]; exact h3 _)
    | false =>
      have hd1 : decide ((40 : Int) < (n : Int)) = false := decide_eq_false (by omega)
      clear T h hn
      go_enter Tryd.func7, Tryd.ntmps7
      go_wp2_with (first
        | (go_at_call 37; rw [← hW0]; refine (lvalid_any _ _ _).mono ?_; rintro e w1 ⟨rfl, hb1⟩; rw [hx]; have hB := hw0.trans (hb1.mono hw0.size))
        | (go_at_call 12; refine (CA.out _ hB).mono ?_; rintro e w2 ⟨rfl, hb2⟩))
      go_ret
      exact ⟨rfl, hB.trans (hb2.mono hB.size)⟩
  · have hd1 : decide ((40 : Int) < (n : Int)) = true := decide_eq_true (by omega)
    clear T h hn
    go_enter Tryd.func7, Tryd.ntmps7
    go_wp2_with (go_at_call 12; rw [← hW0]; refine (CA.out _ hw0).mono ?_; rintro e w2 ⟨rfl, hb2⟩)
    go_ret
    exact ⟨rfl, hw0.trans (hb2.mono hw0.size)⟩
end Go.Proofs.YtbajikkjkiacnaaDoor
