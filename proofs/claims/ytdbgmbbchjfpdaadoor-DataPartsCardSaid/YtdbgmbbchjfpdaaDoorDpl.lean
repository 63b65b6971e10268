/- The law DataParts. -/
import Derived.Test.YtdbgmbbchjfpdaaDoorDparg
namespace Go.Proofs.YtdbgmbbchjfpdaaDoor
open Go.RowKit Go.PlainAid

theorem subL_len (t : List Nd) (i : Int) (h : t.length ≤ 1000) : (subL t i).length ≤ 1000000 := by
  unfold subL
  split
  · unfold subS; rw [List.length_drop, List.length_take]; omega
  · exact Nat.zero_le _
theorem listL_len (ts : List (List Nd)) : (listL ts).length ≤ 1000000 := by
  unfold listL
  split
  · rename_i h
    unfold listE at h
    split at h
    · rename_i h1; exact absurd h h1
    · have := (chkT_ok h).2.2.1; omega
  · exact Nat.zero_le _
theorem putL_len (t s : List Nd) (i : Int) : (putL t i s).length ≤ 1000000 := by
  unfold putL
  split
  · rename_i h
    unfold putE at h
    split at h
    · rename_i h1; exact absurd h h1
    · split at h
      · rename_i h1; exact absurd h h1
      · split at h
        · rename_i h1; exact absurd h h1
        · have := (chkT_ok h).2.2.1; omega
  · exact Nat.zero_le _

set_option maxRecDepth 50000 in
set_option maxHeartbeats 6400000 in
theorem lawPa_any (v vp : Value) (t : List Nd) (i : Int) (ts : List (List Nd)) (w : World) (h : NdsAt w v t) (hp : RowsAt w vp ts) (KB : KidsB t) (KBs : ∀ s ∈ ts, KidsB s) (hcv : capOk v) (hnil : nilOk v) (T : STabs w) :
    Calls Tryd.prog 5 #[v, .int .i64 i, vp] w fun e w' => e = .returned (.bool true) ∧ Below w.heap.size w w' := by
  have CS := Lib.hid (fun W (hW : Below w.heap.size w W) => shown_any W (T.below hW))
  have HST := Lib.hid (fun W (hW : Below w.heap.size w W) => T.below hW)
  have HNv := Lib.hid h
  have HRw : Hid (∀ W, Below w.heap.size w W → RowsAt W vp ts) := Lib.hid fun W hW => by
    obtain ⟨a, c, e, hA⟩ := hp
    refine ⟨a, c, e, hA.imp id ?_⟩
    rintro ⟨g, off, e, hg, hc⟩
    refine ⟨g, off, e, Nat.lt_of_lt_of_le hg hW.size, fun j s hj => ?_⟩
    obtain ⟨vt, d0, hN⟩ := hc j s hj
    exact ⟨vt, (hW.cell (p := ⟨g, off + j, none⟩) hg).trans d0, hN.below hW (Nat.le_refl _)⟩
  have CFt := Lib.hid (fun W (hW : Below w.heap.size w W) => dfar_any v t W (h.below hW (Nat.le_refl _)))
  have CM := Lib.hid (fun W v1 v2 (l : List Nd) (h1 : NdsAt W v1 l) (h2 : NdsAt W v2 l) (hl : l.length ≤ 1000000) => same4_eq v1 v2 l W h1 h2 hl)
  have HKs : Hid (∀ s ∈ ts, KidsB s) := Lib.hid KBs
  obtain ⟨a, c, rfl, hA⟩ := hp
  have HA : Hid (∀ W, Below w.heap.size w W → ∀ (k : Nat) (s : List Nd), ts[k]? = some s → ∃ g off, a = some ⟨g, off, none⟩ ∧ g < w.heap.size ∧ ∃ at' ct, W.cell? ⟨g, off + k, none⟩ = some (.slice at' s.length ct) ∧ NdsAt W (.slice at' s.length ct) s) := Lib.hid fun W hW k s hs => by
    rcases hA with rfl | ⟨g, off, rfl, hg, hc⟩
    · cases hs
    · obtain ⟨vt, d0, hN⟩ := hc k s hs
      obtain ⟨at', ct, rfl⟩ := hN.slice
      exact ⟨g, off, rfl, hg, at', ct, (hW.cell (p := ⟨g, off + k, none⟩) hg).trans d0, hN.below hW (Nat.le_refl _)⟩
  have HA0 : Hid (∀ s0, ts[0]? = some s0 → ∃ g off ga ct, a = some ⟨g, off, none⟩ ∧ ∀ W, Below w.heap.size w W → W.cell? ⟨g, off, none⟩ = some (.slice ga s0.length ct) ∧ NdsAt W (.slice ga s0.length ct) s0) := Lib.hid fun s0 hs => by
    rcases hA with rfl | ⟨g, off, rfl, hg, hc⟩
    · cases hs
    · obtain ⟨vt, d0, hN⟩ := hc 0 s0 hs
      obtain ⟨at', ct, rfl⟩ := hN.slice
      exact ⟨g, off, at', ct, rfl, fun W hW => ⟨(hW.cell (p := ⟨g, off, none⟩) hg).trans d0, hN.below hW (Nat.le_refl _)⟩⟩
  obtain ⟨m, hm⟩ : ∃ m, ts.length = m := ⟨_, rfl⟩
  have HM := Lib.hid hm
  rw [hm] at HRw
  rw [hm]
  obtain ⟨av, cv, hve⟩ := h.slice
  obtain ⟨tl0, htl0⟩ : ∃ tl0, t.length = tl0 := ⟨_, rfl⟩
  have HLt := Lib.hid htl0
  rw [htl0] at hve
  subst hve
  have HNl := Lib.hid (fun W (hW : Below w.heap.size w W) => h.below hW (Nat.le_refl _))
  clear h KBs hA hm htl0 T
  go_enter Tryd.func5, Tryd.ntmps5
  go_wp2_with fail
  -- MARK1
  go_loopw [7, 8] (fun x7 x8 wr => ∃ k q : Nat, x8 = .int .i64 (k : Int) ∧ k ≤ m ∧ k ≤ 100 ∧ x7 = .int .i64 (q : Int) ∧ q ≤ 410 * k ∧ Hid ((ts.take k).flatten.length = q) ∧ Below w.heap.size w wr) (fun _ x8 _ => m - (intOf x8).toNat)
  case atStart => exact ⟨0, 0, rfl, Nat.zero_le _, by omega, rfl, by omega, Lib.hid (by simp), Below.refl _ _⟩
  case round =>
    obtain ⟨k, q, rfl, hk, hk100, rfl, hq, HQ, hbr⟩ := hrel
    have hk0 : (0 : Int) ≤ (k : Int) := Int.natCast_nonneg _
    by_cases hlt : k < m
    · have hk1 : (k : Int) < (m : Int) := by omega
      have d1 : decide ((k : Int) < (m : Int)) = true := decide_eq_true hk1
      by_cases h100 : k < 100
      · have d2 : decide ((k : Int) < 100) = true := decide_eq_true (by omega)
        obtain ⟨s, hs⟩ : ∃ s, ts[k]? = some s := ⟨_, List.getElem?_eq_getElem (by rw [HM.out]; exact hlt)⟩
        obtain ⟨g, off, rfl, hg, ga, ct, d3, hN⟩ := HA.out wr hbr k s hs
        have CF := Lib.hid (dfar_any _ s wr hN)
        have hq2 : (ts.take (k + 1)).flatten.length = q + s.length := by rw [take_flat hs, List.length_append, HQ.out]
        obtain ⟨sl, hsl⟩ : ∃ sl, s.length = sl := ⟨_, rfl⟩
        have HSl := Lib.hid hsl
        rw [hsl] at d3 CF hq2
        have HQ2 := Lib.hid hq2
        clear hs hN hq2 hsl
        by_cases hs4 : sl ≤ 410
        · go_wp2_with fail
          -- MARK2
          refine CF.out.mono ?_
          rintro e' w1 ⟨bf, rfl, _, hb1⟩
          have hB1 := hbr.trans (hb1.mono hbr.size)
          cases bf with
          | true =>
            go_wp2_with fail
            refine (CS.out w1 hB1).mono ?_
            rintro e' w2 ⟨rfl, hbs⟩
            go_wp2_with fail
            go_ret
            exact ⟨rfl, hB1.trans (hbs.mono hB1.size)⟩
          | false =>
            go_wp2_with fail
            go_roundw
            case rel => exact ⟨k + 1, q + sl, by go_num, by omega, by omega, by go_num, by omega, HQ2, hB1⟩
            case measure => simp [intOf]; omega
        · go_wp2_with fail
          refine CF.out.mono ?_
          rintro e' w1 ⟨bf, rfl, hfar, hb1⟩
          have hB1 := hbr.trans (hb1.mono hbr.size)
          cases bf with
          | true =>
            go_wp2_with fail
            refine (CS.out w1 hB1).mono ?_
            rintro e' w2 ⟨rfl, hbs⟩
            go_wp2_with fail
            go_ret
            exact ⟨rfl, hB1.trans (hbs.mono hB1.size)⟩
          | false => exact absurd (hfar rfl).1 (by rw [HSl.out]; exact hs4)
      · have d2 : decide ((k : Int) < 100) = false := decide_eq_false (by omega)
        have d60 : decide ((60 : Int) < (m : Int)) = true := decide_eq_true (by omega)
        go_wp2_with fail
        -- MARK3
        refine (CFt.out wr hbr).mono ?_
        rintro e' w1 ⟨bf, rfl, _, hb1⟩
        have hB1 := hbr.trans (hb1.mono hbr.size)
        cases bf <;> (
          go_wp2_with fail
          refine (CS.out w1 hB1).mono ?_
          rintro e' w2 ⟨rfl, hbs⟩
          go_wp2_with fail
          go_ret
          exact ⟨rfl, hB1.trans (hbs.mono hB1.size)⟩)
    · obtain rfl : k = m := by omega
      have d1 : decide ((k : Int) < (k : Int)) = false := decide_eq_false (by omega)
      go_wp2_with fail
      -- MARK4
      refine (CFt.out wr hbr).mono ?_
      rintro e' w1 ⟨bf, rfl, hfar, hb1⟩
      have hB1 := hbr.trans (hb1.mono hbr.size)
      cases bf with
      | true =>
        go_wp2_with fail
        refine (CS.out w1 hB1).mono ?_
        rintro e' w2 ⟨rfl, hbs⟩
        go_wp2_with fail
        go_ret
        exact ⟨rfl, hB1.trans (hbs.mono hB1.size)⟩
      | false =>
        have ht4 : tl0 ≤ 410 := by rw [← HLt.out]; exact (hfar rfl).1
        clear hfar
        by_cases h60 : 60 < k
        · have d60 : decide ((60 : Int) < (k : Int)) = true := decide_eq_true (by omega)
          go_wp2_with fail
          refine (CS.out w1 hB1).mono ?_
          rintro e' w2 ⟨rfl, hbs⟩
          go_wp2_with fail
          go_ret
          exact ⟨rfl, hB1.trans (hbs.mono hB1.size)⟩
        · have d60 : decide ((60 : Int) < (k : Int)) = false := decide_eq_false (by omega)
          by_cases h500 : 500 < q
          · have d500 : decide ((500 : Int) < (q : Int)) = true := decide_eq_true (by omega)
            go_wp2_with fail
            refine (CS.out w1 hB1).mono ?_
            rintro e' w2 ⟨rfl, hbs⟩
            go_wp2_with fail
            go_ret
            exact ⟨rfl, hB1.trans (hbs.mono hB1.size)⟩
          · have d500 : decide ((500 : Int) < (q : Int)) = false := decide_eq_false (by omega)
            have hfl : ts.flatten.length ≤ 500 := by
              have := HQ.out
              rw [List.take_of_length_le (Nat.le_of_eq HM.out)] at this; omega
            have htsl : ts.length ≤ 1000 := by rw [HM.out]; omega
            have HMt : Hid (t.length ≤ 1000000) := Lib.hid (by rw [HLt.out]; omega)
            have HMs : Hid ((subL t i).length ≤ 1000000) := Lib.hid (subL_len t i (by rw [HLt.out]; omega))
            have HMl : Hid ((listL ts).length ≤ 1000000) := Lib.hid (listL_len ts)
            obtain ⟨ls, hls⟩ : ∃ ls, (subL t i).length = ls := ⟨_, rfl⟩
            obtain ⟨zs, hzs⟩ : ∃ zs, atE symS t i = zs := ⟨_, rfl⟩
            obtain ⟨ll, hll⟩ : ∃ ll, (listL ts).length = ll := ⟨_, rfl⟩
            obtain ⟨zl, hzl⟩ : ∃ zl, listE symS ts = zl := ⟨_, rfl⟩
            have HLs := Lib.hid hls
            have HZs := Lib.hid hzs
            have HLl := Lib.hid hll
            have HZl := Lib.hid hzl
            clear hls hzs hll hzl
            have D1 := Lib.hid (Sub_l _ t i w1 (HNl.out w1 hB1) KB (HST.out w1 hB1) hcv)
            unfold ansV at D1
            rw [HLs.out, HZs.out] at D1
            go_wp2_with fail
            -- MARK5
            refine D1.out.mono ?_
            rintro e' w2 ⟨a2, c2, rfl, hN2, hb2⟩
            have hB2 := hB1.trans (hb2.mono hB1.size)
            have HN2 := Lib.hid hN2
            have D2 := Lib.hid (rSub_l _ t i w2 (HNl.out w2 hB2) KB (HST.out w2 hB2) hcv)
            unfold ansV at D2
            rw [HLs.out, HZs.out] at D2
            clear hN2 D1
            go_wp2_with fail
            refine D2.out.mono ?_
            rintro e' w3 ⟨a3, c3, rfl, hN3, hb3⟩
            have hB3 := hB2.trans (hb3.mono hB2.size)
            have HN3 := Lib.hid hN3
            have HN23 := Lib.hid (HN2.out.below hb3 (Nat.le_refl _))
            have D3 := Lib.hid (List_l _ ts w3 (HRw.out w3 hB3) HKs (HST.out w3 hB3) htsl (by omega))
            unfold ansV at D3
            rw [HLl.out, HZl.out] at D3
            clear hN3 D2 HN2
            go_wp2_with fail
            refine D3.out.mono ?_
            rintro e' w4 ⟨a4, c4, rfl, hN4, hb4⟩
            have hB4 := hB3.trans (hb4.mono hB3.size)
            have HN4 := Lib.hid hN4
            have D4 := Lib.hid (rList_l _ ts w4 (HRw.out w4 hB4) HKs htsl (by omega))
            unfold ansV at D4
            rw [HLl.out, HZl.out] at D4
            clear hN4 D3
            go_wp2_with fail
            refine D4.out.mono ?_
            rintro e' w5 ⟨a5, c5, rfl, hN5, hb5⟩
            have hB5 := hB4.trans (hb5.mono hB4.size)
            have hb35 := hb4.trans (hb5.mono hb4.size)
            have HN5 := Lib.hid hN5
            have HN45 := Lib.hid (HN4.out.below hb5 (Nat.le_refl _))
            have DM := Lib.hid (CM.out w5 _ _ (subL t i) (HN23.out.below hb35 (Nat.le_refl _)) (HN3.out.below hb35 (Nat.le_refl _)) HMs.out)
            clear hN5 D4 HN4
            go_wp2_with fail
            -- MARK6
            refine DM.out.mono ?_
            rintro e' w6 ⟨rfl, hb6⟩
            have hB6 := hB5.trans (hb6.mono hB5.size)
            have DN := Lib.hid (CM.out w6 _ _ (listL ts) (HN45.out.below hb6 (Nat.le_refl _)) (HN5.out.below hb6 (Nat.le_refl _)) HMl.out)
            clear DM
            have hzz : (zs != zs) = false := by simp
            have hyy : (zl != zl) = false := by simp
            go_wp2_with fail
            -- MARK7
            refine DN.out.mono ?_
            rintro e' w7 ⟨rfl, hb7⟩
            have hB7 := hB6.trans (hb7.mono hB6.size)
            clear DN HN45 HN5 HN23 HN3 hb2 hb3 hb4 hb5 hb6 hb7 hb35 hB2 hB3 hB4 hB5 hB6
            rcases Nat.eq_zero_or_pos k with hz0 | hz0
            · obtain ⟨s0, hs0⟩ : ∃ s0 : List Nd, s0 = [] := ⟨_, rfl⟩
              have HVs : Hid (∀ W, Below w.heap.size w W → NdsAt W (.slice none 0 0) s0) := Lib.hid fun W hW => .inl ⟨_, _, rfl, hs0⟩
              have HKs : Hid (KidsB s0) := Lib.hid (by rw [hs0]; intro x hx; cases hx)
              have dz : decide ((0 : Int) < (k : Int)) = false := decide_eq_false (by omega)
              have HMp : Hid ((putL t i s0).length ≤ 1000000) := Lib.hid (putL_len t s0 i)
              obtain ⟨lp, hlp⟩ : ∃ lp, (putL t i s0).length = lp := ⟨_, rfl⟩
              obtain ⟨zp, hzp⟩ : ∃ zp, putE symS t i s0 = zp := ⟨_, rfl⟩
              have HLp := Lib.hid hlp
              have HZp := Lib.hid hzp
              have hpp : (zp == zp) = true := by simp
              clear hlp hzp hs0
              -- MARKT1
              have HN7 := Lib.hid ((HNv.out).below hB7 (Nat.le_refl _))
              obtain ⟨a8, c8, w8, hr8, hN8, hb8⟩ := copy_run HN7.out hnil (by rw [HLt.out]; omega)
              have HR8 := Lib.hid hr8
              have HN8 := Lib.hid hN8
              have hB8 := hB7.trans (hb8.mono hB7.size)
              have D5 := Lib.hid (Put_l _ _ t s0 i w8 (HNv.out.below hB8 (Nat.le_refl _)) (HVs.out w8 hB8) KB HKs.out (HST.out w8 hB8) hcv)
              unfold ansV at D5
              rw [HLp.out, HZp.out] at D5
              rw [HLt.out] at HR8 HN8
              clear hr8 hN8
              go_wp2_with (at_builtin; refine Lib.wpList_append_run _ rfl _ _ _ _ rfl _ _ rfl rfl _ _ HR8.out ?_)
              -- MARKU1
              refine D5.out.mono ?_
              rintro e' w9 ⟨a9, c9, rfl, hN9, hb9⟩
              have hB9 := hB8.trans (hb9.mono hB8.size)
              have HN9 := Lib.hid hN9
              have D6 := Lib.hid (rPut_l _ _ t s0 i w9 (HNv.out.below hB9 (Nat.le_refl _)) (HVs.out w9 hB9) KB HKs.out (HST.out w9 hB9) hcv)
              unfold ansV at D6
              rw [HLp.out, HZp.out] at D6
              clear hN9 D5
              go_wp2_with fail
              refine D6.out.mono ?_
              rintro e' w10 ⟨a10, c10, rfl, hN10, hb10⟩
              have hB10 := hB9.trans (hb10.mono hB9.size)
              have D7 := Lib.hid (CM.out w10 _ _ (putL t i s0) (HN9.out.below hb10 (Nat.le_refl _)) hN10 HMp.out)
              clear D6 hN10
              go_wp2_with fail
              -- MARKV1
              refine D7.out.mono ?_
              rintro e' w11 ⟨rfl, hb11⟩
              have hB11 := hB10.trans (hb11.mono hB10.size)
              have D8 := Lib.hid (CM.out w11 _ _ t (HNl.out w11 hB11) (HN8.out.below (hb9.trans ((hb10.trans (hb11.mono hb10.size)).mono hb9.size)) (Nat.le_refl _)) HMt.out)
              go_wp2_with fail
              refine D8.out.mono ?_
              rintro e' w12 ⟨rfl, hb12⟩
              have hB12 := hB11.trans (hb12.mono hB11.size)
              go_wp2_with fail
              refine (CS.out w12 hB12).mono ?_
              rintro e' w13 ⟨rfl, hb13⟩
              go_wp2_with fail
              go_ret
              exact ⟨rfl, hB12.trans (hb13.mono hB12.size)⟩
            · obtain ⟨s0, hs0⟩ : ∃ s0, ts[0]? = some s0 := ⟨_, List.getElem?_eq_getElem (by rw [HM.out]; exact hz0)⟩
              obtain ⟨g, off, ga, ct, rfl, hH⟩ := HA0.out s0 hs0
              obtain ⟨d3, _⟩ := hH w7 hB7
              have HVs : Hid (∀ W, Below w.heap.size w W → NdsAt W (.slice ga s0.length ct) s0) := Lib.hid fun W hW => (hH W hW).2
              have HKs : Hid (KidsB s0) := Lib.hid (HKs.out s0 (List.mem_of_getElem? hs0))
              have dz : decide ((0 : Int) < (k : Int)) = true := decide_eq_true (by omega)
              have hx0 : (0 : Int) < (k : Int) := by omega
              have HMp : Hid ((putL t i s0).length ≤ 1000000) := Lib.hid (putL_len t s0 i)
              obtain ⟨lp, hlp⟩ : ∃ lp, (putL t i s0).length = lp := ⟨_, rfl⟩
              obtain ⟨zp, hzp⟩ : ∃ zp, putE symS t i s0 = zp := ⟨_, rfl⟩
              have HLp := Lib.hid hlp
              have HZp := Lib.hid hzp
              have hpp : (zp == zp) = true := by simp
              clear hlp hzp hs0
              -- MARKT2
              have HN7 := Lib.hid ((HNv.out).below hB7 (Nat.le_refl _))
              obtain ⟨a8, c8, w8, hr8, hN8, hb8⟩ := copy_run HN7.out hnil (by rw [HLt.out]; omega)
              have HR8 := Lib.hid hr8
              have HN8 := Lib.hid hN8
              have hB8 := hB7.trans (hb8.mono hB7.size)
              have D5 := Lib.hid (Put_l _ _ t s0 i w8 (HNv.out.below hB8 (Nat.le_refl _)) (HVs.out w8 hB8) KB HKs.out (HST.out w8 hB8) hcv)
              unfold ansV at D5
              rw [HLp.out, HZp.out] at D5
              rw [HLt.out] at HR8 HN8
              clear hr8 hN8
              go_wp2_with (at_builtin; refine Lib.wpList_append_run _ rfl _ _ _ _ rfl _ _ rfl rfl _ _ HR8.out ?_)
              -- MARKU2
              refine D5.out.mono ?_
              rintro e' w9 ⟨a9, c9, rfl, hN9, hb9⟩
              have hB9 := hB8.trans (hb9.mono hB8.size)
              have HN9 := Lib.hid hN9
              have D6 := Lib.hid (rPut_l _ _ t s0 i w9 (HNv.out.below hB9 (Nat.le_refl _)) (HVs.out w9 hB9) KB HKs.out (HST.out w9 hB9) hcv)
              unfold ansV at D6
              rw [HLp.out, HZp.out] at D6
              clear hN9 D5
              go_wp2_with fail
              refine D6.out.mono ?_
              rintro e' w10 ⟨a10, c10, rfl, hN10, hb10⟩
              have hB10 := hB9.trans (hb10.mono hB9.size)
              have D7 := Lib.hid (CM.out w10 _ _ (putL t i s0) (HN9.out.below hb10 (Nat.le_refl _)) hN10 HMp.out)
              clear D6 hN10
              go_wp2_with fail
              -- MARKV2
              refine D7.out.mono ?_
              rintro e' w11 ⟨rfl, hb11⟩
              have hB11 := hB10.trans (hb11.mono hB10.size)
              have D8 := Lib.hid (CM.out w11 _ _ t (HNl.out w11 hB11) (HN8.out.below (hb9.trans ((hb10.trans (hb11.mono hb10.size)).mono hb9.size)) (Nat.le_refl _)) HMt.out)
              go_wp2_with fail
              refine D8.out.mono ?_
              rintro e' w12 ⟨rfl, hb12⟩
              have hB12 := hB11.trans (hb12.mono hB11.size)
              go_wp2_with fail
              refine (CS.out w12 hB12).mono ?_
              rintro e' w13 ⟨rfl, hb13⟩
              go_wp2_with fail
              go_ret
              exact ⟨rfl, hB12.trans (hb13.mono hB12.size)⟩
end Go.Proofs.YtdbgmbbchjfpdaaDoor
