/- The law DataRound. -/
import Derived.Test.YtdbgmbbchjfpdaaDoorDrd
namespace Go.Proofs.YtdbgmbbchjfpdaaDoor
open Go.RowKit Go.PlainAid

theorem infoSl : (Tryd.prog.info? 22).map (fun i => (i.zero, i.size, i.bytes)) = some (some (.slice none 0 0), 1, 24) := by kernel_rfl

set_option maxRecDepth 50000 in
set_option maxHeartbeats 3200000 in
theorem lawRd_bad (v : Value) (t : List Nd) (z : Nat) (w : World) (h : NdsAt w v t) (KB : KidsB t) (T : STabs w) (hc : (chkT symS t).2 ≠ 0) :
    Calls Tryd.prog 7 #[v, .int .u16 (z : Int)] w fun e w' => e = .returned (.bool true) ∧ Below w.heap.size w w' := by
  have CS := Lib.hid (fun W (hW : Below w.heap.size w W) => shown_any W (T.below hW))
  have C1 := Lib.hid (Check_any symS v t w h (Lib.hid (symAll_of T)) (Lib.hid KB))
  have CF1 := Lib.hid (fun W (hW : Below w.heap.size w W) => dfar_any v t W (h.below hW (Nat.le_refl _)))
  unfold chkTV at C1
  obtain ⟨a1, c1, rfl⟩ := h.slice
  obtain ⟨i, e, hie⟩ : ∃ i e, chkT symS t = (i, e) := ⟨_, _, rfl⟩
  rw [hie] at C1 hc
  have hne : (e != 0) = true := bne_iff_ne.2 hc
  clear h KB T hie hc
  go_enter Tryd.func7, Tryd.ntmps7
  go_wp2_with fail
  refine C1.out.mono ?_
  rintro e' w1 ⟨rfl, hb1⟩
  go_wp2_with fail
  refine (CF1.out w1 hb1).mono ?_
  rintro e' w2 ⟨bf, rfl, _, hb2⟩
  have hB2 := hb1.trans (hb2.mono hb1.size)
  cases bf <;> (
    go_wp2_with fail
    refine (CS.out w2 hB2).mono ?_
    rintro e' w3 ⟨rfl, hb3⟩
    go_wp2_with fail
    go_ret
    exact ⟨rfl, hB2.trans (hb3.mono hB2.size)⟩)

set_option maxRecDepth 50000 in
set_option maxHeartbeats 6400000 in
theorem lawRd_ok (v : Value) (t : List Nd) (z : Nat) (w : World) (h : DatAt w v t) (hz : z ≤ 65535) :
    Calls Tryd.prog 7 #[v, .int .u16 (z : Int)] w fun e w' => e = .returned (.bool true) ∧ Below w.heap.size w w' := by
  have CS := Lib.hid (fun W (hW : Below w.heap.size w W) => shown_any W (h.2.2.2.1.below hW))
  have HD := Lib.hid (fun W (hW : Below w.heap.size w W) => h.below hW)
  obtain ⟨t1, t2, t3, _, hce⟩ := chkT_ok h.2.2.2.2
  have ht0 := List.length_pos_iff.2 t2
  obtain ⟨i, hi⟩ : ∃ i, z % t.length = i := ⟨_, rfl⟩
  have hin : i < t.length := by rw [← hi]; exact Nat.mod_lt _ ht0
  have HI := Lib.hid hin
  have HT := Lib.hid t1
  obtain ⟨x, hx⟩ : ∃ x, t[i]? = some x := ⟨_, List.getElem?_eq_getElem hin⟩
  have HX := Lib.hid hx
  have hil : i < (kidsL t).length := by rw [kidsL_len]; exact hin
  have HIL := Lib.hid hil
  have hcx : x.2.1 = (cnt (kidsL t) i : Int) := by
    rw [cnt_of (i := i) (c := x.2.1.toNat) (by unfold kidsL; rw [List.getElem?_map, hx]; rfl), Int.toNat_of_nonneg (chkT_kids h.2.2.2.2 x (List.mem_of_getElem? hx))]
  have C1 := Lib.hid (Check_any symS v t w h.1 h.sym (Lib.hid h.2.2.1))
  have CF1 := Lib.hid (fun W (hW : Below w.heap.size w W) => dfar_any v t W (h.1.below hW (Nat.le_refl _)))
  have CM := Lib.hid (fun W v1 v2 (l : List Nd) (h1 : NdsAt W v1 l) (h2 : NdsAt W v2 l) (hl : l.length ≤ 1000000) => same4_eq v1 v2 l W h1 h2 hl)
  unfold chkTV at C1
  rw [hce] at C1
  have hsl : Hid ((subS t i).length = endN (kidsL t) i - i) := Lib.hid (subS_len rfl (by have := (t1.end_bd hil).2; rw [kidsL_len] at this; exact this))
  have hs4 : Hid ((subS t i).length ≤ 1000000) := Lib.hid (by have := (chkT_ok (chk_sub h.2.2.2.2 hin).1).2.2.1; omega)
  have ht4 : Hid (t.length ≤ 1000000) := Lib.hid (by omega)
  have hcl : cnt (kidsL t) i ≤ 400 := by
    have := kidsN_le t1 hil
    rw [kidsN_len, kidsL_len] at this; omega
  obtain ⟨gt, ot, c1, rfl, hgt, hct⟩ := h.1.some t2
  have HC : Hid (∀ W, Below w.heap.size w W → W.cell? ⟨gt, ot + i * 4, none⟩ = some (.int .i64 x.1) ∧ W.cell? ⟨gt, ot + i * 4 + 1, none⟩ = some (.int .i64 (cnt (kidsL t) i : Int))) := Lib.hid fun W hW => by
    obtain ⟨k0, k1, _⟩ := dcs_at t hx
    rw [← hcx]
    exact ⟨(hW.cell (p := ⟨gt, ot + i * 4, none⟩) hgt).trans (hct _ _ k0), (hW.cell (p := ⟨gt, ot + (i * 4 + 1), none⟩) hgt).trans (hct _ _ k1)⟩
  obtain ⟨n, hn⟩ : ∃ n, t.length = n := ⟨_, rfl⟩
  obtain ⟨c, hc⟩ : ∃ c, cnt (kidsL t) i = c := ⟨_, rfl⟩
  obtain ⟨sl, hsle⟩ : ∃ sl, (subS t i).length = sl := ⟨_, rfl⟩
  have HN := Lib.hid hn
  have HCnt := Lib.hid hc
  have HSL := Lib.hid hsle
  rw [hn] at C1 CF1 HD ht0 hin hi t3
  rw [hc] at HC hcl
  rw [hn]
  have hn0 : ((n : Int) == 0) = false := beq_eq_false_iff_ne.2 (by omega)
  have hn1 : (n : Int) ≠ 0 := by omega
  have hrem : (z : Int).tmod (n : Int) = (i : Int) := by rw [← hi]; exact (Int.ofNat_tmod z n).symm
  have hi0 : (0 : Int) ≤ (i : Int) := Int.natCast_nonneg _
  have hi1 : (i : Int) < (n : Int) := by omega
  clear h hce t1 t2 hx hil hcx hct hgt hn hc hsle hi
  go_enter Tryd.func7, Tryd.ntmps7
  go_wp2_with fail
  refine C1.out.mono ?_
  rintro e' w1 ⟨rfl, hb1⟩
  go_wp2_with fail
  refine (CF1.out w1 hb1).mono ?_
  rintro e' w2 ⟨bf, rfl, _, hb2⟩
  have hB2 := hb1.trans (hb2.mono hb1.size)
  cases bf with
  | true =>
    go_wp2_with fail
    refine (CS.out w2 hB2).mono ?_
    rintro e' w3 ⟨rfl, hb3⟩
    go_wp2_with fail
    go_ret
    exact ⟨rfl, hB2.trans (hb3.mono hB2.size)⟩
  | false =>
    clear hb1 hb2 C1 CF1
    have D2 := Lib.hid (Sub_c (HD.out w2 hB2) HI.out)
    rw [HSL.out] at D2
    go_wp2_with fail
    -- MARK1
    refine D2.out.mono ?_
    rintro e' w3 ⟨gs, os, cs, rfl, hgs, hNs, hb3⟩
    have hB3 := hB2.trans (hb3.mono hB2.size)
    have HNs := Lib.hid hNs
    clear hrem hNs D2 hgs
    have D3 := Lib.hid (Put_c (HD.out w3 hB3) HI.out HNs.out)
    rw [HN.out] at D3
    go_wp2_with fail
    -- MARK2
    refine D3.out.mono ?_
    rintro e' w4 ⟨au, cu, rfl, hNu, hb4⟩
    have hB4 := hB3.trans (hb4.mono hB3.size)
    have HNu := Lib.hid hNu
    clear hNu D3
    have D4 := Lib.hid (Path_c (HD.out w4 hB4) HI.out)
    go_wp2_with fail
    -- MARK3
    refine D4.out.mono ?_
    rintro e' w5 ⟨ap, cp, P, rfl, hrP, hPl, hPf, hb5⟩
    have hB5 := hB4.trans (hb5.mono hB4.size)
    have D5 := Lib.hid (At_c (HD.out w5 hB5) hrP hPl hPf)
    have HPf := Lib.hid hPf
    obtain ⟨pl, hpl⟩ : ∃ pl, P.length = pl := ⟨_, rfl⟩
    have HPL := Lib.hid hpl
    rw [hpl] at D5 hPl ⊢
    clear hrP hPf D4 hpl
    go_wp2_with fail
    -- MARK4
    refine D5.out.mono ?_
    rintro e' w6 ⟨rfl, hb6⟩
    have hB6 := hB5.trans (hb6.mono hB5.size)
    have D6 := Lib.hid (CM.out w6 _ _ t ((HNu.out.below hb5 (Nat.le_refl _)).below hb6 (Nat.le_refl _)) (HD.out w6 hB6).1 ht4.out)
    clear D5
    go_wp2_with fail
    -- MARK5
    refine D6.out.mono ?_
    rintro e' w7 ⟨rfl, hb7⟩
    have hB7 := hB6.trans (hb7.mono hB6.size)
    have D7 := Lib.hid (Kids_c (HD.out w7 hB7) HI.out)
    rw [HCnt.out] at D7
    clear D6
    go_wp2_with fail
    -- MARK6
    refine D7.out.mono ?_
    rintro e' w8 ⟨ak, ck, rfl, hrK, hb8⟩
    have hB8 := hB7.trans (hb8.mono hB7.size)
    have D8 := Lib.hid (Size_c (HD.out w8 hB8) HI.out)
    rw [HSL.out] at D8
    have HrK := Lib.hid hrK
    clear hrK D7
    go_wp2_with fail
    -- MARK7
    refine D8.out.mono ?_
    rintro e' w9 ⟨rfl, hb9⟩
    have hB9 := hB8.trans (hb9.mono hB8.size)
    obtain ⟨_, d9⟩ := HC.out w9 hB9
    have HK9 := Lib.hid (HrK.out.below hb9)
    have HNs9 := Lib.hid (HNs.out.below (hb4.trans ((hb5.trans ((hb6.trans ((hb7.trans ((hb8.trans (hb9.mono hb8.size)).mono hb7.size)).mono hb6.size)).mono hb5.size)).mono hb4.size)) (Nat.le_refl _))
    clear D8 HrK hb3 hb4 hb5 hb6 hb7 hb8 hb9 hB2 hB3 hB4 hB5 hB6 hB7 hB8 HNs HNu
    go_wp2_with fail
    -- MARK8
    have hp0 : Hid (posK (kidsL t) i 0 = i + 1) := Lib.hid (posK_start HIL.out)
    have HKd : Hid (∀ W, Below w9.heap.size w9 W → ∀ m, m < c → ∃ g o, ak = some ⟨g, o, none⟩ ∧ W.cell? ⟨g, o + m, none⟩ = some (.int .i64 (posK (kidsL t) i m : Int))) := Lib.hid fun W hW m hm => by
      have hr := HK9.out.below hW
      obtain ⟨a', c', e, hA⟩ := hr
      cases e
      have hk := kidsN_at (ks := kidsL t) (i := i) (k := m) (by rw [HCnt.out]; exact hm)
      rcases hA with h0 | ⟨g, o, rfl, _, hc'⟩
      · rw [List.map_eq_nil_iff] at h0; rw [h0] at hk; cases hk
      · exact ⟨g, o, rfl, hc' m _ (by rw [List.getElem?_map, hk]; rfl)⟩
    have hle9 := hB9.size
    have HB9 := Lib.hid hB9
    clear HK9 hB9 d9
    go_loopw [17, 18, 19] (fun x17 x18 x19 wr => ∃ (m r : Nat) (b : Option Addr) (cb : Nat) (vals : List Value), x19 = .int .i64 (m : Int) ∧ m ≤ c ∧ x18 = .int .i64 (r : Int) ∧ Hid (posK (kidsL t) i m = i + r) ∧ x17 = .slice b m cb ∧ Hid (wr.ownsRow w9.heap.size 22 1 (.slice b m cb) m vals) ∧ Hid (PartsV wr b vals (partsN t i m)) ∧ Below w9.heap.size w9 wr) (fun _ _ x19 _ => c - (intOf x19).toNat)
    case atStart => exact ⟨0, 1, none, 0, [], rfl, Nat.zero_le _, rfl, hp0, rfl, Lib.hid ⟨rfl, .inl ⟨rfl, rfl⟩⟩, Lib.hid ⟨rfl, fun k t' hk => by cases hk⟩, Below.refl _ _⟩
    case round =>
      obtain ⟨m, r, b, cb, vals, rfl, hm, rfl, HPo, rfl, HO, HPV, hbr⟩ := hrel
      have hm0 : (0 : Int) ≤ (m : Int) := Int.natCast_nonneg _
      have hBr := HB9.out.trans (hbr.mono hle9)
      by_cases hlt : m < c
      · have hm1 : (m : Int) < (c : Int) := by omega
        have hmc : m < cnt (kidsL t) i := by rw [HCnt.out]; exact hlt
        obtain ⟨p, hpE⟩ : ∃ p, posK (kidsL t) i m = p := ⟨_, rfl⟩
        have HPos := Lib.hid hpE
        obtain ⟨q1, q2, q3⟩ := HT.out.pos_step HIL.out hmc
        have q4 := HT.out.pos_next HIL.out hmc
        have q5 := (HT.out.end_bd q2).2
        rw [q3, kidsL_len, HN.out] at q5
        have q6 : p < t.length := by rw [← hpE, ← kidsL_len]; exact q2
        obtain ⟨d, hd⟩ : ∃ d, (subS t p).length = d := ⟨_, rfl⟩
        have hd2 : posK (kidsL t) i (m + 1) = p + d := by
          have h1 := subS_len (t := t) (i := p) rfl (by rw [← hpE, q3, HN.out]; exact q5)
          rw [← hpE, q3] at h1
          rw [← hd, ← hpE, h1]; omega
        have HSD := Lib.hid hd
        have HNE : Hid (subS t p ≠ []) := Lib.hid (chkT_ok (chk_sub (HD.out wr hBr).2.2.2.2 q6).1).2.1
        have hpr : p = i + r := by rw [← hpE]; exact HPo.out
        have HPo2 : Hid (posK (kidsL t) i (m + 1) = i + (r + d)) := Lib.hid (by rw [hd2, hpr]; omega)
        have hrd : r + d ≤ 400 := by rw [HPo2.out] at q5; omega
        have HMC := Lib.hid hmc
        obtain ⟨gk, ok, rfl, dk⟩ := HKd.out wr hbr m hlt
        rw [hpE] at dk
        have hgk : gk < wr.heap.size := World.block_lt_of_cell? wr ⟨gk, ok + m, none⟩ dk
        have D1 := Lib.hid (Sub_c (HD.out wr hBr) q6)
        rw [HSD.out] at D1
        clear q1 q2 q3 q4 q5 q6 hd hd2 hmc hpr hpE HPo
        go_wp2_with fail
        -- MARK9
        refine D1.out.mono ?_
        rintro e' w10 ⟨g10, o10, c10, rfl, hg10, hN10, hb10⟩
        have hBr10 := hBr.trans (hb10.mono hBr.size)
        have dk10 := (hb10.cell (p := ⟨gk, ok + m, none⟩) hgk).trans dk
        have HN10 := Lib.hid hN10
        have D2 := Lib.hid (Parent_c (k := m) (HD.out w10 hBr10) HI.out HMC.out)
        rw [HPos.out] at D2
        clear dk hN10 D1
        go_wp2_with fail
        -- MARK10
        refine D2.out.mono ?_
        rintro e' w11 ⟨rfl, hb11⟩
        have hBr11 := hBr10.trans (hb11.mono hBr10.size)
        have hbr11 := hb10.trans (hb11.mono hb10.size)
        have dk11 := (hb11.cell (p := ⟨gk, ok + m, none⟩) (Nat.lt_of_lt_of_le hgk hb10.size)).trans dk10
        have D3 := Lib.hid (PathKid_c (k := m) (HD.out w11 hBr11) HI.out HMC.out HPf.out)
        rw [HPos.out, HPL.out] at D3
        clear dk10 D2
        go_wp2_with fail
        -- MARK11
        refine D3.out.mono ?_
        rintro e' w12 ⟨g12, o12, c12, rfl, d12, hb12⟩
        have hBr12 := hBr11.trans (hb12.mono hBr11.size)
        have hbr12 := hbr11.trans (hb12.mono hbr11.size)
        have hb1012 := hb11.trans (hb12.mono hb11.size)
        have HN12 := Lib.hid (HN10.out.below hb1012 (Nat.le_refl _))
        have HO12 := Lib.hid (own_below HO.out hbr12)
        have HPV12 := Lib.hid (HPV.out.below hbr12)
        have hblk : Hid (∀ p, b = some p → g10 ≠ p.block) := Lib.hid (fun p hp e => by
          rcases own_form HO.out with ⟨hv, _⟩ | ⟨gb, cc, hv, _, hgb⟩
          · cases hv; cases hp
          · cases hv; cases hp; have : g10 = gb := e; omega)
        have h912 := hbr.trans (hbr12.mono hbr.size)
        clear dk11 D3 HN10 HO HPV hb10 hb11 hb12 hbr11 hBr10 hBr11 hg10
        obtain ⟨L, hL⟩ : ∃ L, pl + 1 = L := ⟨_, rfl⟩
        rw [hL]
        have hne1 : ((L : Int) != (pl : Int) + 1) = false := by rw [bne_eq_false_iff_eq]; omega
        have hidx : (L : Int) - 1 = (pl : Int) := by omega
        have hpl0 : (0 : Int) ≤ (pl : Int) := Int.natCast_nonneg _
        have hpl1 : (pl : Int) < (L : Int) := by omega
        clear hL
        obtain ⟨i0, hi, hj0, hj1, hj2⟩ := info_parts2 infoSl
        have hm400 : m ≤ 400 := by omega
        go_wp2_with (at_builtin; refine wpList_append_lies _ rfl _ _ 37 rfl w9.heap.size 22 i0 (.slice none 0 0) 1 24 Tryd.underlying37 hi hj0 hj1 hj2 rfl (by decide) _ _ _ rfl (HO12.out.alloc _) ⟨w12.heap.size, 0, none⟩ 1 1 [.slice (some ⟨g10, o10, none⟩) d c10] rfl rfl (new_cells1 _ _ _ _ rfl) (by simp [Value.oneCell']) (by omega) (by unfold maxLen; omega) (by omega) (by rw [World.size_alloc]; have := h912.size; omega) (w12.heap.size + 1) (by simp) ?_; intro g1 cap1 w13 hown13 hgrow13 hat13 hlt13)
        -- MARK12
        obtain ⟨g10', o10', c10', e10, hg10', hc10⟩ := HN12.out.some HNE.out
        obtain ⟨e11, _, _⟩ := Value.slice.inj e10
        have e12 : g10 = g10' ∧ o10 = o10' := by cases e11; exact ⟨rfl, rfl⟩
        obtain ⟨rfl, rfl⟩ := e12
        clear e10 e11
        have hPV13 : PartsV w13 (some ⟨g1, 0, none⟩) (vals ++ [.slice (some ⟨g10, o10, none⟩) (subS t p).length c10]) (partsN t i m ++ [subS t p]) :=
          (HPV12.out.below (below_b1 w12 _)).snoc hgrow13 (hat13.imp id (fun e => by rw [World.size_alloc]; exact e)) (by rw [World.size_alloc]; omega) hblk.out (fun j u hj => (World.cell?_alloc_lt _ _ _ hg10').trans (hc10 j u hj))
        have e13 := partsN_succ t i m
        rw [HPos.out] at e13
        rw [HSD.out, ← e13] at hPV13
        clear e13
        have HPV13 := Lib.hid hPV13
        have HO13 := Lib.hid hown13
        have hb13 : Below w9.heap.size w9 w13 := (h912.alloc h912.size _).grown hgrow13 (by rw [World.size_alloc]; have := h912.size; omega) (fun j hj => (HO12.out.lt j hj).1)
        clear hPV13 hown13 hgrow13 hat13 hc10
        go_roundw
        case rel => exact ⟨m + 1, r + d, _, _, _, by go_num, by omega, by go_num, HPo2, rfl, HO13, HPV13, hb13⟩
        case measure => simp [intOf]; omega
      · obtain rfl : m = c := by omega
        have hrs : r = sl := by
          have h1 := HPo.out
          rw [← HCnt.out, HT.out.pos_end HIL.out] at h1
          have h2 := hsl.out
          rw [HSL.out] at h2
          omega
        subst hrs
        obtain ⟨d9, _⟩ := HC.out wr hBr
        have HRows : Hid (RowsAt wr (.slice b m cb) (partsN t i (cnt (kidsL t) i))) := Lib.hid (by rw [HCnt.out]; exact HPV.out.rows HO.out (partsN_len _ _ _))
        by_cases h4 : x.1 = 4
        · have e4 : (x.1 != 4) = false := by rw [bne_eq_false_iff_eq]; exact h4
          have DL := Lib.hid (List_c (HD.out wr hBr) HX.out h4 HRows.out)
          rw [HSL.out] at DL
          clear h4 HRows
          go_wp2_with fail
          -- MARK13
          refine DL.out.mono ?_
          rintro e' w14 ⟨al, cl2, rfl, hNl, hb14⟩
          have hB14 := hBr.trans (hb14.mono hBr.size)
          have DM := Lib.hid (CM.out w14 _ _ (subS t i) hNl ((HNs9.out.below hbr (Nat.le_refl _)).below hb14 (Nat.le_refl _)) hs4.out)
          clear hNl DL
          go_wp2_with fail
          -- MARK14
          refine DM.out.mono ?_
          rintro e' w15 ⟨rfl, hb15⟩
          have hB15 := hB14.trans (hb15.mono hB14.size)
          go_wp2_with fail
          refine (CS.out w15 hB15).mono ?_
          rintro e' w16 ⟨rfl, hb16⟩
          go_wp2_with fail
          go_ret
          exact ⟨rfl, hB15.trans (hb16.mono hB15.size)⟩
        · have e4 : (x.1 != 4) = true := bne_iff_ne.2 h4
          clear h4 HRows
          go_wp2_with fail
          -- MARK15
          refine (CS.out wr hBr).mono ?_
          rintro e' w16 ⟨rfl, hb16⟩
          go_wp2_with fail
          go_ret
          exact ⟨rfl, hBr.trans (hb16.mono hBr.size)⟩
theorem lawRd_arg (v : Value) (t : List Nd) (a : Int) (hw : (Lit.int .u16 a).wf = true) (w : World) (h : NdsAt w v t) (KB : KidsB t) (hcv : capOk v) (T : STabs w) :
    Calls Tryd.prog 7 #[v, .int .u16 a] w fun e w' => e = .returned (.bool true) ∧ Below w.heap.size w w' := by
  obtain ⟨h0, h1⟩ := u16_bd hw
  obtain ⟨z, rfl⟩ : ∃ z : Nat, a = (z : Int) := ⟨a.toNat, by omega⟩
  by_cases hc : (chkT symS t).2 = 0
  · exact lawRd_ok v t z w ⟨h, hcv, KB, T, hc⟩ (by omega)
  · exact lawRd_bad v t z w h KB T hc
end Go.Proofs.YtdbgmbbchjfpdaaDoor
