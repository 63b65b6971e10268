/- The law StxPuts. -/
import Derived.Test.YtbmgpenllpbioaaGreatDoorYqk
import Derived.Test.YtbmgpenllpbioaaGreatDoorYf
import Derived.Test.YtbmgpenllpbioaaGreatDoorYaw
import Derived.BigQuiet
namespace Go.Proofs.YtbmgpenllpbioaaGreatDoor
open Go.RowKit Go.PlainAid

set_option maxRecDepth 100000 in
set_option maxHeartbeats 12800000 in
theorem lawPu_go (n m k K np : Nat) (g off : Nat) (bv : Option Addr) (cv cs : Nat) (l s own P : List Sx) (ep : Int) (z i : Nat) (x : Sx) (kid : Nat → Nat) (part : Nat → List Sx) (w : World) (hv : XsAt w (.slice (some ⟨g, off, none⟩) n cv) l) (hu : XsAt w (.slice bv m cs) s) (hx : l[i]? = some x) (hin : i < n) (hz : z % n = i) (hz2 : z ≤ 65535) (hln : l.length = n)
    (CF1 : Calls Tryz.prog 10 #[.slice (some ⟨g, off, none⟩) n cv] w (FarV l w)) (CF2 : Calls Tryz.prog 10 #[.slice bv m cs] w (FarV s w))
    (CAw : ∀ W, Below w.heap.size w W → Calls Tryz.prog 11 #[] W fun e w' => e = .returned (.bool true) ∧ Below W.heap.size W w') (hlo : own.length = k)
    (HG : NearX l → NearX s → GivesPu n m k K np (some ⟨g, off, none⟩) bv cv cs l s own P ep i x kid part w) :
    Calls Tryz.prog 9 #[.slice (some ⟨g, off, none⟩) n cv, .slice bv m cs, .int .u16 (z : Int)] w fun e w' => e = .returned (.bool true) ∧ Below w.heap.size w w' := by
  replace CF1 := Lib.hid CF1
  replace CF2 := Lib.hid CF2
  replace CAw := Lib.hid CAw
  replace HG := Lib.hid HG
  have HV := Lib.hid hv
  have HU := Lib.hid hu
  have HLo := Lib.hid hlo
  have HLn := Lib.hid hln
  have CS : Hid (∀ v u L W, XsAt W v L → XsAt W u L → L.length ≤ 1000000 → Calls Tryz.prog 23 #[v, u] W fun e w' => e = .returned (.bool true) ∧ Below W.heap.size W w') := Lib.hid fun v u L W h1 h2 h3 => sameTree_any v u L W h1 h2 h3
  have HC : Hid (∀ W, Below w.heap.size w W → W.cell? ⟨g, off + i * 8, none⟩ = some (.int .i64 x.k) ∧ W.cell? ⟨g, off + i * 8 + 1, none⟩ = some (.int .i64 x.c) ∧ W.cell? ⟨g, off + i * 8 + 2, none⟩ = some (.int .i64 x.n) ∧ W.cell? ⟨g, off + i * 8 + 3, none⟩ = some (.string (str x.s)) ∧
      W.cell? ⟨g, off + i * 8 + 4, none⟩ = some (.string (str x.p)) ∧ W.cell? ⟨g, off + i * 8 + 5, none⟩ = some (.int .i64 x.f) ∧ W.cell? ⟨g, off + i * 8 + 6, none⟩ = some (.int .i64 x.t) ∧ W.cell? ⟨g, off + i * 8 + 7, none⟩ = some (.int .i64 x.o)) := Lib.hid fun W hW => by
    obtain ⟨g', off', e, _, h⟩ := (hv.below hW (Nat.le_refl _)).node hx
    cases e; exact h
  have hn0 : ((n : Int) == 0) = false := beq_eq_false_iff_ne.2 (by omega)
  have hn1 : (n : Int) ≠ 0 := by omega
  have hrem : (z : Int).tmod (n : Int) = (i : Int) := by rw [← hz]; exact (Int.ofNat_tmod z n).symm
  have hi0 : (0 : Int) ≤ (i : Int) := Int.natCast_nonneg _
  have hi1 : (i : Int) < (n : Int) := by omega
  clear hv hu hx hln hlo hz
  go_enter Tryz.func9, Tryz.ntmps9
  go_wp2_with fail
  refine CF1.out.mono ?_
  rintro e w0 ⟨bf, rfl, HN, hw0⟩
  obtain rfl : w = w0 := hw0.symm
  cases bf
  case true =>
    clear HN
    go_wp2_with fail
    refine (CAw.out _ (Below.refl _ _)).mono ?_
    rintro e w9 ⟨rfl, hb9⟩
    go_wp2_with fail
    go_ret
    exact ⟨rfl, hb9⟩
  have HN1 := Lib.hid (HN.out rfl)
  clear HN
  go_wp2_with fail
  refine CF2.out.mono ?_
  rintro e w0 ⟨bf, rfl, HN, hw0⟩
  obtain rfl : w = w0 := hw0.symm
  cases bf
  case true =>
    clear HN
    go_wp2_with fail
    refine (CAw.out _ (Below.refl _ _)).mono ?_
    rintro e w9 ⟨rfl, hb9⟩
    go_wp2_with fail
    go_ret
    exact ⟨rfl, hb9⟩
  have hG := HG.out HN1.out (HN.out rfl)
  obtain ⟨hK, hn2, hm2, hk2⟩ := hG.kn
  have Ccl := Lib.hid hG.cl
  have Ccs := Lib.hid hG.c2
  have Csub := Lib.hid hG.sub
  have Cpo := Lib.hid hG.po
  have Cps := Lib.hid hG.ps
  have Csp := Lib.hid hG.sp
  have Cpb := Lib.hid hG.pb
  have Ckd := Lib.hid hG.kd
  have Csk := Lib.hid hG.sk
  have Cli := Lib.hid hG.li
  have HSl : Hid (l.length ≤ 1000000) := Lib.hid (by rw [HLn.out]; omega)
  have HSo : Hid (own.length ≤ 1000000) := Lib.hid (by rw [HLo.out]; omega)
  have HSs : Hid (s.length ≤ 1000000) := Lib.hid (by
    obtain ⟨_, _, _, e, h1, _⟩ := HU.out
    obtain ⟨rfl, rfl, rfl⟩ := Value.slice.inj e
    omega)
  clear HN HG hG HN1 CF1 CF2
  go_wp2_with fail
  refine (Ccl.out w (Below.refl _ _)).mono ?_
  rintro e w1 ⟨rfl, hb1⟩
  go_wp2_with fail
  refine (Ccs.out w1 hb1).mono ?_
  rintro e w2 ⟨rfl, hb2⟩
  have hB2 := below_step hb1 hb2
  clear hb1 hb2
  go_wp2_with fail
  -- MARK1
  refine (Csub.out w2 hB2).mono ?_
  rintro e w3 ⟨a3, c3, rfl, hx3, hb3⟩
  have hB3 := below_step hB2 hb3
  clear hb3 hrem hn0 hn1
  go_wp2_with fail
  refine (Cpo.out w3 _ hB3 hx3.out).mono ?_
  rintro e w4 ⟨a4, c4, rfl, hx4, hb4⟩
  have hB4 := below_step hB3 hb4
  go_wp2_with fail
  refine (CS.out _ _ l _ hx4.out (HV.out.below hB4 (Nat.le_refl _)) HSl.out).mono ?_
  rintro e w5 ⟨rfl, hb5⟩
  have hB5 := below_step hB4 hb5
  have HX5 := Lib.hid (hx3.out.below (below_step hb4 hb5) (Nat.le_refl _))
  clear hb4 hb5 hx4 hx3
  go_wp2_with fail
  -- MARK2
  refine (Cps.out w5 hB5).mono ?_
  rintro e w6 ⟨a6, c6, rfl, hx6, hb6⟩
  have hB6 := below_step hB5 hb6
  have HX6 := Lib.hid (HX5.out.below hb6 (Nat.le_refl _))
  have hle6 := hB6.size
  clear hb6 HX5
  go_upto_if 92 with (fail)
  -- MARK3
  go_cut [15, 16, 17, 18] from 93 to 123 (fun _ _ _ _ wx => Hid (XsAt wx (.slice a3 k c3) own) ∧ Below w.heap.size w wx)
  case first =>
    by_cases hep : ep = 0
    · have Csp0 := Lib.hid (Csp.out hep)
      have Cpb0 := Lib.hid (Cpb.out hep)
      subst hep
      have q0 : ((0 : Int) == 0) = true := rfl
      go_wp2_with fail
      refine (Csp0.out w6 _ hB6 hx6.out).mono ?_
      rintro e w7 ⟨a7, c7, rfl, hx7, hb7⟩
      have hB7 := below_step hB6 hb7
      have hx67 := hx6.out.below hb7 (Nat.le_refl _)
      have HX7 := Lib.hid (HX6.out.below hb7 (Nat.le_refl _))
      go_wp2_with fail
      refine (Cpb0.out w7 _ _ hB7 hx67 HX7.out).mono ?_
      rintro e w8 ⟨a8, c8, rfl, hx8, hb8⟩
      have hB8 := below_step hB7 hb8
      have hx78 := hx7.out.below hb8 (Nat.le_refl _)
      have HX8 := Lib.hid (HX7.out.below hb8 (Nat.le_refl _))
      go_wp2_with fail
      refine (CS.out _ _ s _ hx78 (HU.out.below hB8 (Nat.le_refl _)) HSs.out).mono ?_
      rintro e w9 ⟨rfl, hb9⟩
      have hB9 := below_step hB8 hb9
      go_wp2_with fail
      refine (CS.out _ _ l _ (hx8.out.below hb9 (Nat.le_refl _)) (HV.out.below hB9 (Nat.le_refl _)) HSl.out).mono ?_
      rintro e w10 ⟨rfl, hb10⟩
      have hB10 := below_step hB9 hb10
      have HX10 := Lib.hid (HX8.out.below (below_step hb9 hb10) (Nat.le_refl _))
      go_wp2_with fail
      go_meet
      exact ⟨HX10, hB10⟩
    · have q0 : (ep == 0) = false := beq_eq_false_iff_ne.2 hep
      clear hep
      go_wp2_with fail
      go_meet
      exact ⟨HX6, hB6⟩
  case rest =>
    -- MARK4
    obtain ⟨HX, hB⟩ := hcut
    obtain ⟨d0, d1, d2, d3, d4, d5, d6, d7⟩ := HC.out _ hB
    by_cases h4 : x.k = 4
    case neg =>
      have e4 : (x.k != 4) = true := bne_iff_ne.2 h4
      clear d1 d2 d3 d4 d5 d6 d7 h4
      go_wp2_with fail
      refine (CAw.out _ hB).mono ?_
      rintro e w9 ⟨rfl, hb9⟩
      go_wp2_with fail
      go_ret
      exact ⟨rfl, below_step hB hb9⟩
    have e4 : (x.k != 4) = false := by rw [h4]; rfl
    have CL4 := Lib.hid (Cli.out h4)
    clear d1 d2 d3 d4 d5 d6 d7 h4
    go_wp2_with fail
    refine (Ckd.out _ hB).mono ?_
    rintro e w11 ⟨ak, ck, rfl, HKc, hb11⟩
    have hB11 := below_step hB hb11
    have HX11 := Lib.hid (HX.out.below hb11 (Nat.le_refl _))
    have HB11 := Lib.hid hB11
    have hle11 := hB11.size
    clear d0 HX hb11 hB hB11
    go_wp2_with fail
    -- MARK5
    go_loopw [20, 21] (fun x20 x21 wr => ∃ (j : Nat) (b : Option Addr) (cb : Nat) (vals : List Value), x21 = .int .i64 (j : Int) ∧ j ≤ K ∧ x20 = .slice b j cb ∧ Hid (wr.ownsRow w11.heap.size 22 1 (.slice b j cb) j vals) ∧ Hid (PartsX wr b vals ((List.range j).map part)) ∧ Below w11.heap.size w11 wr) (fun _ x21 _ => K - (intOf x21).toNat)
    case atStart => exact ⟨0, none, 0, [], rfl, Nat.zero_le _, rfl, Lib.hid ⟨rfl, .inl ⟨rfl, rfl⟩⟩, Lib.hid ⟨rfl, fun k t' hk => by simp at hk⟩, Below.refl _ _⟩
    case round =>
      obtain ⟨j, b, cb, vals, rfl, hj, rfl, HO, HPV, hbr⟩ := hrel
      have hj0 : (0 : Int) ≤ (j : Int) := Int.natCast_nonneg _
      have hBr := below_step HB11.out hbr
      by_cases hlt : j < K
      · have hj1 : (j : Int) < (K : Int) := by omega
        obtain ⟨gk, ok, rfl, hgk, dk⟩ := HKc.out j hlt
        have dkr := (hbr.cell (p := ⟨gk, ok + j, none⟩) hgk).trans dk
        have D1 := Lib.hid (Csk.out wr j hBr hlt)
        obtain ⟨d, hd⟩ : ∃ d, (part j).length = d := ⟨_, rfl⟩
        have HD := Lib.hid hd
        rw [hd] at D1
        clear dk hd
        go_wp2_with fail
        -- MARK6
        refine D1.out.mono ?_
        rintro e w12 ⟨g12, c12, rfl, HF12, hb12⟩
        have HO12 := Lib.hid (own_below HO.out hb12)
        have HPV12 := Lib.hid (HPV.out.below hb12)
        have hblk : Hid (∀ p, b = some p → g12 ≠ p.block) := Lib.hid (fun p hp e => by
          have hg := HF12.out.1
          rcases own_formR HO.out with ⟨hv, _⟩ | ⟨gb, cc, hv, _, hgb⟩
          · cases hv; cases hp
          · cases hv; cases hp; have : g12 = gb := e; omega)
        have h1112 := below_step hbr hb12
        have hle12 := h1112.size
        obtain ⟨i0, hi, hj0', hj1', hj2⟩ := info_parts2 infoSlX
        have hjb : j ≤ 2010 := by omega
        clear D1 HO HPV hb12 dkr
        go_wp2_with (at_builtin; refine wpList_append_lies _ rfl _ _ 41 rfl w11.heap.size 22 i0 (.slice none 0 0) 1 24 Tryz.underlying41 hi hj0' hj1' hj2 rfl (by decide) _ _ _ rfl (HO12.out.alloc _) ⟨w12.heap.size, 0, none⟩ 1 1 [.slice (some ⟨g12, 0, none⟩) d c12] rfl rfl (new_cells1 _ _ _ _ rfl) (by simp [Value.oneCell']) (by omega) (by unfold maxLen; omega) (by omega) (by rw [World.size_alloc]; omega) (w12.heap.size + 1) (by simp) ?_; intro g1 cap1 w13 hown13 hgrow13 hat13 hlt13)
        -- MARK7
        obtain ⟨_, hg12, hx12⟩ := HF12.out
        obtain ⟨_, _, _, e12, hn12, hc12, hr12⟩ := hx12
        obtain ⟨rfl, rfl, rfl⟩ := Value.slice.inj e12
        have hPV13 : PartsX w13 (some ⟨g1, 0, none⟩) (vals ++ [.slice (some ⟨g12, 0, none⟩) (part j).length c12]) ((List.range j).map part ++ [part j]) :=
          (HPV12.out.below (below_b1 w12 _)).snoc hgrow13 (hat13.imp id (fun e => by rw [World.size_alloc]; exact e)) (by rw [World.size_alloc]; omega) hblk.out (by rw [← hn12]; exact hc12) (fun k u hk => by
            rcases hr12 with h0 | ⟨g', o', e', _, hc'⟩
            · rw [h0] at hk; simp [xcs] at hk
            · cases e'; exact (World.cell?_alloc_lt _ _ _ hg12).trans (hc' k u hk))
        have e13 : (List.range (j + 1)).map part = (List.range j).map part ++ [part j] := by rw [List.range_succ, List.map_append]; rfl
        rw [HD.out, ← e13] at hPV13
        clear e13
        have HPV13 := Lib.hid hPV13
        have HO13 := Lib.hid hown13
        have hb13 : Below w11.heap.size w11 w13 := (h1112.alloc h1112.size _).grown hgrow13 (by rw [World.size_alloc]; omega) (fun j hj => (HO12.out.lt j hj).1)
        clear hPV13 hown13 hgrow13 hat13 hr12 hn12 hc12 e12
        go_roundw
        case rel => exact ⟨j + 1, _, _, _, by go_num, by omega, rfl, HO13, HPV13, hb13⟩
        case measure => simp [intOf]; omega
      · obtain rfl : j = K := by omega
        have DL := Lib.hid (CL4.out wr _ hBr (HPV.out.rows HO.out (by simp)))
        obtain ⟨d0, d1, d2, d3, d4, d5, d6, d7⟩ := HC.out _ hBr
        clear HPV HO
        go_wp2_with fail
        -- MARK8
        refine DL.out.mono ?_
        rintro e w14 ⟨a14, c14, rfl, hx14, hb14⟩
        have hB14 := below_step hBr hb14
        have hX14 := (HX11.out.below hbr (Nat.le_refl _)).below hb14 (Nat.le_refl _)
        clear d0 d1 d2 d3 d4 d5 d6 d7
        go_wp2_with fail
        refine (CS.out _ _ own _ hx14.out hX14 HSo.out).mono ?_
        rintro e w15 ⟨rfl, hb15⟩
        have hB15 := below_step hB14 hb15
        go_wp2_with fail
        refine (CAw.out _ hB15).mono ?_
        rintro e w16 ⟨rfl, hb16⟩
        go_wp2_with fail
        go_ret
        exact ⟨rfl, below_step hB15 hb16⟩
theorem lawPu_any (v u : Value) (l s : List Sx) (a : Int) (hw : (Lit.int .u16 a).wf = true) (w : World) (h : XsAt w v l) (h2 : XsAt w u s) (hi : InX l) (hi2 : InX s) (T : XTabs w) :
    Calls Tryz.prog 9 #[v, u, .int .u16 a] w fun e w' => e = .returned (.bool true) ∧ Below w.heap.size w w' := by
  obtain ⟨z, rfl, hz⟩ : ∃ z : Nat, a = (z : Int) ∧ z ≤ 65535 := by
    have := u16_bdX hw
    exact ⟨a.toNat, by omega, by omega⟩
  obtain ⟨av, cv, rfl, hc⟩ := h.slice
  obtain ⟨bv, cs, rfl, hc2⟩ := h2.slice
  have hv : ∀ W, Below w.heap.size w W → XsAt W (.slice av l.length cv) l := fun W hW => h.below hW (Nat.le_refl _)
  have hu : ∀ W, Below w.heap.size w W → XsAt W (.slice bv s.length cs) s := fun W hW => h2.below hW (Nat.le_refl _)
  have CAw : ∀ W, Below w.heap.size w W → Calls Tryz.prog 11 #[] W fun e w' => e = .returned (.bool true) ∧ Below W.heap.size W w' := fun W hW => awakeX_any W (T.below hW)
  by_cases e1 : (chkX l).2 = 0 ∧ (chkX s).2 = 0
  · obtain ⟨e1, e2⟩ := e1
    have hpos := List.length_pos_iff.2 (chkX_tree e1).2.1
    have hlt : z % l.length < l.length := Nat.mod_lt _ hpos
    obtain ⟨x, hx⟩ : ∃ x, l[z % l.length]? = some x := ⟨_, List.getElem?_eq_getElem hlt⟩
    obtain ⟨g, off, rfl, _⟩ := h.node hx
    exact lawPu_go l.length s.length _ _ _ g off bv cv cs l s _ _ _ z _ x _ _ w h h2 hx hlt rfl hz rfl (farX_any _ l w h) (farX_any _ s w h2) CAw rfl
      (fun n1 n2 => givesPu h h2 n1.sm hi n2.sm hi2 T.st e1 e2 hx rfl rfl)
  · refine lawPu_bad l.length s.length av bv cv cs l s z w (farX_any _ l w h) (farX_any _ s w h2) CAw (chkX l).1 (chkX l).2 (chkX s).1 (chkX s).2 ?_ ?_ ?_
    · exact fun n1 W hW => Check_x _ l W (hv W hW) n1.sm hi (T.below hW).st
    · exact fun n1 W hW => Check_x _ s W (hu W hW) n1.sm hi2 (T.below hW).st
    · by_cases h1 : (chkX l).2 = 0
      · exact .inr ⟨h1, fun h2 => e1 ⟨h1, h2⟩⟩
      · exact .inl h1
-- MARK9
end Go.Proofs.YtbmgpenllpbioaaGreatDoor
