/- The reference's place and Rename. -/
import Derived.Test.YtkngkajojcmmlaaGreatDoorZl
namespace Go.Proofs.YtkngkajojcmmlaaGreatDoor
open Go.RowKit Go.PlainAid

set_option maxRecDepth 50000 in
set_option maxHeartbeats 1600000 in
theorem rplace_any (v : Value) (l : Ls) (s : List UInt8) (w : World) (h : StrRow w v l) (hl : l.length ≤ 1000000) :
    Calls Tryz.prog 34 #[v, .string (str s)] w fun e w' => e = .returned (.int .i64 (plcS l s)) ∧ w = w' := by
  obtain ⟨a, c, rfl, hA⟩ := h
  have HA := Lib.hid hA
  obtain ⟨n, hn⟩ : ∃ n, l.length = n := ⟨_, rfl⟩
  have HN := Lib.hid hn
  have HB := Lib.hid (fun x => str_beq x s)
  obtain ⟨z, hz⟩ : ∃ z, str s = z := ⟨_, rfl⟩
  rw [hz] at HB ⊢
  obtain ⟨R, hR⟩ : ∃ R, plcS l s = R := ⟨_, rfl⟩
  have HR := Lib.hid hR
  rw [hn] at hl ⊢
  rw [hR]
  clear hA hn hz hR
  go_enter Tryz.func34, Tryz.ntmps34
  go_wp2_with fail
  go_loop [5] (fun x => ∃ k : Nat, x = .int .i64 (k : Int) ∧ k ≤ n ∧ Hid (plcF s (l.drop k) k = R)) (fun x => n - (intOf x).toNat)
  case atStart => exact ⟨0, rfl, Nat.zero_le _, Lib.hid (by rw [List.drop_zero]; exact HR.out)⟩
  case round =>
    obtain ⟨k, rfl, hk, HE⟩ := hrel
    have hk0 : (0 : Int) ≤ (k : Int) := Int.natCast_nonneg _
    by_cases hlt : k < n
    · obtain ⟨x, hx⟩ : ∃ x, l[k]? = some x := ⟨_, List.getElem?_eq_getElem (by rw [HN.out]; exact hlt)⟩
      have hk1 : (k : Int) < (n : Int) := by omega
      rcases HA.out with hnil | ⟨g, off, rfl, hg, hc⟩
      · rw [hnil] at hx; cases hx
      have d0 := hc k x hx
      have hst := plc_step (s := s) hx
      rw [HE.out] at hst
      have HSt := Lib.hid hst
      have hbq := HB.out x
      obtain ⟨y, hy⟩ : ∃ y, str x = y := ⟨_, rfl⟩
      rw [hy] at d0 hbq
      clear hx hst hc hy
      by_cases h0 : x = s
      · rw [decide_eq_true h0] at hbq
        have HF : Hid (R = (k : Int)) := Lib.hid (by rw [HSt.out, if_pos h0])
        clear h0
        go_wp2_with fail
        go_ret
        exact ⟨by rw [HF.out]; rfl, rfl⟩
      · rw [decide_eq_false h0] at hbq
        have HE2 : Hid (plcF s (l.drop (k + 1)) (k + 1) = R) := Lib.hid (by rw [HSt.out, if_neg h0])
        clear h0
        go_wp2_with fail
        go_round
        case rel => exact ⟨k + 1, by go_num, by omega, HE2⟩
        case measure => simp [intOf]; omega
    · obtain rfl : k = n := by omega
      have HF : Hid (R = -1) := Lib.hid (by rw [← HE.out, List.drop_of_length_le (Nat.le_of_eq HN.out)]; rfl)
      go_wp2_with fail
      go_ret
      exact ⟨by rw [HF.out]; rfl, rfl⟩
set_option maxRecDepth 50000 in
set_option maxHeartbeats 6400000 in
theorem rRename_any (v v1 v2 : Value) (t : List Nd) (f g : Ls) (w : World) (h : NdsAt w v t) (hf : StrRow w v1 f) (hg : StrRow w v2 g) (KB : KidsB t) (hfl : f.length ≤ 1000) :
    Calls Tryz.prog 13 #[v, v1, v2] w (ansR (renU t f g) (renE t f g) w) := by
  have C1 := Lib.hid (RCheck_any symS v t w h (Lib.hid (rsymAll w)) (Lib.hid KB))
  unfold chkTV at C1
  have CSy := Lib.hid (fun (s : List UInt8) (W : World) (_ : Below w.heap.size w W) => rsymAll W s W (Below.refl _ _))
  have HFr := Lib.hid (fun (W : World) (hW : Below w.heap.size w W) => hf.below hW)
  have HGr := Lib.hid (fun (W : World) (hW : Below w.heap.size w W) => hg.below hW)
  have HRet := Lib.hid (fun (z : Int) (w' : World) (h : renE t f g = z) (hz : z ≠ 0) (hb : Below w.heap.size w w') => ren_ret h hz hb)
  obtain ⟨a1, c1, hv1, _⟩ := hf
  obtain ⟨a2, c2, hv2, _⟩ := hg
  subst hv1
  subst hv2
  obtain ⟨nf, hnf⟩ : ∃ n, f.length = n := ⟨_, rfl⟩
  obtain ⟨ng, hng⟩ : ∃ n, g.length = n := ⟨_, rfl⟩
  have HNf := Lib.hid hnf
  have HNg := Lib.hid hng
  rw [hnf] at HFr hfl ⊢
  rw [hng] at HGr ⊢
  obtain ⟨a0, c0, hv0⟩ := h.slice
  obtain ⟨n, hn⟩ : ∃ n, t.length = n := ⟨_, rfl⟩
  have HN := Lib.hid hn
  have HNd := Lib.hid h
  rw [hn] at hv0
  subst hv0
  obtain ⟨ci, hci⟩ : ∃ ci, (chkT symS t).1 = ci := ⟨_, rfl⟩
  rw [hci] at C1
  clear hci
  by_cases hc : (chkT symS t).2 = 0
  · have hc' := Lib.hid hc
    rw [hc] at C1
    clear h KB hnf hng hn
    by_cases hlen : nf = ng
    · subst hlen
      have hne : ((nf : Int) != (nf : Int)) = false := by simp
      go_enter Tryz.func13, Tryz.ntmps13
      go_wp2_with fail
      refine C1.out.mono ?_
      rintro e w2 ⟨rfl, hb2⟩
      have hB2 := hb2
      clear hb2 C1 hc
      go_wp2_with fail
      -- MARK1
      go_loopw [10] (fun x27 wr => ∃ k : Nat, x27 = .int .i64 (k : Int) ∧ k ≤ nf ∧ Hid (∀ (j : Nat) s, j < k → (f[j]? = some s ∨ g[j]? = some s) → symS s = true) ∧ Below w.heap.size w wr) (fun x27 _ => nf - (intOf x27).toNat)
      case atStart => exact ⟨0, rfl, Nat.zero_le _, Lib.hid (fun j s hj => by omega), hB2⟩
      case round =>
        obtain ⟨k, rfl, hk, HSo, hbr⟩ := hrel
        have hk0 : (0 : Int) ≤ (k : Int) := Int.natCast_nonneg _
        by_cases hlt : k < nf
        · obtain ⟨x, hx⟩ : ∃ x, f[k]? = some x := ⟨_, List.getElem?_eq_getElem (by rw [HNf.out]; exact hlt)⟩
          obtain ⟨y, hy⟩ : ∃ y, g[k]? = some y := ⟨_, List.getElem?_eq_getElem (by rw [HNg.out]; exact hlt)⟩
          have hk1 : (k : Int) < (nf : Int) := by omega
          have hd : decide ((k : Int) < (nf : Int)) = true := decide_eq_true hk1
          obtain ⟨g1, o1, rfl, hg1, d1⟩ := (HFr.out wr hbr).cellAt hx
          have HGr2 := HGr
          obtain ⟨g2, o2, rfl, hg2, d2⟩ := (HGr.out wr hbr).cellAt hy
          have HBad : Hid ((symS x = false ∨ symS y = false) → renE t f g = 6) := Lib.hid fun hh => by
            unfold renE
            rw [if_neg (by rw [hc'.out]; simp), if_neg (by rw [HNf.out, HNg.out]; simp), if_pos]
            rw [Bool.and_eq_false_iff]
            rcases hh with hh | hh
            · exact .inl (List.all_eq_false.2 ⟨x, List.mem_of_getElem? hx, by rw [hh]; simp⟩)
            · exact .inr (List.all_eq_false.2 ⟨y, List.mem_of_getElem? hy, by rw [hh]; simp⟩)
          have CX := Lib.hid (CSy.out x wr hbr)
          have HXk := Lib.hid hx
          have HYk := Lib.hid hy
          obtain ⟨b1, hb1⟩ : ∃ b, symS x = b := ⟨_, rfl⟩
          obtain ⟨b2, hb2⟩ : ∃ b, symS y = b := ⟨_, rfl⟩
          have HB1 := Lib.hid hb1
          have HB2 := Lib.hid hb2
          rw [hb1] at CX
          clear hx hy hb1 hb2 HGr2
          go_wp2_with fail
          -- MARK2
          refine CX.out.mono ?_
          rintro e w3 ⟨rfl, hb3⟩
          have hbr3 := hbr.trans (hb3.mono hbr.size)
          cases b1 with
          | false =>
            go_wp2_with fail
            go_ret2
            exact HRet.out 6 _ (HBad.out (.inl HB1.out)) (by decide) hbr3
          | true =>
            have CY := Lib.hid (CSy.out y w3 hbr3)
            rw [HB2.out] at CY
            have d3 := (hb3.cell (p := ⟨g2, o2 + k, none⟩) hg2).trans d2
            go_wp2_with fail
            -- MARK3
            refine CY.out.mono ?_
            rintro e w4 ⟨rfl, hb4⟩
            have hbr4 := hbr3.trans (hb4.mono hbr3.size)
            cases b2 with
            | false =>
              go_wp2_with fail
              go_ret2
              exact HRet.out 6 _ (HBad.out (.inr HB2.out)) (by decide) hbr4
            | true =>
              have HSo2 : Hid (∀ (j : Nat) s, j < k + 1 → (f[j]? = some s ∨ g[j]? = some s) → symS s = true) := Lib.hid fun j s hj hs => by
                by_cases e : j = k
                · subst e
                  rcases hs with hs | hs
                  · rw [HXk.out] at hs; rw [← Option.some.inj hs]; exact HB1.out
                  · rw [HYk.out] at hs; rw [← Option.some.inj hs]; exact HB2.out
                · exact HSo.out j s (by omega) hs
              go_wp2_with fail
              go_roundw
              case rel => exact ⟨k + 1, by go_num, by omega, HSo2, hbr4⟩
              case measure => simp [intOf]; omega
        · obtain rfl : nf = k := by omega
          have hd : decide ((nf : Int) < (nf : Int)) = false := decide_eq_false (Int.lt_irrefl _)
          have HAll : Hid ((f.all symS && g.all symS) = true) := Lib.hid (by
            rw [Bool.and_eq_true, List.all_eq_true, List.all_eq_true]
            constructor
            · intro s hs
              obtain ⟨j, hj⟩ := List.getElem?_of_mem hs
              exact HSo.out j s (by rw [← HNf.out]; exact (List.getElem?_eq_some_iff.1 hj).1) (.inl hj)
            · intro s hs
              obtain ⟨j, hj⟩ := List.getElem?_of_mem hs
              exact HSo.out j s (by rw [← HNg.out]; exact (List.getElem?_eq_some_iff.1 hj).1) (.inr hj))
          clear HSo
          go_wp2_with fail
          -- MARK4
          obtain ⟨wo, hwo⟩ : ∃ x, x = wr := ⟨_, rfl⟩
          subst hwo
          go_loopw [11] (fun x11 wr => ∃ k : Nat, x11 = .int .i64 (k : Int) ∧ k ≤ nf ∧ Hid (∀ (j : Nat) s, j < k → f[j]? = some s → (j : Int) ≤ plcS f s) ∧ Below w.heap.size w wr) (fun x11 _ => nf - (intOf x11).toNat)
          case atStart => exact ⟨0, rfl, Nat.zero_le _, Lib.hid (fun j s hj => by omega), hbr⟩
          case round =>
            obtain ⟨k, rfl, hk, HNd2, hbr⟩ := hrel
            have hk0 : (0 : Int) ≤ (k : Int) := Int.natCast_nonneg _
            by_cases hlt : k < nf
            · obtain ⟨x, hx⟩ : ∃ x, f[k]? = some x := ⟨_, List.getElem?_eq_getElem (by rw [HNf.out]; exact hlt)⟩
              have hk1 : (k : Int) < (nf : Int) := by omega
              have hd2 : decide ((k : Int) < (nf : Int)) = true := decide_eq_true hk1
              have CP := Lib.hid (rplace_any (.slice a1 nf c1) f x wr (HFr.out wr hbr) (by rw [HNf.out]; omega))
              obtain ⟨g1, o1, rfl, hg1, d1⟩ := (HFr.out wr hbr).cellAt hx
              obtain ⟨q, hq⟩ : ∃ q, plcS f x = q := ⟨_, rfl⟩
              rw [hq] at CP
              by_cases hqk : q < (k : Int)
              · have hdq : decide (q < (k : Int)) = true := decide_eq_true hqk
                have HE8 : Hid (renE t f g = 8) := Lib.hid (by
                  have hnd : ¬ f.Nodup := fun hnd => by
                    have := (nodup_iff_plc f).1 hnd k x hx
                    omega
                  unfold renE
                  rw [if_neg (by rw [hc'.out]; simp), if_neg (by rw [HNf.out, HNg.out]; simp), if_neg (by rw [HAll.out]; simp), if_pos (by simpa using hnd)])
                clear hx hq hqk
                go_wp2_with (go_at_call 34; refine CP.out.mono ?_; rintro e w5 ⟨rfl, rfl⟩)
                go_ret2
                exact HRet.out 8 _ HE8.out (by decide) hbr
              · have hdq : decide (q < (k : Int)) = false := decide_eq_false hqk
                have HNd3 : Hid (∀ (j : Nat) s, j < k + 1 → f[j]? = some s → (j : Int) ≤ plcS f s) := Lib.hid fun j s hj hs => by
                  by_cases e : j = k
                  · subst e; rw [hx] at hs; rw [← Option.some.inj hs, hq]; omega
                  · exact HNd2.out j s (by omega) hs
                clear hx hq hqk
                go_wp2_with (go_at_call 34; refine CP.out.mono ?_; rintro e w5 ⟨rfl, rfl⟩)
                exact ⟨⟨k + 1, by go_num, by omega, HNd3, hbr⟩, by simp [intOf]; omega⟩
            · obtain rfl : nf = k := by omega
              have hd2 : decide ((nf : Int) < (nf : Int)) = false := decide_eq_false (Int.lt_irrefl _)
              have hnd : f.Nodup := (nodup_iff_plc f).2 fun i s hs => HNd2.out i s (by rw [← HNf.out]; exact (List.getElem?_eq_some_iff.1 hs).1) hs
              have hE : renE t f g = 0 := by
                unfold renE
                rw [if_neg (by rw [hc'.out]; simp), if_neg (by rw [HNf.out, HNg.out]; simp), if_neg (by rw [HAll.out]; simp), if_neg (by simp [hnd])]
              have HE := Lib.hid hE
              have hU : renU t f g = renL f g t := by unfold renU; rw [if_pos hE]
              have HU := Lib.hid hU
              obtain ⟨gt, ot, ct, hv, hgt, hcl⟩ := HNd.out.some (chkT_ok hc'.out).2.1
              rw [HN.out] at hv
              obtain ⟨rfl, _, rfl⟩ := Value.slice.inj hv
              have h400 : n ≤ 400 := by rw [← HN.out]; exact (chkT_ok hc'.out).2.2.1
              have HCl := Lib.hid hcl
              have HO := Lib.hid (own_empty wr 40 4 wr.heap.size (Nat.le_refl _))
              have hb1 := below_b1 wr (.cells #[] 40)
              have HC : Hid (∀ (j : Nat) (u : Value), (dcs t)[j]? = some u → (wr.alloc (.cells #[] 40)).cell? ((⟨gt, ot, none⟩ : Addr).add j) = some u) := Lib.hid fun j u hj => by
                rw [Go.WideShapes.add_plain, World.cell?_alloc_lt _ _ _ (Nat.lt_of_lt_of_le hgt hbr.size)]; exact (hbr.cell (p := ⟨gt, ot + j, none⟩) hgt).trans (HCl.out j u hj)
              have HL := Lib.hid (show (dcs t).length = n * 4 by rw [dcs_len, HN.out])
              obtain ⟨i0, hi, hz0, hz1, hz2⟩ := info_parts2 infoNd
              have HSz := Lib.hid (World.size_alloc wr (.cells #[] 40))
              have hpos : 0 < n := by rw [← HN.out]; exact List.length_pos_iff.2 (chkT_ok hc'.out).2.1
              clear hcl hv hE hU hnd HAll HNd2
              go_wp2_with (at_builtin; refine wpList_append_own _ rfl _ _ 22 rfl wr.heap.size 40 i0 zeroNd 4 40 Tryz.underlying22 hi hz0 hz1 hz2 rfl (by decide) _ _ _ rfl HO.out ⟨gt, ot, none⟩ n _ (dcs t) rfl HL.out HC.out (one_dcs t) (by unfold maxLen; omega) (by omega) hb1.size ?_; intro v' w4 hown4 hgrow4 _; have hb4 : Below wr.heap.size wr w4 := hb1.grown hgrow4 hb1.size (fun i hi => (HO.out.lt i hi).1); rw [Nat.zero_add, List.nil_append] at hown4; obtain ⟨gu, cu, rfl, hgu1, hgu2⟩ : ∃ gu cu, v' = .slice (some ⟨gu, 0, none⟩) n cu ∧ wr.heap.size ≤ gu ∧ gu < w4.heap.size := (by (rcases own_form hown4 with ⟨_, h0⟩ | h0; omega; exact h0)))
              -- MARK5
              have hbr4 := hbr.trans (hb4.mono hbr.size)
              have hBg : w.heap.size ≤ gu := Nat.le_trans hbr.size hgu1
              have HO4 : Hid (w4.ownsRow wr.heap.size 40 4 (.slice (some ⟨gu, 0, none⟩) n cu) n (dcs (renK f g t 0))) := Lib.hid (by rw [renK_0]; exact hown4)
              obtain ⟨B, hB⟩ : ∃ B, wr.heap.size = B := ⟨_, rfl⟩
              rw [hB] at HO4
              clear hb4 hown4 hgrow4 HO hb1 HC HSz hB hgu1 hbr
              go_loopw [13] (fun x13 wr => ∃ k : Nat, x13 = .int .i64 (k : Int) ∧ k ≤ n ∧ Hid (wr.ownsRow B 40 4 (.slice (some ⟨gu, 0, none⟩) n cu) n (dcs (renK f g t k))) ∧ Below w.heap.size w wr ∧ gu < wr.heap.size) (fun x13 _ => n - (intOf x13).toNat)
              case atStart => exact ⟨0, rfl, Nat.zero_le _, HO4, hbr4, hgu2⟩
              case round =>
                obtain ⟨k, rfl, hk, HO, hbr, hgur⟩ := hrel
                have hk0 : (0 : Int) ≤ (k : Int) := Int.natCast_nonneg _
                by_cases hlt : k < n
                · obtain ⟨x, hx⟩ : ∃ x, t[k]? = some x := ⟨_, List.getElem?_eq_getElem (by rw [HN.out]; exact hlt)⟩
                  have hk1 : (k : Int) < (n : Int) := by omega
                  have hd : decide ((k : Int) < (n : Int)) = true := decide_eq_true hk1
                  have e0' := own_cell4 HO.out (dcs_at _ (renK_at (f := f) (g := g) hx)).1
                  have e3 := own_cell4 HO.out (dcs_at _ (renK_at (f := f) (g := g) hx)).2.2.2
                  have f3 := HO.out.frozenAt (k * 4 + 3)
                  have HSt := Lib.hid (renK_step (f := f) (g := g) hx)
                  have HSm := Lib.hid (renK_same (f := f) (g := g) hx)
                  have HS3 := Lib.hid (fun s => dcs_set3 _ k x s (renK_at (f := f) (g := g) hx))
                  have hcas := renN_cases (f := f) (g := g) (x := x) (renE_0 HE.out).2.2.1 (renE_0 HE.out).2.1 ((chkT_ok hc'.out).2.2.2.1 x (List.mem_of_getElem? hx))
                  obtain ⟨x0, x1, x2, x3⟩ := x
                  simp only at e0' e3 HSt HS3 HSm hcas
                  have CP := Lib.hid (rplace_any (.slice a1 nf c1) f x3 wr (HFr.out wr hbr) (by rw [HNf.out]; omega))
                  clear hx
                  rcases hcas with ⟨e0, hno⟩ | ⟨hk3, j, j1, j2, j3, e0⟩
                  · rw [plcS_none hno] at CP
                    have hsm := HSm.out e0
                    have HSm2 := Lib.hid hsm
                    clear hsm hno e0
                    by_cases h3 : x0 = 3
                    · subst h3
                      go_wp2_with (go_at_call 34; refine CP.out.mono ?_; rintro e w5 ⟨rfl, rfl⟩)
                      exact ⟨⟨k + 1, by go_num, by omega, Lib.hid (by rw [HSm2.out]; exact HO.out), hbr, hgur⟩, by simp [intOf]; omega⟩
                    · have hne3 : (x0 == 3) = false := beq_eq_false_iff_ne.2 h3
                      clear h3
                      go_wp2_with (go_at_call 34; refine CP.out.mono ?_; rintro e w5 ⟨rfl, rfl⟩)
                      exact ⟨⟨k + 1, by go_num, by omega, Lib.hid (by rw [HSm2.out]; exact HO.out), hbr, hgur⟩, by simp [intOf]; omega⟩
                  · obtain ⟨s', hs'⟩ : ∃ s', g[j]? = some s' := ⟨_, List.getElem?_eq_getElem j2⟩
                    obtain ⟨g2, o2, rfl, hg2, q2⟩ := (HGr.out wr hbr).cellAt hs'
                    have hgd : g.getD j [] = s' := by rw [List.getD_eq_getElem?_getD, hs']; rfl
                    rw [j3] at CP
                    rw [e0, hgd] at HSt
                    have hst2 := HS3.out s'
                    rw [← HSt.out] at hst2
                    have HSt2 := Lib.hid hst2
                    have hjn : j < nf := by rw [← HNg.out]; exact j2
                    have hj0 : (0 : Int) ≤ (j : Int) := Int.natCast_nonneg _
                    have hj1 : (j : Int) < (nf : Int) := by omega
                    obtain ⟨r1, r2⟩ := HO.out.stored (k * 4 + 3) (.string (str s'))
                    rw [HSt2.out] at r1
                    have HR1 := Lib.hid r1
                    obtain ⟨z, hz⟩ : ∃ z, str s' = z := ⟨_, rfl⟩
                    rw [hz] at HR1 q2
                    have hk3' : x0 = 3 := hk3
                    clear j1 j2 j3 e0 hs' hgd hst2 r1 r2 hz hk3
                    subst hk3'
                    go_wp2_with (go_at_call 34; refine CP.out.mono ?_; rintro e w5 ⟨rfl, rfl⟩)
                    -- MARK8
                    exact ⟨⟨k + 1, by go_num, by omega, HR1, hbr.setCell (p := ⟨gu, k * 4 + 3, none⟩) hBg _, by rw [World.size_setCell]; omega⟩, by simp [intOf]; omega⟩
                · obtain rfl : k = n := by omega
                  have hd : decide ((k : Int) < (k : Int)) = false := decide_eq_false (Int.lt_irrefl _)
                  have hall : renK f g t k = renL f g t := by rw [← HN.out]; exact renK_all f g t
                  have hO := HO.out
                  rw [hall] at hO
                  have hln : (renL f g t).length = k := by unfold renL; rw [List.length_map, HN.out]
                  obtain ⟨a9, c9, hv9, hN9, _⟩ := nds_own hO hln
                  have HN9 := Lib.hid hN9
                  have HLn := Lib.hid hln
                  obtain ⟨rfl, _, rfl⟩ := Value.slice.inj hv9
                  clear hall hO hln hN9 hv9 HO
                  go_wp2_with fail
                  go_ret2
                  rw [HU.out, HE.out]
                  refine ⟨some ⟨gu, 0, none⟩, cu, ?_, ?_, hbr⟩
                  · show _ = Ending.returned (.tuple #[.slice _ (renL f g t).length _, _])
                    rw [HLn.out]; rfl
                  · rw [HLn.out]; exact HN9.out
    · have HE2 : Hid (renE t f g = 2) := Lib.hid (by
        unfold renE
        rw [if_neg (by rw [hc'.out]; simp), if_pos (by rw [HNf.out, HNg.out]; exact hlen)])
      have hne : ((nf : Int) != (ng : Int)) = true := bne_iff_ne.2 (by omega)
      clear hlen hc
      go_enter Tryz.func13, Tryz.ntmps13
      go_wp2_with fail
      refine C1.out.mono ?_
      rintro e w2 ⟨rfl, hb2⟩
      go_wp2_with fail
      go_ret2
      exact HRet.out 2 _ HE2.out (by decide) hb2
  · obtain ⟨e2, he2⟩ : ∃ e2, (chkT symS t).2 = e2 := ⟨_, rfl⟩
    have HEe : Hid (renE t f g = e2) := Lib.hid (by unfold renE; rw [if_pos hc]; exact he2)
    rw [he2] at C1 hc
    have hne : (e2 != 0) = true := bne_iff_ne.2 hc
    have HC := Lib.hid hc
    clear h KB hnf hng hn hc he2
    go_enter Tryz.func13, Tryz.ntmps13
    go_wp2_with fail
    refine C1.out.mono ?_
    rintro e w2 ⟨rfl, hb2⟩
    go_wp2_with fail
    go_ret2
    exact HRet.out e2 _ HEe.out HC.out hb2
end Go.Proofs.YtkngkajojcmmlaaGreatDoor
