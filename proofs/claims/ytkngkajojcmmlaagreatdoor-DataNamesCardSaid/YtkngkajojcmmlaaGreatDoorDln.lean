/- The law DataNames. -/
import Derived.Test.YtkngkajojcmmlaaGreatDoorDrcm
import Derived.Test.YtkngkajojcmmlaaGreatDoorDrr
import Derived.Test.YtkngkajojcmmlaaGreatDoorDrb
import Derived.Deep.CutRange
namespace Go.Proofs.YtkngkajojcmmlaaGreatDoor
open Go.RowKit Go.PlainAid

theorem renU_len (t : List Nd) (f g : Ls) : (renU t f g).length ≤ 400 := by
  unfold renU
  split
  · rename_i h
    unfold renL
    rw [List.length_map]
    exact (chkT_ok (renE_0 h).1).2.2.1
  · simp
set_option maxRecDepth 50000 in
set_option maxHeartbeats 6400000 in
theorem lawNm_any (v v' v1 v2 : Value) (t b : List Nd) (f g : Ls) (w : World) (h : NdsAt w v t) (h' : NdsAt w v' b) (hf : StrRow w v1 f) (hg : StrRow w v2 g) (hcv : capOk v) (hcv' : capOk v') (KB : KidsB t) (KB' : KidsB b) (T : STabs w) :
    Calls Tryz.prog 3 #[v, v', .agg #[v1, v2]] w fun e w' => e = .returned (.bool true) ∧ Below w.heap.size w w' := by
  have CS := Lib.hid (fun W (hW : Below w.heap.size w W) => shown_any W (T.below hW))
  have CF := Lib.hid (fun W (hW : Below w.heap.size w W) => dfar_any v t W (h.below hW (Nat.le_refl _)))
  have CF' := Lib.hid (fun W (hW : Below w.heap.size w W) => dfar_any v' b W (h'.below hW (Nat.le_refl _)))
  have CM1 := Lib.hid (fun W (hW : Below w.heap.size w W) => many_any v1 f W (hf.below hW))
  have CM2 := Lib.hid (fun W (hW : Below w.heap.size w W) => many_any v2 g W (hg.below hW))
  have CC := Lib.hid (fun W (hW : Below w.heap.size w W) => Compare_any v v' t b W (h.below hW (Nat.le_refl _)) (h'.below hW (Nat.le_refl _)) KB KB' (T.below hW))
  have CCr := Lib.hid (fun W (hW : Below w.heap.size w W) => rCompare_any v v' t b W (h.below hW (Nat.le_refl _)) (h'.below hW (Nat.le_refl _)) KB KB' hcv hcv')
  have CSy := Lib.hid (fun W (hW : Below w.heap.size w W) => Symbols_any v t W (h.below hW (Nat.le_refl _)) KB (T.below hW))
  have CSr := Lib.hid (fun W (hW : Below w.heap.size w W) => rSymbols_any v t W (h.below hW (Nat.le_refl _)) KB)
  have CR := Lib.hid (fun W (hW : Below w.heap.size w W) (hfl : f.length ≤ 1000) => Rename_any v v1 v2 t f g W (h.below hW (Nat.le_refl _)) (hf.below hW) (hg.below hW) KB (T.below hW) hfl)
  have CRr := Lib.hid (fun W (hW : Below w.heap.size w W) (hfl : f.length ≤ 1000) => rRename_any v v1 v2 t f g W (h.below hW (Nat.le_refl _)) (hf.below hW) (hg.below hW) KB hfl)
  have CSm := Lib.hid (fun W a1 c1 a2 c2 (k1 : NdsAt W (.slice a1 (renU t f g).length c1) (renU t f g)) (k2 : NdsAt W (.slice a2 (renU t f g).length c2) (renU t f g)) => same4_eq (.slice a1 (renU t f g).length c1) (.slice a2 (renU t f g).length c2) (renU t f g) W k1 k2 (by have := renU_len t f g; omega))
  have HLM : Hid (∀ l m : Ls, ((chkT symS t).2 = 0 → SymS (symL t) l) → ((chkT symS t).2 ≠ 0 → l = []) → ((chkT symS t).2 = 0 → SymS (symL t) m) → ((chkT symS t).2 ≠ 0 → m = []) → decide (l = m) = true) := Lib.hid fun l m h1 h2 h3 h4 => by
    refine decide_eq_true ?_
    by_cases hz : (chkT symS t).2 = 0
    · exact (h1 hz).uniq (h3 hz)
    · rw [h2 hz, h4 hz]
  obtain ⟨a0, c0, rfl⟩ := h.slice
  obtain ⟨a0', c0', rfl⟩ := h'.slice
  obtain ⟨a1, c1, rfl, _⟩ := hf
  obtain ⟨a2, c2, rfl, _⟩ := hg
  unfold cmpV at CC CCr
  obtain ⟨z1, hz1⟩ : ∃ z, cmpZ t b = z := ⟨_, rfl⟩
  obtain ⟨z2, hz2⟩ : ∃ z, cmpE t b = z := ⟨_, rfl⟩
  rw [hz1, hz2] at CC CCr
  obtain ⟨z3, hz3⟩ : ∃ z, (chkT symS t).2 = z := ⟨_, rfl⟩
  unfold SymV at CSy CSr
  rw [hz3] at CSy CSr HLM
  obtain ⟨z4, hz4⟩ : ∃ z, renE t f g = z := ⟨_, rfl⟩
  unfold ansR at CR CRr
  rw [hz4] at CR CRr
  obtain ⟨U, hU⟩ : ∃ U, renU t f g = U := ⟨_, rfl⟩
  rw [hU] at CR CRr CSm
  obtain ⟨nu, hnu⟩ : ∃ n, U.length = n := ⟨_, rfl⟩
  rw [hnu] at CR CRr CSm
  obtain ⟨ng, hng⟩ : ∃ n, g.length = n := ⟨_, rfl⟩
  rw [hng] at CM2 CR CRr ⊢
  obtain ⟨nf, hnf⟩ : ∃ n, f.length = n := ⟨_, rfl⟩
  have HNf := Lib.hid hnf
  rw [hnf] at CM1 CR CRr ⊢
  obtain ⟨n, hn⟩ : ∃ n, t.length = n := ⟨_, rfl⟩
  rw [hn] at CF CC CCr CSy CSr CR CRr ⊢
  obtain ⟨n', hn'⟩ : ∃ n, b.length = n := ⟨_, rfl⟩
  rw [hn'] at CF' CC CCr ⊢
  obtain ⟨W1, hW1⟩ : ∃ W1, W1 = w.alloc (.cells #[.slice a1 nf c1, .slice a2 ng c2] 25) := ⟨_, rfl⟩
  have hb1 : Below w.heap.size w W1 := by rw [hW1]; exact below_b1 _ _
  have hbk : W1.heap[w.heap.size]? = some (.cells #[.slice a1 nf c1, .slice a2 ng c2] 25 (0, 0)) := by rw [hW1]; exact World.alloc_heap_new _ _
  have HX : Hid (∀ W, Below W1.heap.size W1 W → W.cell? ⟨w.heap.size, 0, none⟩ = some (.slice a1 nf c1) ∧ W.cell? ⟨w.heap.size, 1, none⟩ = some (.slice a2 ng c2) ∧ Below w.heap.size w W) := Lib.hid fun W hW => by
    have hk := (hW.block w.heap.size (Array.getElem?_eq_some_iff.1 hbk).1).trans hbk
    obtain ⟨d0, d1, _, _⟩ := box_facts hk
    exact ⟨d0, d1, hb1.trans (hW.mono hb1.size)⟩
  clear KB KB' T hng hnf hn hn' hnu hU hbk hz1 hz2 hz3 hz4 h h' hcv hcv'
  go_enter Tryz.func3, Tryz.ntmps3
  go_wp2_with fail
  -- MARK1
  rw [← hW1]
  clear hW1
  refine (CF.out W1 hb1).mono ?_
  rintro e w1 ⟨b1, rfl, _, hcur⟩
  obtain ⟨x0, x1, hw1⟩ := HX.out _ hcur
  have hq1 : (z1 != z1) = false := by simp
  have hq2 : (z2 != z2) = false := by simp
  have hq3 : (z3 != z3) = false := by simp
  have hq4 : (z4 == z4) = true := by simp
  cases b1 with
  | true =>
    go_wp2_with fail
    refine (CS.out _ hw1).mono ?_
    rintro e wS ⟨rfl, hn⟩
    go_wp2_with fail
    go_ret
    exact ⟨rfl, hw1.trans (hn.mono hw1.size)⟩
  | false =>
    go_wp2_with fail
    -- STEP2
    refine (CF'.out _ hw1).mono ?_
    rintro e w2 ⟨b1, rfl, _, hn⟩
    replace hcur := hcur.trans (hn.mono hcur.size)
    obtain ⟨x0, x1, hw2⟩ := HX.out _ hcur
    cases b1 with
    | true =>
      go_wp2_with fail
      refine (CS.out _ hw2).mono ?_
      rintro e wS ⟨rfl, hn⟩
      go_wp2_with fail
      go_ret
      exact ⟨rfl, hw2.trans (hn.mono hw2.size)⟩
    | false =>
      go_wp2_with fail
      -- STEP3
      refine (CM1.out _ hw2).mono ?_
      rintro e w3 ⟨b1, rfl, hm1, hn⟩
      replace hcur := hcur.trans (hn.mono hcur.size)
      obtain ⟨x0, x1, hw3⟩ := HX.out _ hcur
      cases b1 with
      | true =>
        go_wp2_with fail
        refine (CS.out _ hw3).mono ?_
        rintro e wS ⟨rfl, hn⟩
        go_wp2_with fail
        go_ret
        exact ⟨rfl, hw3.trans (hn.mono hw3.size)⟩
      | false =>
        have hf50 := Lib.hid (hm1 rfl).1
        clear hm1
        go_wp2_with fail
        -- STEP4
        refine (CM2.out _ hw3).mono ?_
        rintro e w4 ⟨b1, rfl, _, hn⟩
        replace hcur := hcur.trans (hn.mono hcur.size)
        obtain ⟨x0, x1, hw4⟩ := HX.out _ hcur
        cases b1 with
        | true =>
          go_wp2_with fail
          refine (CS.out _ hw4).mono ?_
          rintro e wS ⟨rfl, hn⟩
          go_wp2_with fail
          go_ret
          exact ⟨rfl, hw4.trans (hn.mono hw4.size)⟩
        | false =>
          clear CF CF' CM1 CM2
          go_wp2_with fail
          -- STEP5
          refine (CC.out _ hw4).mono ?_
          rintro e w5 ⟨rfl, hn⟩
          replace hcur := hcur.trans (hn.mono hcur.size)
          obtain ⟨x0, x1, hw5⟩ := HX.out _ hcur
          go_wp2_with fail
          -- STEP6
          refine (CCr.out _ hw5).mono ?_
          rintro e w6 ⟨rfl, hn⟩
          replace hcur := hcur.trans (hn.mono hcur.size)
          obtain ⟨x0, x1, hw6⟩ := HX.out _ hcur
          clear CC CCr
          go_wp2_with fail
          -- STEP7
          refine (CSy.out _ hw6).mono ?_
          rintro e w7 ⟨l, a4, c4, rfl, hrow4, hs4, ht4, hl4, hn⟩
          replace hcur := hcur.trans (hn.mono hcur.size)
          obtain ⟨x0, x1, hw7⟩ := HX.out _ hcur
          have HRow4 := Lib.hid (fun W (hW : Below w7.heap.size w7 W) => hrow4.below hW)
          have HS4 := Lib.hid hs4
          have HT4 := Lib.hid ht4
          obtain ⟨nl, hnl⟩ : ∃ n, l.length = n := ⟨_, rfl⟩
          have HNl := Lib.hid hnl
          rw [hnl] at HRow4 hl4 ⊢
          clear hrow4 hs4 ht4 hnl hn
          go_wp2_with fail
          -- STEP8
          refine (CSr.out _ hw7).mono ?_
          rintro e w8 ⟨m, a5, c5, rfl, hrow5, hs5, ht5, hl5, hn⟩
          replace hcur := hcur.trans (hn.mono hcur.size)
          obtain ⟨x0, x1, hw8⟩ := HX.out _ hcur
          obtain ⟨nm, hnm⟩ : ∃ n, m.length = n := ⟨_, rfl⟩
          rw [hnm] at hrow5 hl5 ⊢
          have hq := strs4_any (.slice a4 nl c4) (.slice a5 nm c5) l m w8 (HRow4.out _ hn) hrow5 (by rw [HNl.out]; omega)
          rw [HLM.out l m HS4.out HT4.out hs5 ht5] at hq
          have CQ := Lib.hid hq
          clear hrow5 hs5 ht5 hnm hn hq CSy CSr HLM HRow4 HS4 HT4
          go_wp2_with fail
          -- STEP9
          refine CQ.out.mono ?_
          rintro e w9 ⟨rfl, hn⟩
          replace hcur := hcur.trans (hn.mono hcur.size)
          obtain ⟨x0, x1, hw9⟩ := HX.out _ hcur
          have CR9 := Lib.hid (CR.out w9 hw9 (by have := hf50.out; rw [HNf.out] at this; omega))
          clear CQ CR
          go_wp2_with fail
          -- STEP10
          refine CR9.out.mono ?_
          rintro e w10 ⟨a6, c6, rfl, hN6, hn⟩
          replace hcur := hcur.trans (hn.mono hcur.size)
          obtain ⟨x0, x1, hw10⟩ := HX.out _ hcur
          have CR10 := Lib.hid (CRr.out w10 hw10 (by have := hf50.out; rw [HNf.out] at this; omega))
          have HN6 := Lib.hid hN6
          clear CR9 CRr hN6
          go_wp2_with fail
          -- STEP11
          refine CR10.out.mono ?_
          rintro e w11 ⟨a7, c7, rfl, hN7, hn11⟩
          replace hcur := hcur.trans (hn11.mono hcur.size)
          obtain ⟨x0, x1, hw11⟩ := HX.out _ hcur
          have CS11 := Lib.hid (CSm.out w11 a6 c6 a7 c7 (HN6.out.below hn11 (Nat.le_refl _)) hN7)
          clear CR10 CSm HN6 hN7
          go_wp2_with fail
          -- STEP12
          refine CS11.out.mono ?_
          rintro e w12 ⟨rfl, hn⟩
          have hw12 := hw11.trans (hn.mono hw11.size)
          go_wp2_with fail
          refine (CS.out _ hw12).mono ?_
          rintro e wS ⟨rfl, hn⟩
          go_wp2_with fail
          go_ret
          exact ⟨rfl, hw12.trans (hn.mono hw12.size)⟩
end Go.Proofs.YtkngkajojcmmlaaGreatDoor
