/- The law DataBack. -/
import Derived.Test.YtkngkajojcmmlaaDoorDxr
import Derived.Test.YtkngkajojcmmlaaDoorDsame
import Derived.Deep.CutRange
namespace Go.Proofs.YtkngkajojcmmlaaDoor
open Go.RowKit Go.PlainAid

theorem renN_kids (f g : Ls) (x : Nd) : (renN f g x).2.1 = x.2.1 := by unfold renN; split <;> rfl
theorem kidsB_ren {t : List Nd} (h : KidsB t) (f g : Ls) : KidsB (renL f g t) := by
  intro x hx
  obtain ⟨y, hy, rfl⟩ := List.mem_map.1 hx
  rw [renN_kids]; exact h y hy
theorem sym_mem {t : List Nd} {l g : Ls} (h : SymS (symL t) l) (hg : ∀ (i : Nat) s, g[i]? = some s → s ∉ l) : ∀ s ∈ g, s ∉ symL t := by
  intro s hs hm
  obtain ⟨i, hi⟩ := List.getElem?_of_mem hs
  exact hg i s hi ((h.2 s).2 hm)
theorem nodup_of {g : Ls} (h : ∀ (i k : Nat) s, k < i → g[i]? = some s → g[k]? ≠ some s) : g.Nodup := by
  rw [List.nodup_iff_pairwise_ne, List.pairwise_iff_getElem]
  intro i j hi hj hij e
  exact h j i g[j] hij (List.getElem?_eq_getElem hj) (by rw [List.getElem?_eq_getElem hi, e])
set_option maxRecDepth 50000 in
set_option maxHeartbeats 6400000 in
theorem lawBk_any (v v1 v2 : Value) (t : List Nd) (f g : Ls) (w : World) (h : NdsAt w v t) (hf : StrRow w v1 f) (hg : StrRow w v2 g) (KB : KidsB t) (T : STabs w) :
    Calls Tryd.prog 10 #[v, .agg #[v1, v2]] w fun e w' => e = .returned (.bool true) ∧ Below w.heap.size w w' := by
  have CS := Lib.hid (fun W (hW : Below w.heap.size w W) => shown_any W (T.below hW))
  have CF := Lib.hid (fun W (hW : Below w.heap.size w W) => dfar_any v t W (h.below hW (Nat.le_refl _)))
  have CM1 := Lib.hid (fun W (hW : Below w.heap.size w W) => many_any v1 f W (hf.below hW))
  have CM2 := Lib.hid (fun W (hW : Below w.heap.size w W) => many_any v2 g W (hg.below hW))
  have CSy := Lib.hid (fun W (hW : Below w.heap.size w W) => Symbols_any v t W (h.below hW (Nat.le_refl _)) KB (T.below hW))
  have CR := Lib.hid (fun W (hW : Below w.heap.size w W) (hfl : f.length ≤ 1000) => Rename_any v v1 v2 t f g W (h.below hW (Nat.le_refl _)) (hf.below hW) (hg.below hW) KB (T.below hW) hfl)
  have CR2 := Lib.hid (fun W vu (u : List Nd) (hW : Below w.heap.size w W) (hu : NdsAt W vu u) (ku : KidsB u) (hgl : g.length ≤ 1000) => Rename_any vu v2 v1 u g f W hu (hg.below hW) (hf.below hW) ku (T.below hW) hgl)
  have HNd := Lib.hid (fun W (hW : Below w.heap.size w W) => h.below hW (Nat.le_refl _))
  have HG := Lib.hid (fun W (hW : Below w.heap.size w W) => hg.below hW)
  have HKu := Lib.hid (kidsB_ren KB f g)
  obtain ⟨a0, c0, rfl⟩ := h.slice
  obtain ⟨a1, c1, rfl, _⟩ := hf
  obtain ⟨a2, c2, rfl, _⟩ := hg
  obtain ⟨ng, hng⟩ : ∃ n, g.length = n := ⟨_, rfl⟩
  have HNg := Lib.hid hng
  rw [hng] at CM2 CR CR2 HG ⊢
  obtain ⟨nf, hnf⟩ : ∃ n, f.length = n := ⟨_, rfl⟩
  rw [hnf] at CM1 CR CR2 ⊢
  obtain ⟨n, hn⟩ : ∃ n, t.length = n := ⟨_, rfl⟩
  have HN := Lib.hid hn
  rw [hn] at CF CSy CR HNd ⊢
  have HNf := Lib.hid hnf
  obtain ⟨W1, hW1⟩ : ∃ W1, W1 = w.alloc (.cells #[.slice a1 nf c1, .slice a2 ng c2] 55) := ⟨_, rfl⟩
  have hb1 : Below w.heap.size w W1 := by rw [hW1]; exact below_b1 _ _
  have hbk : W1.heap[w.heap.size]? = some (.cells #[.slice a1 nf c1, .slice a2 ng c2] 55 (0, 0)) := by rw [hW1]; exact World.alloc_heap_new _ _
  have HX : Hid (∀ W, Below W1.heap.size W1 W → W.cell? ⟨w.heap.size, 0, none⟩ = some (.slice a1 nf c1) ∧ W.cell? ⟨w.heap.size, 1, none⟩ = some (.slice a2 ng c2) ∧ Below w.heap.size w W) := Lib.hid fun W hW => by
    have hk := (hW.block w.heap.size (Array.getElem?_eq_some_iff.1 hbk).1).trans hbk
    obtain ⟨d0, d1, _, _⟩ := box_facts hk
    exact ⟨d0, d1, hb1.trans (hW.mono hb1.size)⟩
  clear KB T hng hnf hn hbk
  go_enter Tryd.func10, Tryd.ntmps10
  go_wp2_with fail
  -- MARK1
  rw [← hW1]
  clear hW1
  refine (CF.out W1 hb1).mono ?_
  rintro e w1 ⟨b1, rfl, _, hcur⟩
  obtain ⟨x0, x1, hw1⟩ := HX.out _ hcur
  cases b1 with
  | true =>
    go_wp2_with fail
    refine (CS.out _ hw1).mono ?_
    rintro e w2 ⟨rfl, hn⟩
    go_wp2_with fail
    go_ret
    exact ⟨rfl, hw1.trans (hn.mono hw1.size)⟩
  | false =>
    go_wp2_with fail
    -- MARK2
    refine (CM1.out _ hw1).mono ?_
    rintro e w2 ⟨b1, rfl, hm1, hn⟩
    replace hcur := hcur.trans (hn.mono hcur.size)
    obtain ⟨x0, x1, hw2⟩ := HX.out _ hcur
    cases b1 with
    | true =>
      go_wp2_with fail
      refine (CS.out _ hw2).mono ?_
      rintro e w3 ⟨rfl, hn⟩
      go_wp2_with fail
      go_ret
      exact ⟨rfl, hw2.trans (hn.mono hw2.size)⟩
    | false =>
      have hf50 := Lib.hid (hm1 rfl).1
      clear hm1
      go_wp2_with fail
      refine (CM2.out _ hw2).mono ?_
      rintro e w3 ⟨b1, rfl, hm2, hn⟩
      replace hcur := hcur.trans (hn.mono hcur.size)
      obtain ⟨x0, x1, hw3⟩ := HX.out _ hcur
      cases b1 with
      | true =>
        go_wp2_with fail
        refine (CS.out _ hw3).mono ?_
        rintro e w4 ⟨rfl, hn⟩
        go_wp2_with fail
        go_ret
        exact ⟨rfl, hw3.trans (hn.mono hw3.size)⟩
      | false =>
        have hg50 := Lib.hid (hm2 rfl).1
        clear hm2
        go_wp2_with fail
        -- MARK3
        refine (CSy.out _ hw3).mono ?_
        rintro e w4 ⟨l, a4, c4, rfl, hrow4, hs4, _, hl4, hn⟩
        replace hcur := hcur.trans (hn.mono hcur.size)
        obtain ⟨x0, x1, hw4⟩ := HX.out _ hcur
        have HRow4 := Lib.hid (fun W (hW : Below w4.heap.size w4 W) => hrow4.below hW)
        have HS4 := Lib.hid hs4
        obtain ⟨e4, he4⟩ : ∃ e4, (chkT symS t).2 = e4 := ⟨_, rfl⟩
        have HE4 := Lib.hid he4
        obtain ⟨nl, hnl⟩ : ∃ n, l.length = n := ⟨_, rfl⟩
        have HNl := Lib.hid hnl
        rw [hnl] at HRow4 hl4 ⊢
        rw [he4]
        clear hrow4 hs4 he4 hnl hn
        have CR4 := Lib.hid (CR.out w4 hw4 (by have := hf50.out; rw [HNf.out] at this; omega))
        go_wp2_with fail
        -- MARK4
        refine CR4.out.mono ?_
        rintro e w5 ⟨a5, c5, rfl, hN5, hn⟩
        have hb45 := hn
        replace hcur := hcur.trans (hn.mono hcur.size)
        obtain ⟨x0, x1, hw5⟩ := HX.out _ hcur
        have HN5 := Lib.hid hN5
        obtain ⟨e5, he5⟩ : ∃ e5, renE t f g = e5 := ⟨_, rfl⟩
        have HE5 := Lib.hid he5
        rw [he5]
        clear hN5 he5 hn CR4 CF CM1 CM2 CSy CR
        by_cases h45 : e4 = 0 ∧ e5 = 0
        · obtain ⟨rfl, rfl⟩ := h45
          have HU : Hid (renU t f g = renL f g t) := Lib.hid (by unfold renU; rw [if_pos HE5.out])
          have HN5' : Hid (NdsAt w5 (.slice a5 n c5) (renL f g t)) := Lib.hid (by have := HN5.out; rw [HU.out] at this; unfold renL at this; rw [List.length_map, HN.out] at this; exact this)
          have hln : (renU t f g).length = n := by rw [HU.out]; unfold renL; rw [List.length_map, HN.out]
          rw [hln]
          have HRow5 := Lib.hid (fun W (hW : Below w5.heap.size w5 W) => (HRow4.out _ hb45).below hW)
          have HG5 := Lib.hid (fun W (hW : Below w5.heap.size w5 W) => (HG.out _ hw5).below hW)
          have HX5 := Lib.hid (fun W (hW : Below w5.heap.size w5 W) => HX.out W (hcur.trans (hW.mono hcur.size)))
          have HB := Lib.hid (str_beq)
          have hng50 : ng ≤ 50 := by have := hg50.out; rw [HNg.out] at this; exact this
          clear hln HN5 hb45 HRow4 x0 x1
          go_upto_region 7 with (fail)
          go_cut [9] from 13 to 46 (fun s9 wx => s9 = .int .i64 0 ∧ wx = w5)
          case first =>
            go_wp2_with fail
            go_meet
            exact ⟨rfl, rfl⟩
          case rest =>
          obtain ⟨rfl, hwc⟩ := hcut
          rw [hwc]
          clear hwc
          obtain ⟨x0, x1, _⟩ := HX5.out _ (Below.refl _ _)
          go_wp2_with fail
          -- MARK5
          go_loopw [9] (fun x9 wr => ∃ i : Nat, x9 = .int .i64 (i : Int) ∧ i ≤ ng ∧ Hid (∀ (i' : Nat) s, i' < i → g[i']? = some s → s ∉ l ∧ ∀ k, k < i' → g[k]? ≠ some s) ∧ Below w5.heap.size w5 wr) (fun x9 _ => ng - (intOf x9).toNat)
          case atStart => exact ⟨0, rfl, Nat.zero_le _, Lib.hid (fun i' s h => by omega), Below.refl _ _⟩
          case round =>
            obtain ⟨i, rfl, hi, HI, hbr⟩ := hrel
            have hi0 : (0 : Int) ≤ (i : Int) := Int.natCast_nonneg _
            obtain ⟨x0, x1, hwr⟩ := HX5.out _ hbr
            obtain ⟨wo, hwo⟩ : ∃ x, x = wr := ⟨_, rfl⟩
            subst hwo
            by_cases hlt : i < ng
            · obtain ⟨y, hy⟩ : ∃ y, g[i]? = some y := ⟨_, List.getElem?_eq_getElem (by rw [HNg.out]; exact hlt)⟩
              obtain ⟨g2, o2, rfl, _, _⟩ := (HG5.out _ hbr).cellAt hy
              have hi1 : (i : Int) < (ng : Int) := by omega
              have hd : decide ((i : Int) < (ng : Int)) = true := decide_eq_true hi1
              have HY := Lib.hid hy
              have HBy := Lib.hid (fun x => HB.out x y)
              obtain ⟨z, hz⟩ : ∃ z, str y = z := ⟨_, rfl⟩
              rw [hz] at HBy
              have HQ2 : Hid (∀ W, Below w5.heap.size w5 W → W.cell? ⟨g2, o2 + i, none⟩ = some (.string z)) := Lib.hid fun W hW => by
                obtain ⟨g', o', e, _, hq⟩ := (HG5.out _ hW).cellAt HY.out
                cases e
                rw [hq, hz]
              clear hy hz
              go_wp2_with fail
              -- MARK6
              go_loopw [10] (fun x10 wr => ∃ k : Nat, x10 = .int .i64 (k : Int) ∧ k ≤ nl ∧ Hid (∀ (k' : Nat) s, k' < k → l[k']? = some s → s ≠ y) ∧ Below w5.heap.size w5 wr) (fun x10 _ => nl - (intOf x10).toNat)
              case atStart => exact ⟨0, rfl, Nat.zero_le _, Lib.hid (fun k' s h => by omega), hbr⟩
              case round =>
                obtain ⟨k, rfl, hk, HK, hbr1⟩ := hrel
                have hk0 : (0 : Int) ≤ (k : Int) := Int.natCast_nonneg _
                obtain ⟨x0, x1, hwr1⟩ := HX5.out _ hbr1
                by_cases hlk : k < nl
                · obtain ⟨x, hx⟩ : ∃ x, l[k]? = some x := ⟨_, List.getElem?_eq_getElem (by rw [HNl.out]; exact hlk)⟩
                  obtain ⟨g3, o3, rfl, hg3, q3⟩ := (HRow5.out _ hbr1).cellAt hx
                  have q2 := HQ2.out _ hbr1
                  have hk1 : (k : Int) < (nl : Int) := by omega
                  have hdk : decide ((k : Int) < (nl : Int)) = true := decide_eq_true hk1
                  have hbq := HBy.out x
                  have HXk := Lib.hid hx
                  obtain ⟨u, hu⟩ : ∃ u, str x = u := ⟨_, rfl⟩
                  rw [hu] at q3 hbq
                  clear hx hu
                  by_cases hxy : x = y
                  · rw [decide_eq_true hxy] at hbq
                    clear hxy
                    go_wp2_with fail
                    go_quiet (fail)
                    go_wp2_with fail
                    have hdr := hwr1.trans ((below_drewN wr nq).mono hwr1.size)
                    refine (CS.out _ hdr).mono ?_
                    rintro e w6 ⟨rfl, hn⟩
                    go_wp2_with fail
                    -- MARK7
                    go_ret
                    exact ⟨rfl, hdr.trans (hn.mono hdr.size)⟩
                  · rw [decide_eq_false hxy] at hbq
                    have HK2 : Hid (∀ (k' : Nat) s, k' < k + 1 → l[k']? = some s → s ≠ y) := Lib.hid fun k' s h1 h2 => by
                      by_cases e : k' = k
                      · subst e; rw [HXk.out] at h2; rw [← Option.some.inj h2]; exact hxy
                      · exact HK.out k' s (by omega) h2
                    go_wp2_with fail
                    go_quiet (fail)
                    go_wp2_with fail
                    -- MARK8
                    exact ⟨⟨k + 1, by go_num, by omega, HK2, hbr1.trans ((below_drewN wr nq).mono hbr1.size)⟩, by simp [intOf]; omega⟩
                · obtain rfl : nl = k := by omega
                  have hdk : decide ((nl : Int) < (nl : Int)) = false := decide_eq_false (Int.lt_irrefl _)
                  have HNo : Hid (y ∉ l) := Lib.hid fun hm => by
                    obtain ⟨k', hk'⟩ := List.getElem?_of_mem hm
                    exact HK.out k' y (by rw [← HNl.out]; exact (List.getElem?_eq_some_iff.1 hk').1) hk' rfl
                  obtain ⟨wq, hwq⟩ : ∃ x, x = wr := ⟨_, rfl⟩
                  subst hwq
                  clear HK
                  go_wp2_with fail
                  -- MARK9
                  go_loopw [11] (fun x11 wr => ∃ k : Nat, x11 = .int .i64 (k : Int) ∧ k ≤ i ∧ Hid (∀ (k' : Nat), k' < k → g[k']? ≠ some y) ∧ Below w5.heap.size w5 wr) (fun x11 _ => i - (intOf x11).toNat)
                  case atStart => exact ⟨0, rfl, Nat.zero_le _, Lib.hid (fun k' h => by omega), hbr1⟩
                  case round =>
                    obtain ⟨k, rfl, hk, HK, hbr2⟩ := hrel
                    have hk0 : (0 : Int) ≤ (k : Int) := Int.natCast_nonneg _
                    obtain ⟨x0, x1, hwr2⟩ := HX5.out _ hbr2
                    by_cases hlk : k < i
                    · obtain ⟨x, hx⟩ : ∃ x, g[k]? = some x := ⟨_, List.getElem?_eq_getElem (by rw [HNg.out]; omega)⟩
                      have q2 := HQ2.out _ hbr2
                      have q3 : wr.cell? ⟨g2, o2 + k, none⟩ = some (.string (str x)) := by
                        obtain ⟨g', o', e, _, hq⟩ := (HG5.out _ hbr2).cellAt hx
                        cases e
                        exact hq
                      have hk1 : (k : Int) < (i : Int) := by omega
                      have hk2 : (k : Int) < (ng : Int) := by omega
                      have hdk : decide ((k : Int) < (i : Int)) = true := decide_eq_true hk1
                      have hbq := HBy.out x
                      have HXk := Lib.hid hx
                      obtain ⟨u, hu⟩ : ∃ u, str x = u := ⟨_, rfl⟩
                      rw [hu] at q3 hbq
                      clear hx hu
                      by_cases hxy : x = y
                      · rw [decide_eq_true hxy] at hbq
                        clear hxy
                        go_wp2_with fail
                        go_quiet (fail)
                        go_wp2_with fail
                        have hdr := hwr2.trans ((below_drewN wr nq).mono hwr2.size)
                        refine (CS.out _ hdr).mono ?_
                        rintro e w6 ⟨rfl, hn⟩
                        go_wp2_with fail
                        go_ret
                        exact ⟨rfl, hdr.trans (hn.mono hdr.size)⟩
                      · rw [decide_eq_false hxy] at hbq
                        have HK2 : Hid (∀ (k' : Nat), k' < k + 1 → g[k']? ≠ some y) := Lib.hid fun k' h1 h2 => by
                          by_cases e : k' = k
                          · subst e; rw [HXk.out] at h2; exact hxy (Option.some.inj h2)
                          · exact HK.out k' (by omega) h2
                        go_wp2_with fail
                        go_quiet (fail)
                        go_wp2_with fail
                        exact ⟨⟨k + 1, by go_num, by omega, HK2, hbr2.trans ((below_drewN wr nq).mono hbr2.size)⟩, by simp [intOf]; omega⟩
                    · have hdk : decide ((k : Int) < (i : Int)) = false := decide_eq_false (by omega)
                      have HI2 : Hid (∀ (i' : Nat) s, i' < i + 1 → g[i']? = some s → s ∉ l ∧ ∀ k, k < i' → g[k]? ≠ some s) := Lib.hid fun i' s h1 h2 => by
                        by_cases e : i' = i
                        · subst e; rw [HY.out] at h2; rw [← Option.some.inj h2]; exact ⟨HNo.out, fun k' hk' => HK.out k' (by omega)⟩
                        · exact HI.out i' s (by omega) h2
                      clear HK
                      go_wp2_with fail
                      -- MARK10
                      exact ⟨⟨i + 1, by go_num, by omega, HI2, hbr2⟩, by simp [intOf]; omega⟩
            · obtain rfl : ng = i := by omega
              have hd : decide ((ng : Int) < (ng : Int)) = false := decide_eq_false (Int.lt_irrefl _)
              have hback := ren_back HE5.out (nodup_of fun i k s hk hi => (HI.out i s (by rw [← HNg.out]; exact (List.getElem?_eq_some_iff.1 hi).1) hi).2 k hk) (sym_mem (HS4.out HE4.out) fun i s hi => (HI.out i s (by rw [← HNg.out]; exact (List.getElem?_eq_some_iff.1 hi).1) hi).1)
              have CRb := Lib.hid (CR2.out wo (.slice a5 n c5) (renL f g t) hwr (HN5'.out.below hbr (Nat.le_refl _)) HKu.out (by have := hg50.out; rw [HNg.out] at this; omega))
              unfold renU ansR at CRb
              rw [hback.1, if_pos rfl, hback.2, HN.out] at CRb
              have CM := Lib.hid (fun W c6 a6 (hW : Below w.heap.size w W) (h6 : NdsAt W (.slice a6 n c6) t) => same4_eq (.slice a6 n c6) (.slice a0 n c0) t W h6 (HNd.out W hW) (by have := (chkT_ok HE4.out).2.2.1; omega))
              clear hback CR2 HI
              go_wp2_with fail
              -- MARK11
              refine CRb.out.mono ?_
              rintro e w6 ⟨a6, c6, rfl, hN6, hn⟩
              have hw6 := hwr.trans (hn.mono hwr.size)
              have CM6 := Lib.hid (CM.out w6 c6 a6 hw6 hN6)
              clear CRb hN6 CM
              go_wp2_with fail
              refine CM6.out.mono ?_
              rintro e w7 ⟨rfl, hn7⟩
              have hw7 := hw6.trans (hn7.mono hw6.size)
              go_wp2_with fail
              refine (CS.out _ hw7).mono ?_
              rintro e w8 ⟨rfl, hn8⟩
              go_wp2_with fail
              go_ret
              exact ⟨rfl, hw7.trans (hn8.mono hw7.size)⟩
        · have hne : (e4 != 0) = true ∨ ((e4 != 0) = false ∧ (e5 != 0) = true) := by
            by_cases h4 : e4 = 0
            · exact .inr ⟨by rw [h4]; rfl, bne_iff_ne.2 fun h5 => h45 ⟨h4, h5⟩⟩
            · exact .inl (bne_iff_ne.2 h4)
          obtain ⟨nu, hnu⟩ : ∃ n, (renU t f g).length = n := ⟨_, rfl⟩
          rw [hnu]
          clear hnu h45
          rcases hne with d1 | ⟨d1, d2⟩ <;> (
            go_wp2_with fail
            refine (CS.out _ hw5).mono ?_
            rintro e w6 ⟨rfl, hn⟩
            go_wp2_with fail
            go_ret
            exact ⟨rfl, hw5.trans (hn.mono hw5.size)⟩)
end Go.Proofs.YtkngkajojcmmlaaDoor
