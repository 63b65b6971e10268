/- The reference's List. -/
import Derived.Test.YtdbgmbbchjfpdaaDoorDrsub
namespace Go.Proofs.YtdbgmbbchjfpdaaDoor
open Go.RowKit Go.PlainAid

theorem kidsL_flat : ∀ (ts : List (List Nd)), kidsL ts.flatten = (ts.map kidsL).flatten := by
  intro ts
  induction ts with
  | nil => rfl
  | cons t r ih => rw [List.flatten_cons, kidsL_app, ih]; rfl
theorem list_3 {ts : List (List Nd)} (h : chkAllS symS ts = 0) : (chkT symS (listS ts)).2 = 0 ∨ (chkT symS (listS ts)).2 = 3 := by
  apply chkT_3
  · have := Tr.list (ts.map kidsL) (fun x hx => by
      obtain ⟨t, ht, rfl⟩ := List.mem_map.1 hx
      exact (chkT_ok (chkAll_0 h t ht)).1)
    rw [List.length_map, ← kidsL_flat] at this
    exact this
  · intro x hx
    rcases List.mem_cons.1 hx with rfl | hx
    · refine ⟨?_, rfl⟩
      rw [kind_4]
      simp [emB, str]
    · obtain ⟨t, ht, hxt⟩ := List.mem_flatten.1 hx
      exact (chkT_ok (chkAll_0 h t ht)).2.2.2.1 x hxt
theorem listE_0 {ts : List (List Nd)} (h : chkAllS symS ts = 0) : listE symS ts = (chkT symS (listS ts)).2 := by unfold listE; rw [if_neg (by rw [h]; simp)]

set_option maxRecDepth 50000 in
set_option maxHeartbeats 3200000 in
theorem rList_l (v : Value) (ts : List (List Nd)) (w : World) (h : RowsAt w v ts) (KB : Hid (∀ t ∈ ts, KidsB t)) (hl : ts.length ≤ 1000) (hf : ts.flatten.length ≤ 100000) :
    Calls Tryd.prog 34 #[v] w (ansV (listL ts) (listE symS ts) w) := by
  have HKp : Hid (KidsB (listS ts)) := Lib.hid (by
    intro x hx
    rcases List.mem_cons.1 hx with e | hx
    · rw [e]; show (ts.length : Int) ≤ _; omega
    · obtain ⟨t, ht, hxt⟩ := List.mem_flatten.1 hx
      exact KB.out t ht x hxt)
  obtain ⟨a, c, rfl, hA⟩ := h
  obtain ⟨m, hm⟩ : ∃ m, ts.length = m := ⟨_, rfl⟩
  have HA : Hid (∀ W, Below w.heap.size w W → ∀ (k : Nat) (t : List Nd), ts[k]? = some t → ∃ g off, a = some ⟨g, off, none⟩ ∧ g < w.heap.size ∧ ∃ at' ct, W.cell? ⟨g, off + k, none⟩ = some (.slice at' t.length ct) ∧ NdsAt W (.slice at' t.length ct) t) := Lib.hid fun W hW k t ht => by
    rcases hA with rfl | ⟨g, off, rfl, hg, hc⟩
    · cases ht
    · obtain ⟨vt, d0, hN⟩ := hc k t ht
      obtain ⟨at', ct, rfl⟩ := hN.slice
      exact ⟨g, off, rfl, hg, at', ct, (hW.cell (p := ⟨g, off + k, none⟩) hg).trans d0, hN.below hW (Nat.le_refl _)⟩
  have HLen : Hid ((listS ts).length = 1 + ts.flatten.length) := Lib.hid (by unfold listS; rw [List.length_cons]; omega)
  have C4 : Hid (∀ (W : World) (b : Option Addr) (cb p : Nat), Below w.heap.size w W → p = 1 + ts.flatten.length → W.ownsRow w.heap.size 48 4 (.slice b p cb) p (dcs (listS ts)) → NdsAt W (.slice b p cb) (listS ts) ∧ Calls Tryd.prog 68 #[.slice b p cb] W fun e w' => e = .returned (fitV (.slice b p cb) (listS ts)) ∧ Below W.heap.size W w') := Lib.hid fun W b cb p hW hp ho => by
    obtain ⟨a', c', e, hN, hcc⟩ := nds_own ho (by rw [HLen.out, hp])
    cases e
    exact ⟨hN, rfits_any _ _ W hN HKp.out⟩
  have CK : Hid (∀ (W : World) (t : List Nd) (vt : Value), t ∈ ts → NdsAt W vt t → Calls Tryd.prog 15 #[vt] W fun e w' => e = .returned (chkTV symS t) ∧ Below W.heap.size W w') := Lib.hid fun W t vt ht hN => RCheck_any symS vt t W hN (Lib.hid (rsymAll W)) (Lib.hid (KB.out t ht))
  have HF := Lib.hid (fun k => Nat.le_trans (flat_le ts k) hf)
  have HL0 : Hid (listS ts = (4, (m : Int), 0, []) :: ts.flatten) := Lib.hid (by unfold listS; rw [hm])
  have HBad : Hid (∀ e w', e ≠ 0 → chkAllS symS ts = e → Below w.heap.size w w' → ansV (listL ts) (listE symS ts) w (.returned (.tuple #[.slice none 0 0, .int .i64 e])) w') := Lib.hid fun e w' he hE hb => by
    have h1 : listE symS ts = e := by unfold listE; rw [if_pos (by rw [hE]; exact he), hE]
    unfold listL
    rw [h1, if_neg he]; exact ansV_nil hb
  have HEnd : Hid (∀ (b : Option Addr) (cb p : Nat) w', chkAllS symS ts = 0 → p = 1 + ts.flatten.length → NdsAt w' (.slice b p cb) (listS ts) → Below w.heap.size w w' → ∃ x y, fitV (.slice b p cb) (listS ts) = .tuple #[x, y] ∧ ansV (listL ts) (listE symS ts) w (.returned (.tuple #[x, y])) w') := Lib.hid fun b cb p w' hE hp hN hb => by
    rcases list_3 hE with h0 | h3
    · refine ⟨_, _, by unfold fitV; rw [if_pos h0], ?_⟩
      unfold listL
      rw [listE_0 hE, h0, if_pos rfl]
      rw [hp, ← HLen.out] at hN ⊢
      exact ⟨b, cb, rfl, hN, hb⟩
    · refine ⟨_, _, by unfold fitV; rw [if_neg (by rw [h3]; decide)], ?_⟩
      unfold listL
      rw [listE_0 hE, h3, if_neg (by decide)]
      exact ansV_nil hb
  have HM := Lib.hid hm
  rw [hm] at hl
  rw [hm]
  clear KB hA hm HKp
  go_enter Tryd.func34, Tryd.ntmps34
  go_wp2_with fail
  -- MARK1
  have hO0 := World.ownsRow_lit (base := w.heap.size) (e := 48) (size := 4) w #[.int .i64 4, .int .i64 (m : Int), .int .i64 0, .string ⟨#[]⟩] 1 (Nat.le_refl _) (by decide) rfl
  have hb3 := below_b1 w (.cells #[.int .i64 4, .int .i64 (m : Int), .int .i64 0, .string ⟨#[]⟩] 48)
  have HO0 := Lib.hid hO0
  clear hO0
  go_loopw [4, 5] (fun x4 x5 wr => ∃ (j p : Nat) (b : Option Addr) (cb : Nat), x5 = .int .i64 (j : Int) ∧ j ≤ m ∧ x4 = .slice b p cb ∧ Hid (1 + (ts.take j).flatten.length = p) ∧ Hid (wr.ownsRow w.heap.size 48 4 (.slice b p cb) p (dcs ((4, (m : Int), 0, []) :: (ts.take j).flatten))) ∧ Hid (chkAllS symS (ts.drop j) = chkAllS symS ts) ∧ Below w.heap.size w wr) (fun _ x5 _ => m - (intOf x5).toNat)
  case atStart => exact ⟨0, 1, _, _, rfl, Nat.zero_le _, rfl, Lib.hid (by simp), Lib.hid HO0.out, Lib.hid (by rw [List.drop_zero]), hb3⟩
  case round =>
    obtain ⟨j, p, b, cb, rfl, hj, rfl, HP, HO, HE, hbr⟩ := hrel
    have hj0 : (0 : Int) ≤ (j : Int) := Int.natCast_nonneg _
    by_cases hlt : j < m
    · obtain ⟨t, ht⟩ : ∃ t, ts[j]? = some t := ⟨_, List.getElem?_eq_getElem (by rw [HM.out]; exact hlt)⟩
      obtain ⟨g, off, rfl, hg, gt, ct, d1, hN⟩ := HA.out wr hbr j t ht
      have HN := Lib.hid hN
      have CT := Lib.hid (CK.out wr t _ (List.mem_of_getElem? ht) hN)
      unfold chkTV at CT
      obtain ⟨i, e, hie⟩ : ∃ i e, chkT symS t = (i, e) := ⟨_, _, rfl⟩
      have hst := chkAll_step (sy := symS) ht
      have HNe : Hid (e = 0 → t ≠ []) := Lib.hid fun he => (chkT_ok (by rw [hie]; exact he)).2.1
      rw [hie] at CT hst
      rw [HE.out] at hst
      have HSt := Lib.hid hst
      have HFl := Lib.hid (take_flat ht)
      have hlen := HF.out (j + 1)
      have hp := HP.out
      rw [HFl.out, List.length_append] at hlen
      obtain ⟨tl, htl⟩ : ∃ tl, t.length = tl := ⟨_, rfl⟩
      have HTL := Lib.hid htl
      rw [htl] at d1 hlen HN CT
      have hpt : p + tl ≤ 100001 := by omega
      have hj1 : (j : Int) < (m : Int) := by omega
      by_cases he : e = 0
      · subst he
        have HE2 : Hid (chkAllS symS (ts.drop (j + 1)) = chkAllS symS ts) := Lib.hid (by rw [HSt.out, if_neg (by simp)])
        obtain ⟨gs, os, cs, ev, _, _⟩ := hN.some (HNe.out rfl)
        rw [htl] at ev
        cases ev
        obtain ⟨i0, hi, hz0, hz1, hz2⟩ := info_parts2 infoNd
        clear ht hN hie hst htl hp hlen
        go_wp2_with fail
        refine CT.out.mono ?_
        rintro e' w4 ⟨rfl, hb4⟩
        have hbr4 := hbr.trans (hb4.mono hbr.size)
        have d2 := (hb4.cell (p := ⟨g, off + j, none⟩) (Nat.lt_of_lt_of_le hg hbr.size)).trans d1
        have HO4 := Lib.hid (own_below HO.out hb4)
        have hNs := (HN.out.below hb4 (Nat.le_refl _)).some (HNe.out (by first | trivial | rfl))
        have HCT : Hid (∀ (k : Nat) (u : Value), (dcs t)[k]? = some u → w4.cell? ((⟨gs, os, none⟩ : Addr).add k) = some u) := Lib.hid (by
          obtain ⟨g', o', c', ev, _, hc⟩ := hNs
          rw [HTL.out] at ev
          cases ev
          intro k u hk
          rw [Go.WideShapes.add_plain]; exact hc k u hk)
        clear d1 hNs HN
        go_wp2_with (at_builtin; refine wpList_append_own _ rfl _ _ 22 rfl w.heap.size 48 i0 zeroNd 4 40 Tryd.underlying22 hi hz0 hz1 hz2 rfl (by decide) _ _ _ rfl HO4.out ⟨gs, os, none⟩ tl _ (dcs t) rfl (by rw [dcs_len, HTL.out]) HCT.out (one_dcs t) (by unfold maxLen; omega) (by omega) hbr4.size ?_; intro v' w5 hown5 hgrow5 _)
        -- MARK2
        have hO5 : w5.ownsRow w.heap.size 48 4 v' (p + tl) (dcs ((4, (m : Int), 0, []) :: (ts.take (j + 1)).flatten)) := by rw [HFl.out, ← List.cons_append, dcs_app]; exact hown5
        have hb5 : Below w.heap.size w w5 := hbr4.grown hgrow5 hbr4.size (fun i hi => (HO4.out.lt i hi).1)
        have HO5 := Lib.hid hO5
        rcases own_form hO5 with ⟨_, h00⟩ | ⟨g2, c2, rfl, _, _⟩
        · have := HP.out; omega
        clear hO5 hown5 hgrow5
        go_roundw
        case rel => exact ⟨j + 1, p + tl, _, _, by go_num, by omega, rfl, Lib.hid (by have := HP.out; rw [HFl.out, List.length_append, HTL.out]; omega), HO5, HE2, hb5⟩
        case measure => simp [intOf]; omega
      · have hne : (e != 0) = true := bne_iff_ne.2 he
        have HX := Lib.hid (fun w' hb => HBad.out e w' he (by rw [HSt.out, if_pos he]) hb)
        clear ht hN hie hst htl hp hlen he
        go_wp2_with fail
        refine CT.out.mono ?_
        rintro e' w4 ⟨rfl, hb4⟩
        have hbr4 := hbr.trans (hb4.mono hbr.size)
        go_wp2_with fail
        -- MARK3
        go_ret2
        exact HX.out _ hbr4
    · obtain rfl : j = m := by omega
      have hfl : ts.take j = ts := List.take_of_length_le (Nat.le_of_eq HM.out)
      have HO5 : Hid (wr.ownsRow w.heap.size 48 4 (.slice b p cb) p (dcs (listS ts))) := Lib.hid (by have := HO.out; rw [hfl, ← HL0.out] at this; exact this)
      have hpf : p = 1 + ts.flatten.length := by rw [← HP.out, hfl]
      have HE0 : Hid (chkAllS symS ts = 0) := Lib.hid (by rw [← HE.out, List.drop_of_length_le (Nat.le_of_eq HM.out)]; rfl)
      have hm5 := Lib.hid (C4.out wr b cb p hbr hpf HO5.out)
      have HPF := Lib.hid hpf
      clear hfl hpf HO5 HO
      go_wp2_with fail
      -- MARK4
      refine hm5.out.2.mono ?_
      rintro e' w6 ⟨rfl, hb6⟩
      obtain ⟨x, y, hxy, hans⟩ := HEnd.out b cb p w6 HE0.out HPF.out (hm5.out.1.below hb6 (Nat.le_refl _)) (hbr.trans (hb6.mono hbr.size))
      rw [hxy]
      have HAns := Lib.hid hans
      clear hxy hans
      go_wp2_with fail
      -- MARK5
      go_ret2
      exact HAns.out
end Go.Proofs.YtdbgmbbchjfpdaaDoor
