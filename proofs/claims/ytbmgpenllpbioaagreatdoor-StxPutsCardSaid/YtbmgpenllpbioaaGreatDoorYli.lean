/- The program's List. -/
import Derived.Test.YtbmgpenllpbioaaGreatDoorYqa
namespace Go.Proofs.YtbmgpenllpbioaaGreatDoor
open Go.RowKit Go.PlainAid

theorem listX_bad {ts : List (List Sx)} {x : Sx} (h : allX ts ≠ 0) : listX ts x = ([], allX ts) := by unfold listX; rw [if_pos h]
theorem listX_in {ts : List (List Sx)} {x : Sx} (h : allX ts = 0) : listX ts x = if (chkX (listL10 ts x)).2 ≠ 0 then ([], (chkX (listL10 ts x)).2) else (listL10 ts x, 0) := by unfold listX; rw [if_neg (by simpa using h)]
theorem listL_small {ts : List (List Sx)} {x : Sx} (hs : ∀ t ∈ ts, SmX t ∧ InX t) (hx : x.p.length ≤ 100000) : SmX (listL10 ts x) := by
  intro y hy
  rcases List.mem_cons.1 hy with e | hy
  · rw [e]; exact ⟨Nat.zero_le _, hx⟩
  · obtain ⟨t, ht, hyt⟩ := List.mem_flatten.1 hy
    exact (hs t ht).1 y hyt
theorem listL_int {ts : List (List Sx)} {x : Sx} (hs : ∀ t ∈ ts, SmX t ∧ InX t) (hl : ts.length ≤ 3000) : InX (listL10 ts x) := by
  intro y hy
  rcases List.mem_cons.1 hy with e | hy
  · rw [e]; show ((ts.length : Nat) : Int) ≤ _; omega
  · obtain ⟨t, ht, hyt⟩ := List.mem_flatten.1 hy
    exact (hs t ht).2 y hyt
/-- The parts in memory, all of them with nodes. -/
theorem parts_at {w : World} {a : Option Addr} {n c : Nat} {ts : List (List Sx)} (h : LsAt w (.slice a n c) ts) (h0 : ∀ t ∈ ts, t ≠ []) : ∀ W, Below w.heap.size w W → ∀ (k : Nat) (t : List Sx), ts[k]? = some t → ∃ g off, a = some ⟨g, off, none⟩ ∧ ∃ gt ot ct, W.cell? ⟨g, off + k, none⟩ = some (.slice (some ⟨gt, ot, none⟩) t.length ct) ∧ XsAt W (.slice (some ⟨gt, ot, none⟩) t.length ct) t ∧ ∀ (j : Nat) (u : Value), (xcs t)[j]? = some u → W.cell? ((⟨gt, ot, none⟩ : Addr).add j) = some u := by
  intro W hW k t ht
  obtain ⟨a', n', c', e, _, hA⟩ := h
  cases e
  rcases hA with rfl | ⟨g, off, rfl, hg, hc⟩
  · cases ht
  · obtain ⟨vt, d0, hN⟩ := hc k t ht
    obtain ⟨at', nt, ct, rfl, hnt, hcc, hx⟩ := hN
    subst hnt
    rcases hx with hx0 | ⟨gt, ot, rfl, hgt, hct⟩
    · exact absurd hx0 (h0 t (List.mem_of_getElem? ht))
    · refine ⟨g, off, rfl, gt, ot, ct, (hW.cell (p := ⟨g, off + k, none⟩) hg).trans d0, ⟨_, _, _, rfl, rfl, hcc, .inr ⟨gt, ot, rfl, Nat.lt_of_lt_of_le hgt hW.size, fun j u hj => (hW.cell (p := ⟨gt, ot + j, none⟩) hgt).trans (hct j u hj)⟩⟩, fun j u hj => ?_⟩
      rw [Go.WideShapes.add_plain]; exact (hW.cell (p := ⟨gt, ot + j, none⟩) hgt).trans (hct j u hj)
set_option maxRecDepth 50000 in
set_option maxHeartbeats 1600000 in
theorem Listx_bad (v : Value) (ts : List (List Sx)) (x : Sx) (w : World) (h : LsAt w v ts) (hs : ∀ t ∈ ts, SmX t ∧ InX t) (T : STabs w) (hl : ts.length ≤ 3000) (hz : allX ts ≠ 0) :
    Calls Tryz.prog 24 #[v, sxA x] w (ChgV (listX ts x) w) := by
  have C := Lib.hid (checkAll_any v ts _ (h.below (below_b1 w (.cells (sxC x).toArray 28))) hs (T.below (below_b1 w _)) (by omega))
  have HW := Lib.hid (listX_bad (x := x) hz)
  obtain ⟨a, n, c, rfl, -⟩ := h
  obtain ⟨e, he⟩ : ∃ e, allX ts = e := ⟨_, rfl⟩
  rw [he] at HW C hz
  have hne : (e != 0) = true := bne_iff_ne.2 hz
  unfold sxA
  unfold sxC at C ⊢
  obtain ⟨k0, c0, n0, s0, p0, f0, t0, o0⟩ := x
  simp only at C ⊢
  obtain ⟨P, hP⟩ : ∃ P, str p0 = P := ⟨_, rfl⟩
  obtain ⟨S, hS⟩ : ∃ P, str s0 = P := ⟨_, rfl⟩
  rw [hP, hS] at C
  rw [hP, hS]
  have hb0 := below_b1 w (.cells #[.int .i64 k0, .int .i64 c0, .int .i64 n0, .string S, .string P, .int .i64 f0, .int .i64 t0, .int .i64 o0] 28)
  clear hs T hz hl he hP hS
  go_enter Tryz.func24, Tryz.ntmps24
  go_wp2_with fail
  refine C.out.mono ?_
  rintro e' w2 ⟨rfl, hb2⟩
  go_wp2_with fail
  go_ret2
  exact chgV_err HW.out (below_step hb0 hb2)
set_option maxRecDepth 50000 in
set_option maxHeartbeats 3200000 in
theorem Listx_in (v : Value) (ts : List (List Sx)) (x : Sx) (w : World) (h : LsAt w v ts) (hs : ∀ t ∈ ts, SmX t ∧ InX t) (hx : x.p.length ≤ 100000) (T : STabs w) (hl : ts.length ≤ 3000) (hz : allX ts = 0) :
    Calls Tryz.prog 24 #[v, sxA x] w (ChgV (listX ts x) w) := by
  have C := Lib.hid (checkAll_any v ts _ (h.below (below_b1 w (.cells (sxC x).toArray 28))) hs (T.below (below_b1 w _)) (by omega))
  rw [hz] at C
  have HLong := Lib.hid (fun hlen => listX_long (x := x) hz hlen)
  have HIn := Lib.hid (listX_in (x := x) hz)
  have H0 := allX_0 hz
  have HSz : Hid (∀ t ∈ ts, t.length ≤ 2000) := Lib.hid fun t ht => (chkX_tree (H0 t ht)).2.2
  obtain ⟨a, n, c, rfl, hn, -⟩ := id h
  have HA := Lib.hid (parts_at h (fun t ht => (chkX_tree (H0 t ht)).2.1))
  have CM := Lib.hid (fun v' W (hW : Below w.heap.size w W) (hx' : XsAt W v' (listL10 ts x)) => made_any v' (listL10 ts x) W hx' (listL_small hs hx) (listL_int hs hl) (T.below hW))
  have HN := Lib.hid hn
  have HFl := Lib.hid (fun k => flat_le ts k)
  have HRt : Hid (∀ k, xcs (rootX n x :: (ts.take k).flatten) = [.int .i64 4, .int .i64 (n : Int), .int .i64 0, .string ⟨#[]⟩, .string (str x.p), .int .i64 x.f, .int .i64 x.t, .int .i64 x.o] ++ xcs (ts.take k).flatten) := Lib.hid fun k => rfl
  have HL0 : Hid (listL10 ts x = rootX n x :: ts.flatten) := Lib.hid (by unfold listL10; rw [hn])
  have hnl : n ≤ 3000 := by omega
  obtain ⟨i0, hi, hz0, hz1, hz2⟩ := info_parts2 zeroSxI
  unfold sxA
  unfold sxC at C ⊢
  obtain ⟨k0, c0, n0, s0, p0, f0, t0, o0⟩ := x
  simp only at C HRt ⊢
  obtain ⟨P, hP⟩ : ∃ P, str p0 = P := ⟨_, rfl⟩
  obtain ⟨S, hS⟩ : ∃ P, str s0 = P := ⟨_, rfl⟩
  rw [hP] at C HRt ⊢
  rw [hS] at C ⊢
  have hbx := World.alloc_heap_new w (.cells #[.int .i64 k0, .int .i64 c0, .int .i64 n0, .string S, .string P, .int .i64 f0, .int .i64 t0, .int .i64 o0] 28)
  have HBx := Lib.hid hbx
  clear h hs hx T hl hz H0 hn hP hS hbx
  go_enter Tryz.func24, Tryz.ntmps24
  go_wp2_with fail
  refine C.out.mono ?_
  rintro e' w2 ⟨rfl, hb2⟩
  have hB2 := below_step (below_b1 w _) hb2
  obtain ⟨_, _, _, _, d4, d5, d6, d7⟩ := box8_facts ((hb2.block w.heap.size (by rw [World.size_alloc]; omega)).trans HBx.out)
  have hs2 := hb2.size
  rw [World.size_alloc] at hs2
  clear hb2
  go_upto_region 6 with (fail)
  -- MARK1
  have hO0 := World.ownsRow_lit (base := w.heap.size) (e := 28) (size := 8) (w2.alloc (.cells #[.int .i64 4, .int .i64 (n : Int), .int .i64 0, .string ⟨#[]⟩, .string P, .int .i64 f0, .int .i64 t0, .int .i64 o0] 28)) #[.int .i64 4, .int .i64 (n : Int), .int .i64 0, .string ⟨#[]⟩, .string P, .int .i64 f0, .int .i64 t0, .int .i64 o0] 1 (by rw [World.size_alloc]; omega) (by decide) rfl
  rw [World.size_alloc] at hO0
  have hb3 := (hB2.alloc hB2.size (.cells #[.int .i64 4, .int .i64 (n : Int), .int .i64 0, .string ⟨#[]⟩, .string P, .int .i64 f0, .int .i64 t0, .int .i64 o0] 28)).alloc (by rw [World.size_alloc]; omega) (.cells #[.int .i64 4, .int .i64 (n : Int), .int .i64 0, .string ⟨#[]⟩, .string P, .int .i64 f0, .int .i64 t0, .int .i64 o0] 28)
  have HO0 := Lib.hid hO0
  clear hO0 d4 d5 d6 d7 hs2
  obtain ⟨w3, hw3⟩ : ∃ w3, w3 = (w2.alloc (.cells #[.int .i64 4, .int .i64 (n : Int), .int .i64 0, .string ⟨#[]⟩, .string P, .int .i64 f0, .int .i64 t0, .int .i64 o0] 28)).alloc (.cells #[.int .i64 4, .int .i64 (n : Int), .int .i64 0, .string ⟨#[]⟩, .string P, .int .i64 f0, .int .i64 t0, .int .i64 o0] 28) := ⟨_, rfl⟩
  rw [← hw3] at HO0 hb3 ⊢
  clear hw3
  go_wp2_with fail
  -- MARK2
  go_loopw [8, 29] (fun x8 x29 wr => ∃ (j p : Nat) (b : Option Addr) (cb : Nat), x29 = .int .i64 (j : Int) ∧ j ≤ n ∧ x8 = .slice b p cb ∧ p ≤ 2000 ∧ Hid (1 + (ts.take j).flatten.length = p) ∧ Hid (wr.ownsRow w.heap.size 28 8 (.slice b p cb) p (xcs (rootX n ⟨k0, c0, n0, s0, p0, f0, t0, o0⟩ :: (ts.take j).flatten))) ∧ Below w.heap.size w wr) (fun _ x29 _ => n - (intOf x29).toNat)
  case atStart => exact ⟨0, 1, _, _, rfl, Nat.zero_le _, rfl, by omega, Lib.hid (by simp), Lib.hid (by rw [HRt.out]; exact HO0.out), hb3⟩
  case round =>
    obtain ⟨j, p, b, cb, rfl, hj, rfl, hp2, HP, HO, hbr⟩ := hrel
    have hj0 : (0 : Int) ≤ (j : Int) := Int.natCast_nonneg _
    by_cases hlt : j < n
    · obtain ⟨t, ht⟩ : ∃ t, ts[j]? = some t := ⟨_, List.getElem?_eq_getElem (by rw [← HN.out]; exact hlt)⟩
      obtain ⟨g, off, rfl, gt, ot, ct, d1, _, hct⟩ := HA.out wr hbr j t ht
      have HCT := Lib.hid hct
      have HFt := Lib.hid (take_flat ht)
      have hsz := HSz.out t (List.mem_of_getElem? ht)
      have hfle := HFl.out (j + 1)
      obtain ⟨tl, htl⟩ : ∃ tl, t.length = tl := ⟨_, rfl⟩
      have HTL := Lib.hid htl
      rw [htl] at d1 hsz
      have HPt : Hid (1 + (ts.take (j + 1)).flatten.length = p + tl) := Lib.hid (by have := HP.out; rw [HFt.out, List.length_append, HTL.out]; omega)
      have hj1 : (j : Int) < (n : Int) := by omega
      have HFle := Lib.hid hfle
      clear ht hct htl hfle
      go_wp2_with (at_builtin; refine wpList_append_own _ rfl _ _ 22 rfl w.heap.size 28 i0 zeroNx 8 80 Tryz.underlying22 hi hz0 hz1 hz2 rfl (by decide) _ _ _ rfl HO.out ⟨gt, ot, none⟩ tl ct (xcs t) rfl (by rw [xcs_len, HTL.out]) HCT.out (one_xcs t) (by unfold maxLen; omega) (by omega) hbr.size ?_; intro v' w4 hown4 hgrow4 _; obtain ⟨b4, cb4, rfl⟩ := own_lenR hown4; have hb4 : Below w.heap.size w w4 := hbr.grown hgrow4 hbr.size (fun i hi => (HO.out.lt i hi).1); have HO4 : Hid (w4.ownsRow w.heap.size 28 8 (.slice b4 (p + tl) cb4) (p + tl) (xcs (rootX n ⟨k0, c0, n0, s0, p0, f0, t0, o0⟩ :: (ts.take (j + 1)).flatten))) := Lib.hid (by rw [HFt.out, ← List.cons_append, xcs_app]; exact hown4); clear hown4 hgrow4; by_cases hlong : 2000 < p + tl)
      -- MARK3
      · have dl : decide ((2000 : Int) < ((p + tl : Nat) : Int)) = true := decide_eq_true (by omega)
        have HW := Lib.hid (HLong.out (by have := HPt.out; have := HFle.out; omega))
        go_wp2_with fail
        -- MARK4
        go_ret2
        exact chgV_err HW.out hb4
      · have dl : decide ((2000 : Int) < ((p + tl : Nat) : Int)) = false := decide_eq_false (by omega)
        go_wp2_with fail
        -- MARK5
        go_roundw
        case rel => exact ⟨j + 1, p + tl, b4, cb4, by go_num, by omega, rfl, by omega, HPt, HO4, hb4⟩
        case measure => simp [intOf]; omega
    · obtain rfl : j = n := by omega
      have hfl : ts.take j = ts := List.take_of_length_le (Nat.le_of_eq HN.out.symm)
      have HO5 : Hid (wr.ownsRow w.heap.size 28 8 (.slice b p cb) p (xcs (listL10 ts ⟨k0, c0, n0, s0, p0, f0, t0, o0⟩))) := Lib.hid (by have := HO.out; rw [hfl, ← HL0.out] at this; exact this)
      have HLp : Hid ((listL10 ts ⟨k0, c0, n0, s0, p0, f0, t0, o0⟩).length = p) := Lib.hid (by have := HP.out; rw [hfl] at this; rw [HL0.out, List.length_cons]; omega)
      have hm5 := Lib.hid (CM.out _ wr hbr (xs_own HO5.out HLp.out))
      clear hfl HO
      obtain ⟨z, hz⟩ : ∃ z, (chkX (listL10 ts ⟨k0, c0, n0, s0, p0, f0, t0, o0⟩)).2 = z := ⟨_, rfl⟩
      rw [hz] at hm5 HIn
      clear hz
      by_cases hz : z = 0
      · subst hz
        have HW := Lib.hid (HIn.out.trans (if_neg (by simp)))
        rw [if_neg (by simp)] at hm5
        go_wp2_with fail
        refine hm5.out.mono ?_
        rintro e' w6 ⟨rfl, hb6⟩
        go_wp2_with fail
        -- MARK6
        go_ret2
        refine ⟨b, cb, by rw [HW.out]; simp only [HLp.out]; rfl, Lib.hid ?_, below_step hbr hb6⟩
        rw [HW.out]; simp only [HLp.out]
        exact own_below HO5.out hb6
      · have HW := Lib.hid (HIn.out.trans (if_pos hz))
        rw [if_pos hz] at hm5
        go_wp2_with fail
        refine hm5.out.mono ?_
        rintro e' w6 ⟨rfl, hb6⟩
        go_wp2_with fail
        -- MARK7
        go_ret2
        exact chgV_err HW.out (below_step hbr hb6)
theorem Listx_any (v : Value) (ts : List (List Sx)) (x : Sx) (w : World) (h : LsAt w v ts) (hs : ∀ t ∈ ts, SmX t ∧ InX t) (hx : x.p.length ≤ 100000) (T : STabs w) (hl : ts.length ≤ 3000) :
    Calls Tryz.prog 24 #[v, sxA x] w (ChgV (listX ts x) w) := by
  by_cases hz : allX ts = 0
  · exact Listx_in v ts x w h hs hx T hl hz
  · exact Listx_bad v ts x w h hs T hl hz
-- MARK9
end Go.Proofs.YtbmgpenllpbioaaGreatDoor
