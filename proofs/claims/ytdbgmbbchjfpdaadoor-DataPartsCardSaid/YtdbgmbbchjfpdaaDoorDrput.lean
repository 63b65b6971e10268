/- The reference's Put. -/
import Derived.Test.YtdbgmbbchjfpdaaDoorDrlist
namespace Go.Proofs.YtdbgmbbchjfpdaaDoor
open Go.RowKit Go.PlainAid

set_option maxRecDepth 50000 in
set_option maxHeartbeats 3200000 in
theorem rPut_bad (v vs : Value) (t s : List Nd) (i : Int) (w : World) (h : NdsAt w v t) (hs : NdsAt w vs s) (KB : KidsB t) (KBs : KidsB s) (hq : (chkT symS t).2 ≠ 0 ∨ (chkT symS s).2 ≠ 0 ∨ atE symS t i ≠ 0) :
    Calls Tryd.prog 37 #[v, .int .i64 i, vs] w (ansV (putL t i s) (putE symS t i s) w) := by
  have C1 := Lib.hid (RCheck_any symS v t w h (Lib.hid (rsymAll w)) (Lib.hid KB))
  have C2 := Lib.hid (fun W (hW : Below w.heap.size w W) => RCheck_any symS vs s W (hs.below hW (Nat.le_refl _)) (Lib.hid (rsymAll W)) (Lib.hid KBs))
  have C3 := Lib.hid (fun W (hW : Below w.heap.size w W) => rat_any v t i W (h.below hW (Nat.le_refl _)) KB)
  have HBad : Hid (∀ e w', putE symS t i s = e → e ≠ 0 → Below w.heap.size w w' → ansV (putL t i s) (putE symS t i s) w (.returned (.tuple #[.slice none 0 0, .int .i64 e])) w') := Lib.hid fun e w' hE he hb => by
    unfold putL
    rw [hE, if_neg he]; exact ansV_nil hb
  unfold chkTV at C1 C2
  obtain ⟨i1, e1, h1⟩ : ∃ i1 e1, chkT symS t = (i1, e1) := ⟨_, _, rfl⟩
  obtain ⟨i2, e2, h2⟩ : ∃ i2 e2, chkT symS s = (i2, e2) := ⟨_, _, rfl⟩
  obtain ⟨e3, h3⟩ : ∃ e3, atE symS t i = e3 := ⟨_, rfl⟩
  have hpE : putE symS t i s = if e1 ≠ 0 then e1 else if e2 ≠ 0 then e2 else if e3 ≠ 0 then e3 else (chkT symS (putS t i.toNat s)).2 := by unfold putE; rw [h1, h2, h3]
  rw [h1] at C1 hq
  rw [h2] at C2 hq
  rw [h3] at C3 hq
  obtain ⟨a1, c1, rfl⟩ := h.slice
  obtain ⟨a2, c2, rfl⟩ := hs.slice
  by_cases z1 : e1 = 0
  · subst z1
    by_cases z2 : e2 = 0
    · subst z2
      have z3 : e3 ≠ 0 := by rcases hq with hq | hq | hq <;> first | exact absurd rfl hq | exact hq
      have HX := Lib.hid (fun w' hb => HBad.out e3 w' (by rw [hpE, if_neg (by simp), if_neg (by simp), if_pos z3]) z3 hb)
      have hne : (e3 != 0) = true := bne_iff_ne.2 z3
      clear h hs KB KBs h1 h2 h3 hq hpE HBad z3
      go_enter Tryd.func37, Tryd.ntmps37
      go_wp2_with fail
      refine C1.out.mono ?_
      rintro e' w2 ⟨rfl, hb2⟩
      go_wp2_with fail
      refine (C2.out w2 hb2).mono ?_
      rintro e' w3 ⟨rfl, hb3⟩
      have hB3 := hb2.trans (hb3.mono hb2.size)
      go_wp2_with fail
      refine (C3.out w3 hB3).mono ?_
      rintro e' w4 ⟨rfl, hb4⟩
      go_wp2_with fail
      go_ret2
      exact HX.out _ (hB3.trans (hb4.mono hB3.size))
    · have HX := Lib.hid (fun w' hb => HBad.out e2 w' (by rw [hpE, if_neg (by simp), if_pos z2]) z2 hb)
      have hne : (e2 != 0) = true := bne_iff_ne.2 z2
      have hnb : (e2 == 0) = false := beq_eq_false_iff_ne.2 z2
      clear h hs KB KBs h1 h2 h3 hq hpE HBad z2
      go_enter Tryd.func37, Tryd.ntmps37
      go_wp2_with fail
      refine C1.out.mono ?_
      rintro e' w2 ⟨rfl, hb2⟩
      go_wp2_with fail
      refine (C2.out w2 hb2).mono ?_
      rintro e' w3 ⟨rfl, hb3⟩
      have hB3 := hb2.trans (hb3.mono hb2.size)
      go_wp2_with fail
      go_ret2
      exact HX.out _ hB3
  · have HX := Lib.hid (fun w' hb => HBad.out e1 w' (by rw [hpE, if_pos z1]) z1 hb)
    have hne : (e1 != 0) = true := bne_iff_ne.2 z1
    have hnb : (e1 == 0) = false := beq_eq_false_iff_ne.2 z1
    clear h hs KB KBs h1 h2 h3 hq hpE HBad z1
    go_enter Tryd.func37, Tryd.ntmps37
    go_wp2_with fail
    refine C1.out.mono ?_
    rintro e' w2 ⟨rfl, hb2⟩
    go_wp2_with fail
    go_ret2
    exact HX.out _ hb2

set_option maxRecDepth 50000 in
set_option maxHeartbeats 3200000 in
theorem rPut_ok (v vs : Value) (t s : List Nd) (i : Nat) (w : World) (h : NdsAt w v t) (hs : NdsAt w vs s) (KB : KidsB t) (KBs : KidsB s) (T : STabs w) (hcv : capOk v) (hct : (chkT symS t).2 = 0) (hcs : (chkT symS s).2 = 0) (hz : atE symS t (i : Int) = 0) (hi : i < t.length) :
    Calls Tryd.prog 37 #[v, .int .i64 (i : Int), vs] w (ansV (putL t (i : Int) s) (putE symS t (i : Int) s) w) := by
  have hD : DatAt w v t := ⟨h, hcv, KB, T, hct⟩
  have C1 := Lib.hid (RCheck_any symS v t w h (Lib.hid (rsymAll w)) (Lib.hid KB))
  have C2 := Lib.hid (fun W (hW : Below w.heap.size w W) => RCheck_any symS vs s W (hs.below hW (Nat.le_refl _)) (Lib.hid (rsymAll W)) (Lib.hid KBs))
  have C3 := Lib.hid (fun W (hW : Below w.heap.size w W) => rat_any v t (i : Int) W (h.below hW (Nat.le_refl _)) KB)
  have CE := Lib.hid (fun W (hW : Below w.heap.size w W) => rendD_any (hD.below hW) hi)
  obtain ⟨t1, t2, t3, _, te⟩ := chkT_ok hct
  obtain ⟨s1, s2, s3, _, se⟩ := chkT_ok hcs
  unfold chkTV at C1 C2
  rw [te] at C1
  rw [se] at C2
  rw [hz] at C3
  obtain ⟨e1, e2⟩ := t1.end_bd (p := i) (by rw [kidsL_len]; exact hi)
  rw [kidsL_len] at e2
  obtain ⟨q, hq⟩ : ∃ q, endN (kidsL t) i = q := ⟨_, rfl⟩
  rw [hq] at CE e1 e2
  have HLen : Hid ((putS t i s).length = i + s.length + (t.length - q)) := Lib.hid (by rw [puts_len hq (Nat.le_of_lt hi)]; omega)
  have HDc : Hid (dcs (putS t i s) = (dcs (t.take i) ++ dcs s) ++ dcs (t.drop q)) := Lib.hid (by unfold putS; rw [dcs_app, dcs_app, hq, List.append_assoc])
  have hpE : putE symS t (i : Int) s = (chkT symS (putS t i s)).2 := by unfold putE; rw [if_neg (by rw [hct]; simp), if_neg (by rw [hcs]; simp), if_neg (by rw [hz]; simp), Int.toNat_natCast]
  have HEnd : Hid (∀ (b : Option Addr) (cb p : Nat) w', p = i + s.length + (t.length - q) → NdsAt w' (.slice b p cb) (putS t i s) → Below w.heap.size w w' → ∃ x y, fitV (.slice b p cb) (putS t i s) = .tuple #[x, y] ∧ ansV (putL t (i : Int) s) (putE symS t (i : Int) s) w (.returned (.tuple #[x, y])) w') := Lib.hid fun b cb p w' hp hN hb => by
    unfold putL
    rw [hpE, Int.toNat_natCast]
    rcases put_3 hct hcs hi with h0 | h3
    · refine ⟨_, _, by unfold fitV; rw [if_pos h0], ?_⟩
      rw [h0, if_pos rfl]
      rw [hp, ← HLen.out] at hN ⊢
      exact ⟨b, cb, rfl, hN, hb⟩
    · refine ⟨_, _, by unfold fitV; rw [if_neg (by rw [h3]; decide)], ?_⟩
      rw [h3, if_neg (by decide)]
      exact ansV_nil hb
  have C4 : Hid (∀ (W : World) (b : Option Addr) (cb p : Nat), p = i + s.length + (t.length - q) → W.ownsRow w.heap.size 48 4 (.slice b p cb) p (dcs (putS t i s)) → NdsAt W (.slice b p cb) (putS t i s) ∧ Calls Tryd.prog 68 #[.slice b p cb] W fun e w' => e = .returned (fitV (.slice b p cb) (putS t i s)) ∧ Below W.heap.size W w') := Lib.hid fun W b cb p hp ho => by
    obtain ⟨a', c', e, hN, _⟩ := nds_own ho (by rw [HLen.out, hp])
    cases e
    exact ⟨hN, rfits_any _ _ W hN (kidsB_put KB KBs)⟩
  obtain ⟨gt, ot, ct, rfl, hgt, hcell⟩ := h.some t2
  obtain ⟨gs, os, cs, rfl, hgs, hscell⟩ := hs.some s2
  have HC1 : Hid (∀ W, Below w.heap.size w W → ∀ (j : Nat) (u : Value), (dcs (t.take i))[j]? = some u → W.cell? ((⟨gt, ot, none⟩ : Addr).add j) = some u) := Lib.hid fun W hW j u hj => by
    rw [dcs_take, List.getElem?_take] at hj
    split at hj
    · rw [Go.WideShapes.add_plain]; exact (hW.cell (p := ⟨gt, ot + j, none⟩) hgt).trans (hcell _ u hj)
    · cases hj
  have HC2 : Hid (∀ W, Below w.heap.size w W → ∀ (j : Nat) (u : Value), (dcs s)[j]? = some u → W.cell? ((⟨gs, os, none⟩ : Addr).add j) = some u) := Lib.hid fun W hW j u hj => by
    rw [Go.WideShapes.add_plain]; exact (hW.cell (p := ⟨gs, os + j, none⟩) hgs).trans (hscell _ u hj)
  have HC3 : Hid (∀ W, Below w.heap.size w W → ∀ (a : Addr), (q = t.length ∨ a = ⟨gt, ot + q * 4, none⟩) → ∀ (j : Nat) (u : Value), (dcs (t.drop q))[j]? = some u → W.cell? (a.add j) = some u) := Lib.hid fun W hW a ha j u hj => by
    rcases ha with ha | rfl
    · rw [List.drop_of_length_le (by omega)] at hj; cases hj
    · rw [Go.WideShapes.add_plain, Nat.add_assoc]
      rw [dcs_drop, List.getElem?_drop] at hj
      exact (hW.cell (p := ⟨gt, ot + (q * 4 + j), none⟩) hgt).trans (hcell _ u hj)
  have HL1 : Hid ((dcs (t.take i)).length = i * 4) := Lib.hid (by rw [dcs_len, List.length_take, Nat.min_eq_left (Nat.le_of_lt hi)])
  have HL3 : Hid ((dcs (t.drop q)).length = (t.length - q) * 4) := Lib.hid (by rw [dcs_len, List.length_drop])
  have HL2 : Hid ((dcs s).length = s.length * 4) := Lib.hid (dcs_len s)
  have hcap : t.length ≤ ct := hcv _ _ _ rfl
  obtain ⟨n, hn⟩ : ∃ n, t.length = n := ⟨_, rfl⟩
  obtain ⟨sl, hsl⟩ : ∃ sl, s.length = sl := ⟨_, rfl⟩
  rw [hn] at C1 C3 CE HEnd C4 HC3 HL3 hcap hi e2 t3
  rw [hsl] at C2 HEnd C4 HL2 s3
  rw [hn, hsl]
  have hx0 : (0 : Int) ≤ (i : Int) := Int.natCast_nonneg _
  have hx1 : (i : Int) ≤ (ct : Int) := by omega
  have hx2 : (q : Int) ≤ (n : Int) := by omega
  have hx3 : (0 : Int) ≤ (q : Int) := Int.natCast_nonneg _
  obtain ⟨i0, hi0, hz0, hz1, hz2⟩ := info_parts2 infoNd
  clear h hs KB KBs T hcv hct hcs hz hD t1 t2 s1 s2 te se hq hpE hn hsl hcell hscell hgt hgs HLen
  by_cases hce : ct = q
  · obtain rfl : n = q := by omega
    subst hce
    go_enter Tryd.func37, Tryd.ntmps37
    go_wp2_with fail
    refine C1.out.mono ?_
    rintro e' w2 ⟨rfl, hb2⟩
    go_wp2_with fail
    refine (C2.out w2 hb2).mono ?_
    rintro e' w3 ⟨rfl, hb3⟩
    have hB3 := hb2.trans (hb3.mono hb2.size)
    go_wp2_with fail
    refine (C3.out w3 hB3).mono ?_
    rintro e' w4 ⟨rfl, hb4⟩
    have hB4 := hB3.trans (hb4.mono hB3.size)
    have HO := Lib.hid (own_empty w4 48 4 w.heap.size hB4.size)
    have hB5 := hB4.alloc hB4.size (.cells #[] 48)
    have hsz := hB5.size
    clear hb2 hb3 hb4
    go_wp2_with (first
      | (at_builtin; refine wpList_append_own _ rfl _ _ 22 rfl w.heap.size 48 i0 zeroNd 4 40 Tryd.underlying22 hi0 hz0 hz1 hz2 rfl (by decide) _ _ _ rfl hown6 ⟨gs, os, none⟩ sl _ (dcs s) rfl HL2.out (HC2.out _ hB6) (one_dcs _) (by unfold maxLen; omega) (by omega) hB6.size ?_; intro v7 w7 hown7 hgrow7 _; have hB7 : Below w.heap.size w w7 := hB6.grown hgrow7 hB6.size (fun i hi => (hown6.lt i hi).1))
      | (at_builtin; refine wpList_append_own _ rfl _ _ 22 rfl w.heap.size 48 i0 zeroNd 4 40 Tryd.underlying22 hi0 hz0 hz1 hz2 rfl (by decide) _ _ _ rfl HO.out ⟨gt, ot, none⟩ i _ (dcs (t.take i)) rfl HL1.out (HC1.out _ hB5) (one_dcs _) (by unfold maxLen; omega) (by omega) hsz ?_; intro v6 w6 hown6 hgrow6 _; have hB6 : Below w.heap.size w w6 := hB5.grown hgrow6 hsz (fun i hi => (HO.out.lt i hi).1); rw [Nat.zero_add, List.nil_append] at hown6))
    -- MARK1
    obtain ⟨a7, c7, rfl⟩ := own_len hown7
    have HO7 := Lib.hid hown7
    clear hown7 hgrow7 hown6 hgrow6
    refine (CE.out w7 hB7).mono ?_
    rintro e' w8 ⟨rfl, rfl⟩
    go_wp2_with (at_builtin; refine wpList_append_own _ rfl _ _ 22 rfl w.heap.size 48 i0 zeroNd 4 40 Tryd.underlying22 hi0 hz0 hz1 hz2 rfl (by decide) _ _ _ rfl HO7.out _ _ _ (dcs (t.drop ct)) rfl (by have := HL3.out; omega) (HC3.out _ hB7 _ (by first | exact .inl rfl | exact .inr rfl | trivial | simp)) (one_dcs _) (by unfold maxLen; omega) (by omega) hB7.size ?_; intro v9 w9 hown9 hgrow9 _; have hB9 : Below w.heap.size w w9 := hB7.grown hgrow9 hB7.size (fun i hi => (HO7.out.lt i hi).1); rw [← HDc.out] at hown9; obtain ⟨a9, c9, rfl⟩ := own_len hown9)
    -- MARKB1
    have hm9 := Lib.hid (C4.out w9 a9 c9 _ (by omega) hown9)
    refine hm9.out.2.mono ?_
    rintro e' w10 ⟨rfl, hb10⟩
    obtain ⟨x, y, hxy, hans⟩ := HEnd.out a9 c9 _ w10 (by omega) (hm9.out.1.below hb10 (Nat.le_refl _)) (hB9.trans (hb10.mono hB9.size))
    rw [hxy]
    have HAns := Lib.hid hans
    clear hxy hans
    go_wp2_with fail
    go_ret2
    exact HAns.out
  · have hqc : ¬ (ct ≤ q) := by omega
    have hx4 : (q : Int) ≤ (ct : Int) := by omega
    go_enter Tryd.func37, Tryd.ntmps37
    go_wp2_with fail
    refine C1.out.mono ?_
    rintro e' w2 ⟨rfl, hb2⟩
    go_wp2_with fail
    refine (C2.out w2 hb2).mono ?_
    rintro e' w3 ⟨rfl, hb3⟩
    have hB3 := hb2.trans (hb3.mono hb2.size)
    go_wp2_with fail
    refine (C3.out w3 hB3).mono ?_
    rintro e' w4 ⟨rfl, hb4⟩
    have hB4 := hB3.trans (hb4.mono hB3.size)
    have HO := Lib.hid (own_empty w4 48 4 w.heap.size hB4.size)
    have hB5 := hB4.alloc hB4.size (.cells #[] 48)
    have hsz := hB5.size
    clear hb2 hb3 hb4
    go_wp2_with (first
      | (at_builtin; refine wpList_append_own _ rfl _ _ 22 rfl w.heap.size 48 i0 zeroNd 4 40 Tryd.underlying22 hi0 hz0 hz1 hz2 rfl (by decide) _ _ _ rfl hown6 ⟨gs, os, none⟩ sl _ (dcs s) rfl HL2.out (HC2.out _ hB6) (one_dcs _) (by unfold maxLen; omega) (by omega) hB6.size ?_; intro v7 w7 hown7 hgrow7 _; have hB7 : Below w.heap.size w w7 := hB6.grown hgrow7 hB6.size (fun i hi => (hown6.lt i hi).1))
      | (at_builtin; refine wpList_append_own _ rfl _ _ 22 rfl w.heap.size 48 i0 zeroNd 4 40 Tryd.underlying22 hi0 hz0 hz1 hz2 rfl (by decide) _ _ _ rfl HO.out ⟨gt, ot, none⟩ i _ (dcs (t.take i)) rfl HL1.out (HC1.out _ hB5) (one_dcs _) (by unfold maxLen; omega) (by omega) hsz ?_; intro v6 w6 hown6 hgrow6 _; have hB6 : Below w.heap.size w w6 := hB5.grown hgrow6 hsz (fun i hi => (HO.out.lt i hi).1); rw [Nat.zero_add, List.nil_append] at hown6))
    -- MARK2
    obtain ⟨a7, c7, rfl⟩ := own_len hown7
    have HO7 := Lib.hid hown7
    clear hown7 hgrow7 hown6 hgrow6
    refine (CE.out w7 hB7).mono ?_
    rintro e' w8 ⟨rfl, rfl⟩
    go_wp2_with (at_builtin; refine wpList_append_own _ rfl _ _ 22 rfl w.heap.size 48 i0 zeroNd 4 40 Tryd.underlying22 hi0 hz0 hz1 hz2 rfl (by decide) _ _ _ rfl HO7.out _ _ _ (dcs (t.drop q)) rfl (by have := HL3.out; omega) (HC3.out _ hB7 _ (by first | exact .inl rfl | exact .inr rfl | trivial | simp)) (one_dcs _) (by unfold maxLen; omega) (by omega) hB7.size ?_; intro v9 w9 hown9 hgrow9 _; have hB9 : Below w.heap.size w w9 := hB7.grown hgrow9 hB7.size (fun i hi => (HO7.out.lt i hi).1); rw [← HDc.out] at hown9; obtain ⟨a9, c9, rfl⟩ := own_len hown9)
    -- MARKB2
    have hm9 := Lib.hid (C4.out w9 a9 c9 _ (by omega) hown9)
    refine hm9.out.2.mono ?_
    rintro e' w10 ⟨rfl, hb10⟩
    obtain ⟨x, y, hxy, hans⟩ := HEnd.out a9 c9 _ w10 (by omega) (hm9.out.1.below hb10 (Nat.le_refl _)) (hB9.trans (hb10.mono hB9.size))
    rw [hxy]
    have HAns := Lib.hid hans
    clear hxy hans
    go_wp2_with fail
    go_ret2
    exact HAns.out
theorem rPut_l (v vs : Value) (t s : List Nd) (i : Int) (w : World) (h : NdsAt w v t) (hs : NdsAt w vs s) (KB : KidsB t) (KBs : KidsB s) (T : STabs w) (hcv : capOk v) :
    Calls Tryd.prog 37 #[v, .int .i64 i, vs] w (ansV (putL t i s) (putE symS t i s) w) := by
  by_cases h1 : (chkT symS t).2 = 0
  · by_cases h2 : (chkT symS s).2 = 0
    · by_cases h3 : atE symS t i = 0
      · obtain ⟨_, k, rfl, hk⟩ := DatAt.of h hcv KB T h3
        exact rPut_ok v vs t s k w h hs KB KBs T hcv h1 h2 h3 hk
      · exact rPut_bad v vs t s i w h hs KB KBs (.inr (.inr h3))
    · exact rPut_bad v vs t s i w h hs KB KBs (.inr (.inl h2))
  · exact rPut_bad v vs t s i w h hs KB KBs (.inl h1)
end Go.Proofs.YtdbgmbbchjfpdaaDoor
