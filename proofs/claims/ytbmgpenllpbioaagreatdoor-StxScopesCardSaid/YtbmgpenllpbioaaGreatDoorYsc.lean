/- The reference of layer 10: Add, Flip. (Written by tools/gen_ysc.py.) -/
import Derived.Test.YtbmgpenllpbioaaGreatDoorYck
import Derived.Test.YtbmgpenllpbioaaGreatDoorYs
import Derived.BigQuiet
namespace Go.Proofs.YtbmgpenllpbioaaGreatDoor
open Go.RowKit Go.PlainAid

theorem xcs_set (a b : List Sx) (x : Sx) (q : List UInt8) : (xcs (a ++ x :: b)).set (a.length * 8 + 4) (.string (str q)) = xcs (a ++ { x with p := q } :: b) := by
  rw [xcs_app, xcs_app, List.set_append, if_neg (by rw [xcs_len]; omega), xcs_len, show a.length * 8 + 4 - a.length * 8 = 4 by omega, xcs_cons, xcs_cons]
  rfl
def mapTo (G : List UInt8 → List UInt8 × Int) (i : Nat) (l : List Sx) : List Sx := (l.take i).map (setP G) ++ l.drop i
theorem mapTo_at {G : List UInt8 → List UInt8 × Int} {i : Nat} {l : List Sx} {x : Sx} (h : l[i]? = some x) : mapTo G i l = (l.take i).map (setP G) ++ x :: l.drop (i + 1) ∧ ((l.take i).map (setP G)).length = i := by
  have hk := List.getElem?_eq_some_iff.1 h
  refine ⟨by unfold mapTo; rw [List.drop_eq_getElem_cons hk.1, hk.2], by have h1 := hk.1; rw [List.length_map, List.length_take]; omega⟩
theorem mapTo_next {G : List UInt8 → List UInt8 × Int} {i : Nat} {l : List Sx} {x : Sx} (h : l[i]? = some x) : mapTo G (i + 1) l = (l.take i).map (setP G) ++ setP G x :: l.drop (i + 1) := by
  unfold mapTo; rw [List.take_add_one, h, List.map_append, List.append_assoc]; rfl
theorem mapTo_len (G : List UInt8 → List UInt8 × Int) (i : Nat) (l : List Sx) : (mapTo G i l).length = l.length := by
  unfold mapTo; rw [List.length_append, List.length_map, ← List.length_append, List.take_append_drop]
theorem emp_rowX (B : Nat) (W : World) (h : B ≤ W.heap.size) : (W.alloc (.cells #[] 28)).ownsRow B 28 8 (.slice (some ⟨W.heap.size, 0, none⟩) 0 0) 0 [] :=
  ⟨rfl, .inr ⟨W.heap.size, 0, #[], rfl, h, World.alloc_heap_new _ _, Nat.le_refl _, by unfold maxLen; omega, rfl, rfl⟩⟩
set_option maxRecDepth 50000 in
set_option maxHeartbeats 6400000 in
theorem rAddX_any (sc : Int) (v : Value) (l : List Sx) (w : World) (h : XsAt w v l) (hs : SmX l) (hi : InX l) :
    Calls Tryz.prog 35 #[v, .int .i64 sc] w (ChgR (chgS (fun p => oneS true true true p sc) l).1 (chgS (fun p => oneS true true true p sc) l).1.length (chgS (fun p => oneS true true true p sc) l).2 w) := by
  have C := Lib.hid (rCheck10_any v l w h hs hi)
  by_cases h0 : (chkX l).2 = 0
  · obtain ⟨_, hne, hlen⟩ := chkX_tree h0
    have hz := (chkX_ok h0).1
    rw [hz] at C
    obtain ⟨av, nv, cv, rfl, hn, hcv, hx⟩ := id h
    rcases hx with rfl | ⟨g, off, rfl, hg, hcell⟩
    · exact absurd rfl hne
    have hn0 : 0 < nv := by rw [hn]; exact List.length_pos_iff.2 hne
    have HNl := Lib.hid hn
    have HL : Hid ((xcs l).length = nv * 8) := Lib.hid (by rw [xcs_len, hn])
    have HOne := Lib.hid (one_xcs l)
    have HC : Hid (∀ W, Below w.heap.size w W → ∀ j u, (xcs l)[j]? = some u → (W.alloc (.cells #[] 28)).cell? ((⟨g, off, none⟩ : Addr).add j) = some u) := Lib.hid fun W hW j u hj => by
      rw [Go.WideShapes.add_plain]
      exact ((hW.alloc hW.size _).cell (p := ⟨g, off + j, none⟩) hg).trans (hcell j u hj)
    have HR : Hid (∀ x ∈ l, ∀ W, Calls Tryz.prog 45 #[.string (str x.p), .int .i64 sc] W fun e w' => e = .returned (strE (oneS true true true x.p sc)) ∧ Below W.heap.size W w') := Lib.hid fun x hx W => rAdd_any x.p sc W (hs x hx).2
    have hlv : nv ≤ 2000 := by omega
    have HV : Hid ((∀ (j : Nat) (y : Sx), l[j]? = some y → (oneS true true true y.p sc).2 = 0) → chgS (fun p => oneS true true true p sc) l = (mapTo (fun p => oneS true true true p sc) nv l, 0)) := Lib.hid fun ha => by
      rw [chgS_ok h0 (firstE_none fun x hx => by obtain ⟨j, hj, e⟩ := List.getElem_of_mem hx; exact ha j x (by rw [List.getElem?_eq_getElem hj, e]))]
      unfold mapTo; rw [hn, List.take_length, List.drop_length, List.append_nil]
    have HB : Hid (∀ (k : Nat) (x : Sx), (∀ (j : Nat) (y : Sx), j < k → l[j]? = some y → (oneS true true true y.p sc).2 = 0) → l[k]? = some x → (oneS true true true x.p sc).2 ≠ 0 → chgS (fun p => oneS true true true p sc) l = ([], (oneS true true true x.p sc).2)) := Lib.hid fun k x ha hk he => by
      have := firstE_at (g := fun p => oneS true true true p sc) ha hk he
      rw [chgS_err h0 (by rw [this]; exact he), this]
    obtain ⟨r, hr⟩ : ∃ r, chgS (fun p => oneS true true true p sc) l = r := ⟨_, rfl⟩
    rw [hr] at HV HB ⊢
    obtain ⟨i0, hi1, hj0, hj1, hj2⟩ := info_parts2 zeroSxI
    clear hr h hs hi h0 hne hlen hz hn hcell hg
    go_enter Tryz.func35, Tryz.ntmps35
    go_wp2_with fail
    refine C.out.mono ?_
    rintro e w1 ⟨rfl, hb1⟩
    have hs1 := hb1.size
    go_wp2_with (at_builtin; refine wpList_append_own _ rfl _ _ 22 rfl w.heap.size 28 i0 zeroNx 8 80 Tryz.underlying22 hi1 hj0 hj1 hj2 rfl (by decide) _ _ _ rfl (emp_rowX w.heap.size w1 hs1) ⟨g, off, none⟩ nv cv (xcs l) rfl HL.out (HC.out w1 hb1) HOne.out (by unfold maxLen; omega) (by omega) (by rw [World.size_alloc]; omega) ?_; intro v4 w4 hown4 hgrow4 _; rw [Nat.zero_add, List.nil_append] at hown4; obtain ⟨b4, cb4, rfl⟩ := own_lenR hown4; have hb4 : Below w.heap.size w w4 := (hb1.alloc hs1 _).grown hgrow4 (by rw [World.size_alloc]; omega) (own_at rfl hs1); have HO4 := Lib.hid hown4; clear hown4 hgrow4)
    -- MARK1
    go_loopw [9] (fun x9 wr => ∃ i : Nat, i ≤ nv ∧ x9 = .int .i64 i ∧ Hid (wr.ownsRow w.heap.size 28 8 (.slice b4 nv cb4) nv (xcs (mapTo (fun p => oneS true true true p sc) i l))) ∧ Below w.heap.size w wr ∧ Hid (∀ (j : Nat) (y : Sx), j < i → l[j]? = some y → (oneS true true true y.p sc).2 = 0)) (fun x9 _ => nv - (intOf x9).toNat)
    case atStart => exact ⟨0, Nat.zero_le _, rfl, by unfold mapTo; exact HO4, hb4, Lib.hid fun j y hj => absurd hj (Nat.not_lt_zero _)⟩
    case round =>
      obtain ⟨i, hin, rfl, HO, hb, HZ⟩ := hrel
      by_cases hlt : i < nv
      · obtain ⟨x, hx⟩ : ∃ x, l[i]? = some x := ⟨_, List.getElem?_eq_getElem (by rw [← HNl.out]; exact hlt)⟩
        obtain ⟨hm1, hm2⟩ := mapTo_at (G := fun p => oneS true true true p sc) hx
        have hXs : XsAt wr (.slice b4 nv cb4) (mapTo (fun p => oneS true true true p sc) i l) := xs_own HO.out (by rw [mapTo_len, HNl.out])
        have hat : (mapTo (fun p => oneS true true true p sc) i l)[i]? = some x := by rw [hm1, List.getElem?_append_right (by omega), hm2, Nat.sub_self]; rfl
        obtain ⟨go, oo, rfl, hgo, _, _, _, _, c4, _, _, _⟩ := hXs.node hat
        rcases own_formR HO.out with ⟨hnn, _⟩ | ⟨go', cc', hv', hge, _⟩
        · cases hnn
        obtain ⟨hgg, -, -⟩ := Value.slice.inj hv'
        cases hgg
        rw [Nat.zero_add] at c4
        have CRx := Lib.hid (HR.out x (List.mem_of_getElem? hx))
        have HBx := Lib.hid (HB.out i x HZ.out hx)
        have HSt : Hid (∀ (q : List UInt8), (oneS true true true x.p sc).1 = q → (oneS true true true x.p sc).2 = 0 → ∀ (W : World), W.ownsRow w.heap.size 28 8 (.slice (some ⟨go, 0, none⟩) nv cb4) nv (xcs (mapTo (fun p => oneS true true true p sc) i l)) → (W.setCell ⟨go, i * 8 + 4, none⟩ (.string (str q))).ownsRow w.heap.size 28 8 (.slice (some ⟨go, 0, none⟩) nv cb4) nv (xcs (mapTo (fun p => oneS true true true p sc) (i + 1) l))) := Lib.hid fun q hq _ W hW => by
          have h1 := (hW.stored (i * 8 + 4) (.string (str q))).1
          have h2 := xcs_set ((l.take i).map (setP fun p => oneS true true true p sc)) (l.drop (i + 1)) x q
          rw [hm2, ← hm1] at h2
          rw [h2] at h1
          rw [mapTo_next hx]
          unfold setP
          simp only [hq]
          exact h1
        have HZ' : Hid ((oneS true true true x.p sc).2 = 0 → ∀ (j : Nat) (y : Sx), j < i + 1 → l[j]? = some y → (oneS true true true y.p sc).2 = 0) := Lib.hid fun he j y hj hy => by
          by_cases hji : j < i
          · exact HZ.out j y hji hy
          · obtain rfl : j = i := by omega
            rw [hx] at hy
            obtain rfl := Option.some.inj hy
            exact he
        obtain ⟨P, hP⟩ : ∃ P, str x.p = P := ⟨_, rfl⟩
        obtain ⟨⟨q, er⟩, hq⟩ : ∃ rr, oneS true true true x.p sc = rr := ⟨_, rfl⟩
        rw [hq] at CRx HBx HSt HZ'
        rw [hP] at CRx c4
        unfold strE at CRx
        simp only at CRx HBx HSt HZ'
        obtain ⟨Q, hQ⟩ : ∃ P, str q = P := ⟨_, rfl⟩
        rw [hQ] at CRx
        have HQ := Lib.hid hQ
        have hi0 : (0 : Int) ≤ (i : Int) := Int.natCast_nonneg _
        have hi9 : (i : Int) < (nv : Int) := by omega
        clear hx hm1 hm2 hXs hat hP hq hQ hv'
        by_cases he : er = 0
        · subst he
          have HZ2 := Lib.hid (HZ'.out rfl)
          have HS2 := Lib.hid (HSt.out q rfl rfl)
          clear HZ' HSt HBx
          go_wp2_with fail
          refine (CRx.out _).mono ?_
          rintro e w2 ⟨rfl, hb2⟩
          have hbw := hb.trans (hb2.mono hb.size)
          have c5 : w2.cell? ⟨go, i * 8 + 4, none⟩ = some (.string P) := (hb2.cell (p := ⟨go, i * 8 + 4, none⟩) hgo).trans c4
          have HO2 := Lib.hid (own_below HO.out hb2)
          have f5 : w2.frozen? ⟨go, i * 8 + 4, none⟩ = false := HO2.out.frozenAt (i * 8 + 4)
          have HO3 : Hid ((w2.setCell ⟨go, i * 8 + 4, none⟩ (.string Q)).ownsRow w.heap.size 28 8 (.slice (some ⟨go, 0, none⟩) nv cb4) nv (xcs (mapTo (fun p => oneS true true true p sc) (i + 1) l))) := Lib.hid (by
            have := HS2.out w2 HO2.out
            rw [HQ.out] at this; exact this)
          have hbz : Below w.heap.size w (w2.setCell ⟨go, i * 8 + 4, none⟩ (.string Q)) := hbw.setCell hge _
          clear c4 HO2 HS2 hb2
          go_wp2_with fail
          -- MARK2
          exact ⟨⟨i + 1, by omega, by go_num, HO3, ⟨hbz.os, hbz.tape, hbz.output, hbz.size, hbz.block⟩, HZ2⟩, by simp [intOf]; omega⟩
        · have hne : (er != 0) = true := bne_iff_ne.2 he
          have HW := Lib.hid (HBx.out he)
          clear HZ' HSt HBx he
          go_wp2_with fail
          refine (CRx.out _).mono ?_
          rintro e w2 ⟨rfl, hb2⟩
          have hbw := hb.trans (hb2.mono hb.size)
          have c5 : w2.cell? ⟨go, i * 8 + 4, none⟩ = some (.string P) := (hb2.cell (p := ⟨go, i * 8 + 4, none⟩) hgo).trans c4
          have HO2 := Lib.hid (own_below HO.out hb2)
          have f5 : w2.frozen? ⟨go, i * 8 + 4, none⟩ = false := HO2.out.frozenAt (i * 8 + 4)
          have hbz : Below w.heap.size w (w2.setCell ⟨go, i * 8 + 4, none⟩ (.string Q)) := hbw.setCell hge _
          clear c4 HO2 hb2
          go_wp2_with fail
          -- MARK3
          go_ret2
          rw [HW.out]
          exact ⟨none, 0, rfl, Lib.hid (xs_nil _ _ _), hbz⟩
      · obtain rfl : i = nv := by omega
        go_wp2_with fail
        -- MARK4
        go_ret2
        have hr := HV.out fun j y hy => HZ.out j y (by have := (List.getElem?_eq_some_iff.1 hy).1; rw [HNl.out]; exact this) hy
        rw [hr]
        have hml : (mapTo (fun p => oneS true true true p sc) i l).length = i := by rw [mapTo_len, HNl.out]
        refine ⟨b4, cb4, by simp only [hml]; rfl, Lib.hid ?_, hb⟩
        simp only [hml]
        exact xs_own HO.out hml
  · have HW := Lib.hid (chgS_bad (g := fun p => oneS true true true p sc) h0)
    obtain ⟨⟨z1, z2⟩, hz⟩ : ∃ z, chkX l = z := ⟨_, rfl⟩
    rw [hz] at C HW h0
    simp only at C HW h0
    have hne : (z2 != 0) = true := bne_iff_ne.2 h0
    obtain ⟨r, hr⟩ : ∃ r, chgS (fun p => oneS true true true p sc) l = r := ⟨_, rfl⟩
    rw [hr] at HW ⊢
    obtain ⟨av, cv, rfl, _⟩ := h.slice
    obtain ⟨n, hn⟩ : ∃ n, l.length = n := ⟨_, rfl⟩
    rw [hn] at C ⊢
    clear h hs hi h0 hz hr hn
    go_enter Tryz.func35, Tryz.ntmps35
    go_wp2_with fail
    refine C.out.mono ?_
    rintro e w1 ⟨rfl, hb1⟩
    go_wp2_with fail
    go_ret2
    rw [HW.out]
    exact ⟨none, 0, rfl, Lib.hid (xs_nil _ _ _), hb1⟩
set_option maxRecDepth 50000 in
set_option maxHeartbeats 6400000 in
theorem rFlipX_any (sc : Int) (v : Value) (l : List Sx) (w : World) (h : XsAt w v l) (hs : SmX l) (hi : InX l) :
    Calls Tryz.prog 37 #[v, .int .i64 sc] w (ChgR (chgS (fun p => oneS true false true p sc) l).1 (chgS (fun p => oneS true false true p sc) l).1.length (chgS (fun p => oneS true false true p sc) l).2 w) := by
  have C := Lib.hid (rCheck10_any v l w h hs hi)
  by_cases h0 : (chkX l).2 = 0
  · obtain ⟨_, hne, hlen⟩ := chkX_tree h0
    have hz := (chkX_ok h0).1
    rw [hz] at C
    obtain ⟨av, nv, cv, rfl, hn, hcv, hx⟩ := id h
    rcases hx with rfl | ⟨g, off, rfl, hg, hcell⟩
    · exact absurd rfl hne
    have hn0 : 0 < nv := by rw [hn]; exact List.length_pos_iff.2 hne
    have HNl := Lib.hid hn
    have HL : Hid ((xcs l).length = nv * 8) := Lib.hid (by rw [xcs_len, hn])
    have HOne := Lib.hid (one_xcs l)
    have HC : Hid (∀ W, Below w.heap.size w W → ∀ j u, (xcs l)[j]? = some u → (W.alloc (.cells #[] 28)).cell? ((⟨g, off, none⟩ : Addr).add j) = some u) := Lib.hid fun W hW j u hj => by
      rw [Go.WideShapes.add_plain]
      exact ((hW.alloc hW.size _).cell (p := ⟨g, off + j, none⟩) hg).trans (hcell j u hj)
    have HR : Hid (∀ x ∈ l, ∀ W, Calls Tryz.prog 44 #[.string (str x.p), .int .i64 sc] W fun e w' => e = .returned (strE (oneS true false true x.p sc)) ∧ Below W.heap.size W w') := Lib.hid fun x hx W => rFlip_any x.p sc W (hs x hx).2
    have hlv : nv ≤ 2000 := by omega
    have HV : Hid ((∀ (j : Nat) (y : Sx), l[j]? = some y → (oneS true false true y.p sc).2 = 0) → chgS (fun p => oneS true false true p sc) l = (mapTo (fun p => oneS true false true p sc) nv l, 0)) := Lib.hid fun ha => by
      rw [chgS_ok h0 (firstE_none fun x hx => by obtain ⟨j, hj, e⟩ := List.getElem_of_mem hx; exact ha j x (by rw [List.getElem?_eq_getElem hj, e]))]
      unfold mapTo; rw [hn, List.take_length, List.drop_length, List.append_nil]
    have HB : Hid (∀ (k : Nat) (x : Sx), (∀ (j : Nat) (y : Sx), j < k → l[j]? = some y → (oneS true false true y.p sc).2 = 0) → l[k]? = some x → (oneS true false true x.p sc).2 ≠ 0 → chgS (fun p => oneS true false true p sc) l = ([], (oneS true false true x.p sc).2)) := Lib.hid fun k x ha hk he => by
      have := firstE_at (g := fun p => oneS true false true p sc) ha hk he
      rw [chgS_err h0 (by rw [this]; exact he), this]
    obtain ⟨r, hr⟩ : ∃ r, chgS (fun p => oneS true false true p sc) l = r := ⟨_, rfl⟩
    rw [hr] at HV HB ⊢
    obtain ⟨i0, hi1, hj0, hj1, hj2⟩ := info_parts2 zeroSxI
    clear hr h hs hi h0 hne hlen hz hn hcell hg
    go_enter Tryz.func37, Tryz.ntmps37
    go_wp2_with fail
    refine C.out.mono ?_
    rintro e w1 ⟨rfl, hb1⟩
    have hs1 := hb1.size
    go_wp2_with (at_builtin; refine wpList_append_own _ rfl _ _ 22 rfl w.heap.size 28 i0 zeroNx 8 80 Tryz.underlying22 hi1 hj0 hj1 hj2 rfl (by decide) _ _ _ rfl (emp_rowX w.heap.size w1 hs1) ⟨g, off, none⟩ nv cv (xcs l) rfl HL.out (HC.out w1 hb1) HOne.out (by unfold maxLen; omega) (by omega) (by rw [World.size_alloc]; omega) ?_; intro v4 w4 hown4 hgrow4 _; rw [Nat.zero_add, List.nil_append] at hown4; obtain ⟨b4, cb4, rfl⟩ := own_lenR hown4; have hb4 : Below w.heap.size w w4 := (hb1.alloc hs1 _).grown hgrow4 (by rw [World.size_alloc]; omega) (own_at rfl hs1); have HO4 := Lib.hid hown4; clear hown4 hgrow4)
    -- MARK1
    go_loopw [9] (fun x9 wr => ∃ i : Nat, i ≤ nv ∧ x9 = .int .i64 i ∧ Hid (wr.ownsRow w.heap.size 28 8 (.slice b4 nv cb4) nv (xcs (mapTo (fun p => oneS true false true p sc) i l))) ∧ Below w.heap.size w wr ∧ Hid (∀ (j : Nat) (y : Sx), j < i → l[j]? = some y → (oneS true false true y.p sc).2 = 0)) (fun x9 _ => nv - (intOf x9).toNat)
    case atStart => exact ⟨0, Nat.zero_le _, rfl, by unfold mapTo; exact HO4, hb4, Lib.hid fun j y hj => absurd hj (Nat.not_lt_zero _)⟩
    case round =>
      obtain ⟨i, hin, rfl, HO, hb, HZ⟩ := hrel
      by_cases hlt : i < nv
      · obtain ⟨x, hx⟩ : ∃ x, l[i]? = some x := ⟨_, List.getElem?_eq_getElem (by rw [← HNl.out]; exact hlt)⟩
        obtain ⟨hm1, hm2⟩ := mapTo_at (G := fun p => oneS true false true p sc) hx
        have hXs : XsAt wr (.slice b4 nv cb4) (mapTo (fun p => oneS true false true p sc) i l) := xs_own HO.out (by rw [mapTo_len, HNl.out])
        have hat : (mapTo (fun p => oneS true false true p sc) i l)[i]? = some x := by rw [hm1, List.getElem?_append_right (by omega), hm2, Nat.sub_self]; rfl
        obtain ⟨go, oo, rfl, hgo, _, _, _, _, c4, _, _, _⟩ := hXs.node hat
        rcases own_formR HO.out with ⟨hnn, _⟩ | ⟨go', cc', hv', hge, _⟩
        · cases hnn
        obtain ⟨hgg, -, -⟩ := Value.slice.inj hv'
        cases hgg
        rw [Nat.zero_add] at c4
        have CRx := Lib.hid (HR.out x (List.mem_of_getElem? hx))
        have HBx := Lib.hid (HB.out i x HZ.out hx)
        have HSt : Hid (∀ (q : List UInt8), (oneS true false true x.p sc).1 = q → (oneS true false true x.p sc).2 = 0 → ∀ (W : World), W.ownsRow w.heap.size 28 8 (.slice (some ⟨go, 0, none⟩) nv cb4) nv (xcs (mapTo (fun p => oneS true false true p sc) i l)) → (W.setCell ⟨go, i * 8 + 4, none⟩ (.string (str q))).ownsRow w.heap.size 28 8 (.slice (some ⟨go, 0, none⟩) nv cb4) nv (xcs (mapTo (fun p => oneS true false true p sc) (i + 1) l))) := Lib.hid fun q hq _ W hW => by
          have h1 := (hW.stored (i * 8 + 4) (.string (str q))).1
          have h2 := xcs_set ((l.take i).map (setP fun p => oneS true false true p sc)) (l.drop (i + 1)) x q
          rw [hm2, ← hm1] at h2
          rw [h2] at h1
          rw [mapTo_next hx]
          unfold setP
          simp only [hq]
          exact h1
        have HZ' : Hid ((oneS true false true x.p sc).2 = 0 → ∀ (j : Nat) (y : Sx), j < i + 1 → l[j]? = some y → (oneS true false true y.p sc).2 = 0) := Lib.hid fun he j y hj hy => by
          by_cases hji : j < i
          · exact HZ.out j y hji hy
          · obtain rfl : j = i := by omega
            rw [hx] at hy
            obtain rfl := Option.some.inj hy
            exact he
        obtain ⟨P, hP⟩ : ∃ P, str x.p = P := ⟨_, rfl⟩
        obtain ⟨⟨q, er⟩, hq⟩ : ∃ rr, oneS true false true x.p sc = rr := ⟨_, rfl⟩
        rw [hq] at CRx HBx HSt HZ'
        rw [hP] at CRx c4
        unfold strE at CRx
        simp only at CRx HBx HSt HZ'
        obtain ⟨Q, hQ⟩ : ∃ P, str q = P := ⟨_, rfl⟩
        rw [hQ] at CRx
        have HQ := Lib.hid hQ
        have hi0 : (0 : Int) ≤ (i : Int) := Int.natCast_nonneg _
        have hi9 : (i : Int) < (nv : Int) := by omega
        clear hx hm1 hm2 hXs hat hP hq hQ hv'
        by_cases he : er = 0
        · subst he
          have HZ2 := Lib.hid (HZ'.out rfl)
          have HS2 := Lib.hid (HSt.out q rfl rfl)
          clear HZ' HSt HBx
          go_wp2_with fail
          refine (CRx.out _).mono ?_
          rintro e w2 ⟨rfl, hb2⟩
          have hbw := hb.trans (hb2.mono hb.size)
          have c5 : w2.cell? ⟨go, i * 8 + 4, none⟩ = some (.string P) := (hb2.cell (p := ⟨go, i * 8 + 4, none⟩) hgo).trans c4
          have HO2 := Lib.hid (own_below HO.out hb2)
          have f5 : w2.frozen? ⟨go, i * 8 + 4, none⟩ = false := HO2.out.frozenAt (i * 8 + 4)
          have HO3 : Hid ((w2.setCell ⟨go, i * 8 + 4, none⟩ (.string Q)).ownsRow w.heap.size 28 8 (.slice (some ⟨go, 0, none⟩) nv cb4) nv (xcs (mapTo (fun p => oneS true false true p sc) (i + 1) l))) := Lib.hid (by
            have := HS2.out w2 HO2.out
            rw [HQ.out] at this; exact this)
          have hbz : Below w.heap.size w (w2.setCell ⟨go, i * 8 + 4, none⟩ (.string Q)) := hbw.setCell hge _
          clear c4 HO2 HS2 hb2
          go_wp2_with fail
          -- MARK2
          exact ⟨⟨i + 1, by omega, by go_num, HO3, ⟨hbz.os, hbz.tape, hbz.output, hbz.size, hbz.block⟩, HZ2⟩, by simp [intOf]; omega⟩
        · have hne : (er != 0) = true := bne_iff_ne.2 he
          have HW := Lib.hid (HBx.out he)
          clear HZ' HSt HBx he
          go_wp2_with fail
          refine (CRx.out _).mono ?_
          rintro e w2 ⟨rfl, hb2⟩
          have hbw := hb.trans (hb2.mono hb.size)
          have c5 : w2.cell? ⟨go, i * 8 + 4, none⟩ = some (.string P) := (hb2.cell (p := ⟨go, i * 8 + 4, none⟩) hgo).trans c4
          have HO2 := Lib.hid (own_below HO.out hb2)
          have f5 : w2.frozen? ⟨go, i * 8 + 4, none⟩ = false := HO2.out.frozenAt (i * 8 + 4)
          have hbz : Below w.heap.size w (w2.setCell ⟨go, i * 8 + 4, none⟩ (.string Q)) := hbw.setCell hge _
          clear c4 HO2 hb2
          go_wp2_with fail
          -- MARK3
          go_ret2
          rw [HW.out]
          exact ⟨none, 0, rfl, Lib.hid (xs_nil _ _ _), hbz⟩
      · obtain rfl : i = nv := by omega
        go_wp2_with fail
        -- MARK4
        go_ret2
        have hr := HV.out fun j y hy => HZ.out j y (by have := (List.getElem?_eq_some_iff.1 hy).1; rw [HNl.out]; exact this) hy
        rw [hr]
        have hml : (mapTo (fun p => oneS true false true p sc) i l).length = i := by rw [mapTo_len, HNl.out]
        refine ⟨b4, cb4, by simp only [hml]; rfl, Lib.hid ?_, hb⟩
        simp only [hml]
        exact xs_own HO.out hml
  · have HW := Lib.hid (chgS_bad (g := fun p => oneS true false true p sc) h0)
    obtain ⟨⟨z1, z2⟩, hz⟩ : ∃ z, chkX l = z := ⟨_, rfl⟩
    rw [hz] at C HW h0
    simp only at C HW h0
    have hne : (z2 != 0) = true := bne_iff_ne.2 h0
    obtain ⟨r, hr⟩ : ∃ r, chgS (fun p => oneS true false true p sc) l = r := ⟨_, rfl⟩
    rw [hr] at HW ⊢
    obtain ⟨av, cv, rfl, _⟩ := h.slice
    obtain ⟨n, hn⟩ : ∃ n, l.length = n := ⟨_, rfl⟩
    rw [hn] at C ⊢
    clear h hs hi h0 hz hr hn
    go_enter Tryz.func37, Tryz.ntmps37
    go_wp2_with fail
    refine C.out.mono ?_
    rintro e w1 ⟨rfl, hb1⟩
    go_wp2_with fail
    go_ret2
    rw [HW.out]
    exact ⟨none, 0, rfl, Lib.hid (xs_nil _ _ _), hb1⟩
-- MARK9
end Go.Proofs.YtbmgpenllpbioaaGreatDoor
