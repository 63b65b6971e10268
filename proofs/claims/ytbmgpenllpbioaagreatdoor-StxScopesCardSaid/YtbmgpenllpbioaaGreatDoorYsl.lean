/- The law StxScopes. -/
import Derived.Test.YtbmgpenllpbioaaGreatDoorYsc
import Derived.BigQuiet
namespace Go.Proofs.YtbmgpenllpbioaaGreatDoor
open Go.RowKit Go.PlainAid

set_option maxRecDepth 100000 in
set_option maxHeartbeats 6400000 in
theorem lawSc_go (n : Nat) (av : Option Addr) (cv : Nat) (l : List Sx) (hln : l.length = n) (sc : Int) (w : World) (h : XsAt w (.slice av n cv) l) (CF : Calls Tryz.prog 10 #[.slice av n cv] w (FarV l w)) (CAw : ∀ W, Below w.heap.size w W → Calls Tryz.prog 11 #[] W fun e w' => e = .returned (.bool true) ∧ Below W.heap.size W w')
    (nA nF : Nat) (LA LF : List Sx) (eA eF : Int) (hA : NearX l → LA.length ≤ 1000000) (hF : NearX l → LF.length ≤ 1000000)
    (C1 : NearX l → ∀ W, Below w.heap.size w W → Calls Tryz.prog 34 #[.slice av n cv, .int .i64 sc] W (ChgR LA nA eA W)) (C2 : NearX l → ∀ W, Below w.heap.size w W → Calls Tryz.prog 35 #[.slice av n cv, .int .i64 sc] W (ChgR LA nA eA W))
    (C3 : NearX l → ∀ W, Below w.heap.size w W → Calls Tryz.prog 36 #[.slice av n cv, .int .i64 sc] W (ChgR LF nF eF W)) (C4 : NearX l → ∀ W, Below w.heap.size w W → Calls Tryz.prog 37 #[.slice av n cv, .int .i64 sc] W (ChgR LF nF eF W)) :
    Calls Tryz.prog 6 #[.slice av n cv, .int .i64 sc] w fun e w' => e = .returned (.bool true) ∧ Below w.heap.size w w' := by
  replace CF := Lib.hid CF
  replace CAw := Lib.hid CAw
  replace C1 := Lib.hid C1
  replace C2 := Lib.hid C2
  replace C3 := Lib.hid C3
  replace C4 := Lib.hid C4
  replace hA := Lib.hid hA
  replace hF := Lib.hid hF
  have HV := Lib.hid h
  have HL := Lib.hid hln
  have HLx : Hid ((xcs l).length = n * 8) := Lib.hid (by rw [xcs_len, hln])
  have HOne := Lib.hid (one_xcs l)
  have CS : Hid (∀ v u L W, XsAt W v L → XsAt W u L → L.length ≤ 1000000 → Calls Tryz.prog 23 #[v, u] W fun e w' => e = .returned (.bool true) ∧ Below W.heap.size W w') := Lib.hid fun v u L W h1 h2 h3 => sameTree_any v u L W h1 h2 h3
  have qA : (eA == eA) = true := beq_self_eq_true eA
  have qF : (eF == eF) = true := beq_self_eq_true eF
  have HC : Hid (∀ ad, av = some ad → ∀ j u, (xcs l)[j]? = some u → (w.alloc (.cells #[] 28)).cell? (ad.add j) = some u) := Lib.hid fun ad hav j u hj => by
    obtain ⟨_, _, _, e, _, _, hr⟩ := h
    obtain ⟨rfl, rfl, rfl⟩ := Value.slice.inj e
    rcases hr with rfl | ⟨g', off', e', hg, hcell⟩
    · simp [xcs] at hj
    · obtain rfl := Option.some.inj (hav.symm.trans e')
      rw [Go.WideShapes.add_plain]
      exact (cell_oldX w _ ⟨g', off' + j, none⟩ hg).trans (hcell j u hj)
  have HN0 : Hid (av = none → n = 0 ∧ l = []) := Lib.hid fun hav => by
    obtain ⟨_, _, _, e, hn, _, hr⟩ := h
    obtain ⟨rfl, rfl, rfl⟩ := Value.slice.inj e
    rcases hr with rfl | ⟨g', off', e', hg, hcell⟩
    · exact ⟨hn, rfl⟩
    · rw [hav] at e'; cases e'
  obtain ⟨i0, hi1, hj0, hj1, hj2⟩ := info_parts2 zeroSxI
  clear h hln
  go_enter Tryz.func6, Tryz.ntmps6
  go_wp2_with fail
  refine CF.out.mono ?_
  rintro e w0 ⟨bf, rfl, HN, rfl⟩
  cases bf
  case true =>
    clear HN
    go_wp2_with fail
    refine (CAw.out _ (Below.refl _ _)).mono ?_
    rintro e w9 ⟨rfl, hb9⟩
    go_wp2_with fail
    go_ret
    exact ⟨rfl, hb9⟩
  have HNr := Lib.hid (HN.out rfl)
  clear HN
  have hn20 : n ≤ 2010 := by have := HNr.out.1; rw [HL.out] at this; exact this
  go_upto_region 3 with (fail)
  -- MARK1
  go_cut [5] from 17 to 19 (fun s5 wx => ∃ a5 c5, s5 = .slice a5 n c5 ∧ Hid (XsAt wx (.slice a5 n c5) l) ∧ Below w0.heap.size w0 wx)
  case first =>
    cases av with
    | none =>
      obtain ⟨rfl, rfl⟩ := HN0.out rfl
      go_wp2
      -- MARK2
      go_meet
      exact ⟨_, _, rfl, Lib.hid (xs_nil _ _ _), below_b1 _ _⟩
    | some ad =>
      go_wp2_with (at_builtin; refine wpList_append_own _ rfl _ _ 22 rfl w0.heap.size 28 i0 zeroNx 8 80 Tryz.underlying22 hi1 hj0 hj1 hj2 rfl (by decide) _ _ _ rfl (emp_rowX w0.heap.size w0 (Nat.le_refl _)) ad n cv (xcs l) rfl HLx.out (HC.out ad rfl) HOne.out (by unfold maxLen; omega) (by omega) (by rw [World.size_alloc]; omega) ?_; intro v4 w4 hown4 hgrow4 _; rw [Nat.zero_add, List.nil_append] at hown4; obtain ⟨b4, cb4, rfl⟩ := own_lenR hown4; have hb4 : Below w0.heap.size w0 w4 := (below_b1 w0 _).grown hgrow4 (by rw [World.size_alloc]; omega) (own_at rfl (Nat.le_refl _)); have HO4 := Lib.hid hown4; clear hown4 hgrow4)
      go_meet
      exact ⟨b4, cb4, rfl, Lib.hid (xs_own HO4.out HL.out), hb4⟩
  case rest =>
    obtain ⟨a5, c5, rfl, HX5, hb5⟩ := hcut
    clear HC HN0 hi1 hj0 hj1 hj2
    go_wp2_with fail
    refine (C1.out HNr.out _ hb5).mono ?_
    rintro e w1 ⟨a1, c1, rfl, hx1, hb1⟩
    have hB1 := below_step hb5 hb1
    go_wp2_with fail
    refine (C2.out HNr.out _ hB1).mono ?_
    rintro e w2 ⟨a2, c2, rfl, hx2, hb2⟩
    have hB2 := below_step hB1 hb2
    go_wp2_with fail
    refine (C3.out HNr.out _ hB2).mono ?_
    rintro e w3 ⟨a3, c3, rfl, hx3, hb3⟩
    have hB3 := below_step hB2 hb3
    go_wp2_with fail
    refine (C4.out HNr.out _ hB3).mono ?_
    rintro e w4 ⟨a4, c4, rfl, hx4, hb4⟩
    have hB4 := below_step hB3 hb4
    have h24 := below_step hb3 hb4
    have h14 := below_step hb2 h24
    have h04 := below_step hb1 h14
    go_wp2_with fail
    refine (CS.out _ _ LA _ (hx1.out.below h14 (Nat.le_refl _)) (hx2.out.below h24 (Nat.le_refl _)) (hA.out HNr.out)).mono ?_
    rintro e w5 ⟨rfl, hb5'⟩
    have hB5 := below_step hB4 hb5'
    go_wp2_with fail
    refine (CS.out _ _ LF _ (hx3.out.below (below_step hb4 hb5') (Nat.le_refl _)) (hx4.out.below hb5' (Nat.le_refl _)) (hF.out HNr.out)).mono ?_
    rintro e w6 ⟨rfl, hb6⟩
    have hB6 := below_step hB5 hb6
    go_wp2_with fail
    refine (CS.out _ _ l _ (HV.out.below hB6 (Nat.le_refl _)) (HX5.out.below (below_step h04 (below_step hb5' hb6)) (Nat.le_refl _)) (by rw [HL.out]; omega)).mono ?_
    rintro e w7 ⟨rfl, hb7⟩
    have hB7 := below_step hB6 hb7
    go_wp2_with fail
    refine (CAw.out _ hB7).mono ?_
    rintro e w9 ⟨rfl, hb9⟩
    go_wp2_with fail
    go_ret
    exact ⟨rfl, below_step hB7 hb9⟩
theorem lawSc_any (v : Value) (l : List Sx) (sc : Int) (w : World) (h : XsAt w v l) (hi : InX l) (T : XTabs w) :
    Calls Tryz.prog 6 #[v, .int .i64 sc] w fun e w' => e = .returned (.bool true) ∧ Below w.heap.size w w' := by
  obtain ⟨av, cv, rfl, hc⟩ := h.slice
  have hv : ∀ W, Below w.heap.size w W → XsAt W (.slice av l.length cv) l := fun W hW => h.below hW (Nat.le_refl _)
  refine lawSc_go l.length av cv l rfl sc w h (farX_any _ l w h) (fun W hW => awakeX_any W (T.below hW)) (chgS (fun p => oneS true true true p sc) l).1.length (chgS (fun p => oneS true false true p sc) l).1.length (chgS (fun p => oneS true true true p sc) l).1 (chgS (fun p => oneS true false true p sc) l).1 (chgS (fun p => oneS true true true p sc) l).2 (chgS (fun p => oneS true false true p sc) l).2
    (fun hn => Nat.le_trans chg_len (by have := hn.1; omega)) (fun hn => Nat.le_trans chg_len (by have := hn.1; omega)) ?_ ?_ ?_ ?_
  · exact fun hn W hW => (Add_any sc _ l W (hv W hW) hn.sm hi (T.below hW).st (by have := hn.1; omega)).mono fun e W' hc => chgR_of rfl rfl hc
  · exact fun hn W hW => rAddX_any sc _ l W (hv W hW) hn.sm hi
  · exact fun hn W hW => (Flip_any sc _ l W (hv W hW) hn.sm hi (T.below hW).st (by have := hn.1; omega)).mono fun e W' hc => chgR_of rfl rfl hc
  · exact fun hn W hW => rFlipX_any sc _ l W (hv W hW) hn.sm hi
end Go.Proofs.YtbmgpenllpbioaaGreatDoor
