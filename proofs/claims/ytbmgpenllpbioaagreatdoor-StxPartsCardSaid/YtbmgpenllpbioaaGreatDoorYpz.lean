/- The law StxParts. -/
import Derived.Test.YtbmgpenllpbioaaGreatDoorYpm
import Derived.Test.YtbmgpenllpbioaaGreatDoorYf
import Derived.BigQuiet
import Derived.Deep.RegionWith
namespace Go.Proofs.YtbmgpenllpbioaaGreatDoor
open Go.RowKit Go.PlainAid

set_option maxRecDepth 100000 in
set_option maxHeartbeats 12800000 in
theorem lawPa_go (n m kn k np nq : Nat) (av bv : Option Addr) (cv cs : Nat) (l s : List Sx) (i z ez ke ey ep eq : Int) (ks : List Nat) (y P Q : List Sx) (w : World) (hv : XsAt w (.slice av n cv) l) (hu : XsAt w (.slice bv m cs) s)
    (CF1 : Calls Tryz.prog 10 #[.slice av n cv] w (FarV l w)) (CF2 : Calls Tryz.prog 10 #[.slice bv m cs] w (FarV s w))
    (CAw : ∀ W, Below w.heap.size w W → Calls Tryz.prog 11 #[] W fun e w' => e = .returned (.bool true) ∧ Below W.heap.size W w')
    (HG : NearX l → NearX s → GivesPa n m av bv cv cs l s i z ez ks kn ke y k ey P np ep Q nq eq w) :
    Calls Tryz.prog 4 #[.slice av n cv, .slice bv m cs, .int .i64 i] w fun e w' => e = .returned (.bool true) ∧ Below w.heap.size w w' := by
  replace CF1 := Lib.hid CF1
  replace CF2 := Lib.hid CF2
  replace CAw := Lib.hid CAw
  replace HG := Lib.hid HG
  have HV := Lib.hid hv
  have HU := Lib.hid hu
  have CS : Hid (∀ v u L W, XsAt W v L → XsAt W u L → L.length ≤ 1000000 → Calls Tryz.prog 23 #[v, u] W fun e w' => e = .returned (.bool true) ∧ Below W.heap.size W w') := Lib.hid fun v u L W h1 h2 h3 => sameTree_any v u L W h1 h2 h3
  have CI : Hid (∀ v u L W, NatAt W v L → NatAt W u L → L.length ≤ 1000000 → Calls Tryz.prog 18 #[v, u] W fun e w' => e = .returned (.bool true) ∧ Below W.heap.size W w') := Lib.hid fun v u L W h1 h2 h3 => ints_same v u L W h1 h2 h3
  clear hv hu
  go_enter Tryz.func4, Tryz.ntmps4
  go_wp2_with fail
  refine CF1.out.mono ?_
  rintro e w0 ⟨bf, rfl, HN, hw0⟩
  obtain rfl : w = w0 := hw0.symm
  cases bf
  case true =>
    clear HN
    go_wp2_with fail
    refine (CAw.out _ (Below.refl _ _)).mono ?_
    rintro e w9 ⟨rfl, hb9⟩
    go_wp2_with fail
    go_ret
    exact ⟨rfl, hb9⟩
  have HN1 := Lib.hid (HN.out rfl)
  clear HN
  go_wp2_with fail
  refine CF2.out.mono ?_
  rintro e w0 ⟨bf, rfl, HN, hw0⟩
  obtain rfl : w = w0 := hw0.symm
  cases bf
  case true =>
    clear HN
    go_wp2_with fail
    refine (CAw.out _ (Below.refl _ _)).mono ?_
    rintro e w9 ⟨rfl, hb9⟩
    go_wp2_with fail
    go_ret
    exact ⟨rfl, hb9⟩
  have hG := HG.out HN1.out (HN.out rfl)
  obtain ⟨z1, z2, z3, z4, hk⟩ := hG.sz
  have S1 := Lib.hid hG.s1
  have S2 := Lib.hid hG.s2
  have K1 := Lib.hid hG.k1
  have K2 := Lib.hid hG.k2
  have B1 := Lib.hid hG.b1
  have B2 := Lib.hid hG.b2
  have P1 := Lib.hid hG.p1
  have P2 := Lib.hid hG.p2
  have L1 := Lib.hid hG.l1
  have L2 := Lib.hid hG.l2
  have Z1 := Lib.hid z1
  have Z2 := Lib.hid z2
  have Z3 := Lib.hid z3
  have Z4 := Lib.hid z4
  have qz : (z != z) = false := by simp
  have qez : (ez != ez) = false := by simp
  have qke : (ke != ke) = false := by simp
  have qey : (ey != ey) = false := by simp
  have qep : (ep != ep) = false := by simp
  have qeq : (eq == eq) = true := by simp
  clear HN HG hG HN1 CF1 CF2 z1 z2 z3 z4
  go_wp2_with fail
  refine (S1.out w (Below.refl _ _)).mono ?_
  rintro e w1 ⟨rfl, hb1⟩
  clear S1
  go_wp2_with fail
  refine (S2.out w1 hb1).mono ?_
  rintro e w2 ⟨rfl, hb2⟩
  have hB2 := below_step hb1 hb2
  clear hb1 hb2 S2
  go_wp2_with fail
  refine (K1.out w2 hB2).mono ?_
  rintro e w3 ⟨a3, c3, rfl, hx3, hb3⟩
  have hB3 := below_step hB2 hb3
  clear K1 hB2 hb3
  go_wp2_with fail
  refine (K2.out w3 hB3).mono ?_
  rintro e w4 ⟨a4, c4, rfl, hx4, hb4⟩
  have hB4 := below_step hB3 hb4
  have hx34 : NatAt w4 (.slice a3 kn c3) ks := hx3.out.below hb4 (Nat.le_refl _)
  clear K2 hB3 hb4 hx3
  go_wp2_with fail
  -- MARK1
  refine (CI.out _ _ ks _ hx34 hx4.out Z1.out).mono ?_
  rintro e w5 ⟨rfl, hb5⟩
  have hB5 := below_step hB4 hb5
  clear hB4 hb5 hx34 hx4 CI
  go_wp2_with fail
  refine (B1.out w5 hB5).mono ?_
  rintro e w6 ⟨a6, c6, rfl, hx6, hb6⟩
  have hB6 := below_step hB5 hb6
  clear B1 hB5 hb6
  go_wp2_with fail
  refine (B2.out w6 hB6).mono ?_
  rintro e w7 ⟨a7, c7, rfl, hx7, hb7⟩
  have hB7 := below_step hB6 hb7
  have HX67 := Lib.hid (hx6.out.below hb7 (Nat.le_refl _))
  clear B2 hB6 hb7 hx6
  go_wp2_with fail
  refine (P1.out w7 hB7).mono ?_
  rintro e w8 ⟨a8, c8, rfl, hx8, hb8⟩
  have hB8 := below_step hB7 hb8
  have HX68 := Lib.hid (HX67.out.below hb8 (Nat.le_refl _))
  have HX78 := Lib.hid (hx7.out.below hb8 (Nat.le_refl _))
  clear P1 hB7 hb8 HX67 hx7
  go_wp2_with fail
  refine (P2.out w8 hB8).mono ?_
  rintro e w9 ⟨a9, c9, rfl, hx9, hb9⟩
  have hB9 := below_step hB8 hb9
  have HX69 := Lib.hid (HX68.out.below hb9 (Nat.le_refl _))
  have HX79 := Lib.hid (HX78.out.below hb9 (Nat.le_refl _))
  have HX89 := Lib.hid (hx8.out.below hb9 (Nat.le_refl _))
  clear P2 hB8 hb9 HX68 HX78 hx8
  go_wp2_with fail
  -- MARK2
  refine (CS.out _ _ y _ HX69.out HX79.out Z2.out).mono ?_
  rintro e w10 ⟨rfl, hb10⟩
  have hB10 := below_step hB9 hb10
  go_wp2_with fail
  refine (CS.out _ _ P _ (HX89.out.below hb10 (Nat.le_refl _)) (hx9.out.below hb10 (Nat.le_refl _)) Z3.out).mono ?_
  rintro e w11 ⟨rfl, hb11⟩
  have hB11 := below_step hB10 hb11
  have HX11 := Lib.hid (HX79.out.below (below_step hb10 hb11) (Nat.le_refl _))
  have HV11 := Lib.hid (HV.out.below hB11 (Nat.le_refl _))
  have HU11 := Lib.hid (HU.out.below hB11 (Nat.le_refl _))
  clear hB9 hB10 hb10 hb11 HX69 HX79 HX89 hx9
  obtain ⟨r, hr⟩ : ∃ r, k % 3 = r := ⟨_, rfl⟩
  have hr3 : r < 3 := by omega
  have hrem : (k : Int).tmod 3 = (r : Int) := by rw [← hr]; exact (Int.ofNat_tmod k 3).symm
  have hadd : IntKind.i64.wrap (1 + (r : Int)) = ((1 + r : Nat) : Int) := by rw [IntKind.wrap_i64]; omega
  have g0 : (0 : Int) ≤ ((1 + r : Nat) : Int) := Int.natCast_nonneg _
  have g1 : ((1 + r : Nat) : Int) ≤ 3 := by omega
  have g2 : 1 + r ≤ 3 := by omega
  rw [hr] at L1 L2
  have HM : Hid (m = 0 ∧ likeX s = zeroS ∨ 0 < m ∧ ∃ g off, bv = some ⟨g, off, none⟩ ∧ s[0]? = some (likeX s)) := Lib.hid (by
    obtain ⟨_, _, _, e, hm, _, hs⟩ := HU.out
    obtain ⟨rfl, rfl, rfl⟩ := Value.slice.inj e
    cases hsl : s with
    | nil => left; rw [hsl] at hm; exact ⟨hm, rfl⟩
    | cons a t =>
      right
      rw [hsl] at hm
      refine ⟨by rw [hm]; simp, ?_⟩
      rcases hs with h0 | ⟨g, off, h0, _⟩
      · rw [hsl] at h0; cases h0
      · exact ⟨g, off, h0, rfl⟩)
  go_upto_region 15 with (fail)
  -- MARK3
  obtain ⟨lk, hlk⟩ : ∃ lk, likeX s = lk := ⟨_, rfl⟩
  rw [hlk] at L1 L2 HM
  obtain ⟨x0, x1, x2, x3, x4, x5, x6, x7⟩ := lk
  unfold sxA sxC at L1 L2
  simp only at L1 L2
  obtain ⟨S, hS⟩ : ∃ S, str x3 = S := ⟨_, rfl⟩
  obtain ⟨P', hP'⟩ : ∃ S, str x4 = S := ⟨_, rfl⟩
  rw [hS, hP'] at L1 L2
  have hHM := HM.out
  clear HM hlk
  rcases hHM with ⟨hm0, hlk⟩ | ⟨hm0, gs, os, rfl, hs0⟩
  · have dm : decide ((0 : Int) < (m : Int)) = false := decide_eq_false (by omega)
    have dm2 : ¬ 0 < m := by omega
    unfold zeroS at hlk
    obtain ⟨rfl, rfl, rfl, rfl, rfl, rfl, rfl, rfl⟩ := Sx.mk.inj hlk
    have hS0 : S = ⟨#[]⟩ := hS.symm
    have hP0 : P' = ⟨#[]⟩ := hP'.symm
    subst hS0
    subst hP0
    clear hm0 hlk hS hP'
    go_upto_region 18 with (fail)
    obtain ⟨w12, hw12⟩ : ∃ w12, w12 = w11.alloc (.cells #[.int .i64 0, .int .i64 0, .int .i64 0, .string ⟨#[]⟩, .string ⟨#[]⟩, .int .i64 0, .int .i64 0, .int .i64 0] 28) := ⟨_, rfl⟩
    have hbx := World.alloc_heap_new w11 (.cells #[.int .i64 0, .int .i64 0, .int .i64 0, .string ⟨#[]⟩, .string ⟨#[]⟩, .int .i64 0, .int .i64 0, .int .i64 0] 28)
    rw [← hw12] at hbx ⊢
    have hb12 : Below w11.heap.size w11 w12 := by rw [hw12]; exact below_b1 _ _
    have hsz12 : w12.heap.size = w11.heap.size + 1 := by rw [hw12, World.size_alloc]
    clear hw12
    go_upto_region 19 with (fail)
    -- MARK4
    obtain ⟨w13, hw13⟩ : ∃ w13, w13 = w12.alloc (.cells #[.slice av n cv, .slice bv m cs, .slice a7 k c7] 22) := ⟨_, rfl⟩
    have hb13 : Below w11.heap.size w11 w13 := by rw [hw13]; exact below_step hb12 (below_b1 _ _)
    have hB13 := below_step hB11 hb13
    have HLs : Hid (LsAt w13 (.slice (some ⟨w11.heap.size + 1, 0, none⟩) (1 + r) 3) ([l, s, y].take (1 + r))) := Lib.hid (by
      rw [hw13, ← hsz12]
      refine ls_take (n := 3) (c := 3) (ls_lit (vs := [.slice av n cv, .slice bv m cs, .slice a7 k c7]) 3 rfl (fun j t hj => ?_) 22) g2 3
      match j, hj with
      | 0, hj => simp at hj; subst hj; exact ⟨_, rfl, HV11.out.below hb12 (Nat.le_refl _)⟩
      | 1, hj => simp at hj; subst hj; exact ⟨_, rfl, HU11.out.below hb12 (Nat.le_refl _)⟩
      | 2, hj => simp at hj; subst hj; exact ⟨_, rfl, HX11.out.below hb12 (Nat.le_refl _)⟩
      | j + 3, hj => simp at hj)
    have hlt13 : w11.heap.size < w13.heap.size := by rw [hw13, World.size_alloc]; omega
    have hbx13 : w13.heap[w11.heap.size]? = some (.cells #[.int .i64 0, .int .i64 0, .int .i64 0, .string ⟨#[]⟩, .string ⟨#[]⟩, .int .i64 0, .int .i64 0, .int .i64 0] 28 (0, 0)) := by
      rw [hw13]; exact ((below_b1 w12 _).block w11.heap.size (by omega)).trans hbx
    rw [← hw13]
    clear hw13 hbx hsz12
    have HBx := Lib.hid hbx13
    obtain ⟨e0, e1, e2, e3, e4, e5, e6, e7⟩ := box8_facts hbx13
    clear hbx13
    have CL1 := Lib.hid (L1.out w13.drew _ hB13.drew (HLs.out.below (Below.refl _ _).drew))
    -- MARK4p
    go_cut [8, 15] from 128 to 138 (fun s8 s15 wx => ∃ a14 c14, s8 = .int .i64 eq ∧ s15 = .slice a14 nq c14 ∧ Hid (XsAt wx (.slice a14 nq c14) Q) ∧ Below w13.heap.size w13 wx)
    case first =>
      go_region_with (go_at_call 24; refine CL1.out.mono ?_; rintro e w14 ⟨a14, c14, rfl, hx14, hb14⟩)
      all_goals
        have hb14' : Below w13.heap.size w13 w14 := (Below.refl _ w13).drew.trans hb14
        go_wp2_with fail
        go_meet
        exact ⟨a14, c14, rfl, rfl, hx14, hb14'⟩
    obtain ⟨a14, c14, rfl, rfl, hx14, hb14'⟩ := hcut
    obtain ⟨w14, hw14⟩ : ∃ w14, w14 = wc := ⟨_, rfl⟩
    subst hw14
    clear CL1 e0 e1 e2 e3 e4 e5 e6 e7
    have hB14 := below_step hB13 hb14'
    obtain ⟨e0', e1', e2', e3', e4', e5', e6', e7'⟩ := box8_facts ((hb14'.block w11.heap.size hlt13).trans HBx.out)
    have CL2 := Lib.hid (L2.out w14.drew _ hB14.drew ((HLs.out.below hb14').below (Below.refl _ _).drew))
    -- MARK4q
    go_upto_region 20 with (fail)
    go_cut [10, 16] from 139 to 149 (fun s10 s16 wx => ∃ a15 c15, s10 = .int .i64 eq ∧ s16 = .slice a15 nq c15 ∧ Hid (XsAt wx (.slice a15 nq c15) Q) ∧ Below w14.heap.size w14 wx)
    case first =>
      go_region_with (go_at_call 25; refine CL2.out.mono ?_; rintro e w15 ⟨a15, c15, rfl, hx15, hb15⟩)
      all_goals
        have hb15' : Below w14.heap.size w14 w15 := (Below.refl _ w14).drew.trans hb15
        go_wp2_with fail
        go_meet
        exact ⟨a15, c15, rfl, rfl, hx15, hb15'⟩
    obtain ⟨a15, c15, rfl, rfl, hx15, hb15'⟩ := hcut
    clear CL2 e0' e1' e2' e3' e4' e5' e6' e7'
    have hB15 := below_step hB14 hb15'
    go_wp2_with fail
    -- MARK4r
    refine (CS.out _ _ Q _ (hx14.out.below hb15' (Nat.le_refl _)) hx15.out Z4.out).mono ?_
    rintro e w16 ⟨rfl, hb16⟩
    have hB16 := below_step hB15 hb16
    go_wp2_with fail
    refine (CAw.out _ hB16).mono ?_
    rintro e w17 ⟨rfl, hb17⟩
    go_wp2_with fail
    go_ret
    exact ⟨rfl, below_step hB16 hb17⟩
  · have dm : decide ((0 : Int) < (m : Int)) = true := decide_eq_true (by omega)
    have dm2 : (0 : Int) < (m : Int) := by omega
    obtain ⟨g', o', e', hgs, d0, d1, d2, d3, d4, d5, d6, d7⟩ := HU11.out.node hs0
    cases e'
    rw [Nat.zero_mul, Nat.add_zero] at d0 d1 d2 d3 d4 d5 d6 d7
    simp only at d0 d1 d2 d3 d4 d5 d6 d7
    rw [hS] at d3
    rw [hP'] at d4
    clear hS hP' hs0
    go_upto_region 18 with (fail)
    obtain ⟨w12, hw12⟩ : ∃ w12, w12 = w11.alloc (.cells #[.int .i64 x0, .int .i64 x1, .int .i64 x2, .string S, .string P', .int .i64 x5, .int .i64 x6, .int .i64 x7] 28) := ⟨_, rfl⟩
    have hbx := World.alloc_heap_new w11 (.cells #[.int .i64 x0, .int .i64 x1, .int .i64 x2, .string S, .string P', .int .i64 x5, .int .i64 x6, .int .i64 x7] 28)
    rw [← hw12] at hbx ⊢
    have hb12 : Below w11.heap.size w11 w12 := by rw [hw12]; exact below_b1 _ _
    have hsz12 : w12.heap.size = w11.heap.size + 1 := by rw [hw12, World.size_alloc]
    clear hw12
    go_upto_region 19 with (fail)
    -- MARK5
    obtain ⟨w13, hw13⟩ : ∃ w13, w13 = w12.alloc (.cells #[.slice av n cv, .slice (some ⟨gs, os, none⟩) m cs, .slice a7 k c7] 22) := ⟨_, rfl⟩
    have hb13 : Below w11.heap.size w11 w13 := by rw [hw13]; exact below_step hb12 (below_b1 _ _)
    have hB13 := below_step hB11 hb13
    have HLs : Hid (LsAt w13 (.slice (some ⟨w11.heap.size + 1, 0, none⟩) (1 + r) 3) ([l, s, y].take (1 + r))) := Lib.hid (by
      rw [hw13, ← hsz12]
      refine ls_take (n := 3) (c := 3) (ls_lit (vs := [.slice av n cv, .slice (some ⟨gs, os, none⟩) m cs, .slice a7 k c7]) 3 rfl (fun j t hj => ?_) 22) g2 3
      match j, hj with
      | 0, hj => simp at hj; subst hj; exact ⟨_, rfl, HV11.out.below hb12 (Nat.le_refl _)⟩
      | 1, hj => simp at hj; subst hj; exact ⟨_, rfl, HU11.out.below hb12 (Nat.le_refl _)⟩
      | 2, hj => simp at hj; subst hj; exact ⟨_, rfl, HX11.out.below hb12 (Nat.le_refl _)⟩
      | j + 3, hj => simp at hj)
    have hlt13 : w11.heap.size < w13.heap.size := by rw [hw13, World.size_alloc]; omega
    have hbx13 : w13.heap[w11.heap.size]? = some (.cells #[.int .i64 x0, .int .i64 x1, .int .i64 x2, .string S, .string P', .int .i64 x5, .int .i64 x6, .int .i64 x7] 28 (0, 0)) := by
      rw [hw13]; exact ((below_b1 w12 _).block w11.heap.size (by omega)).trans hbx
    rw [← hw13]
    clear hw13 hbx hsz12
    have HBx := Lib.hid hbx13
    obtain ⟨e0, e1, e2, e3, e4, e5, e6, e7⟩ := box8_facts hbx13
    clear hbx13
    have CL1 := Lib.hid (L1.out w13.drew _ hB13.drew (HLs.out.below (Below.refl _ _).drew))
    -- MARK5p
    go_cut [8, 15] from 128 to 138 (fun s8 s15 wx => ∃ a14 c14, s8 = .int .i64 eq ∧ s15 = .slice a14 nq c14 ∧ Hid (XsAt wx (.slice a14 nq c14) Q) ∧ Below w13.heap.size w13 wx)
    case first =>
      go_region_with (go_at_call 24; refine CL1.out.mono ?_; rintro e w14 ⟨a14, c14, rfl, hx14, hb14⟩)
      all_goals
        have hb14' : Below w13.heap.size w13 w14 := (Below.refl _ w13).drew.trans hb14
        go_wp2_with fail
        go_meet
        exact ⟨a14, c14, rfl, rfl, hx14, hb14'⟩
    obtain ⟨a14, c14, rfl, rfl, hx14, hb14'⟩ := hcut
    obtain ⟨w14, hw14⟩ : ∃ w14, w14 = wc := ⟨_, rfl⟩
    subst hw14
    clear CL1 e0 e1 e2 e3 e4 e5 e6 e7
    have hB14 := below_step hB13 hb14'
    obtain ⟨e0', e1', e2', e3', e4', e5', e6', e7'⟩ := box8_facts ((hb14'.block w11.heap.size hlt13).trans HBx.out)
    have CL2 := Lib.hid (L2.out w14.drew _ hB14.drew ((HLs.out.below hb14').below (Below.refl _ _).drew))
    -- MARK5q
    go_upto_region 20 with (fail)
    go_cut [10, 16] from 139 to 149 (fun s10 s16 wx => ∃ a15 c15, s10 = .int .i64 eq ∧ s16 = .slice a15 nq c15 ∧ Hid (XsAt wx (.slice a15 nq c15) Q) ∧ Below w14.heap.size w14 wx)
    case first =>
      go_region_with (go_at_call 25; refine CL2.out.mono ?_; rintro e w15 ⟨a15, c15, rfl, hx15, hb15⟩)
      all_goals
        have hb15' : Below w14.heap.size w14 w15 := (Below.refl _ w14).drew.trans hb15
        go_wp2_with fail
        go_meet
        exact ⟨a15, c15, rfl, rfl, hx15, hb15'⟩
    obtain ⟨a15, c15, rfl, rfl, hx15, hb15'⟩ := hcut
    clear CL2 e0' e1' e2' e3' e4' e5' e6' e7'
    have hB15 := below_step hB14 hb15'
    go_wp2_with fail
    -- MARK5r
    refine (CS.out _ _ Q _ (hx14.out.below hb15' (Nat.le_refl _)) hx15.out Z4.out).mono ?_
    rintro e w16 ⟨rfl, hb16⟩
    have hB16 := below_step hB15 hb16
    go_wp2_with fail
    refine (CAw.out _ hB16).mono ?_
    rintro e w17 ⟨rfl, hb17⟩
    go_wp2_with fail
    go_ret
    exact ⟨rfl, below_step hB16 hb17⟩
theorem lawPa_any (v u : Value) (l s : List Sx) (i : Int) (w : World) (h : XsAt w v l) (h2 : XsAt w u s) (hi : InX l) (hi2 : InX s) (T : XTabs w) :
    Calls Tryz.prog 4 #[v, u, .int .i64 i] w fun e w' => e = .returned (.bool true) ∧ Below w.heap.size w w' := by
  obtain ⟨av, cv, rfl, hc⟩ := h.slice
  obtain ⟨bv, cs, rfl, hc2⟩ := h2.slice
  exact lawPa_go l.length s.length _ _ _ _ av bv cv cs l s i _ _ _ _ _ _ _ _ _ _ w h h2 (farX_any _ l w h) (farX_any _ s w h2) (fun W hW => awakeX_any W (T.below hW))
    (fun n1 n2 => givesPa h h2 n1.sm hi n2.sm hi2 T.st n1.1 n2.1)
-- MARK9
end Go.Proofs.YtbmgpenllpbioaaGreatDoor
