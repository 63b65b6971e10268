/- The law StxAlone. (Written by tools/gen_ys.py.) -/
import Derived.Test.YtbmgpenllpbioaaGreatDoorYf
import Derived.Deep.RegionHeld3
import Derived.BigQuiet
import Derived.ChangeAlike
namespace Go.Proofs.YtbmgpenllpbioaaGreatDoor
open Go.RowKit Go.PlainAid

/-- What Add and Flip return, told by a list and its error. -/
def ChgR (L : List Sx) (n : Nat) (er : Int) (W : World) (e : Ending) (W' : World) : Prop := ∃ a c, e = .returned (.tuple #[.slice a n c, .int .i64 er]) ∧ Hid (XsAt W' (.slice a n c) L) ∧ Below W.heap.size W W'
theorem chgR_of {rr : List Sx × Int} {L : List Sx} {er : Int} {n : Nat} (h : rr = (L, er)) (hn : L.length = n) {W : World} {e : Ending} {W' : World} (hc : ChgV rr W e W') : ChgR L n er W e W' := by
  obtain ⟨a, c, h1, h2, h3⟩ := chgV_at h hn hc
  exact ⟨a, c, h1, Lib.hid h2, h3⟩
set_option maxRecDepth 100000 in
set_option maxHeartbeats 12800000 in
/-- Behind Flip and Add: one of them has an error. -/
theorem lawAl_bad (n : Nat) (av : Option Addr) (cv : Nat) (l : List Sx) (a b : Int) (w : World) (CF : Calls Tryz.prog 10 #[.slice av n cv] w (FarV l w)) (CAw : ∀ W, Below w.heap.size w W → Calls Tryz.prog 11 #[] W fun e w' => e = .returned (.bool true) ∧ Below W.heap.size W w')
    (n1 n2 : Nat) (L1 L2 : List Sx) (e1 e2 : Int) (C1 : NearX l → ∀ W, Below w.heap.size w W → Calls Tryz.prog 36 #[.slice av n cv, .int .i64 a] W (ChgR L1 n1 e1 W)) (C2 : NearX l → ∀ W, Below w.heap.size w W → Calls Tryz.prog 34 #[.slice av n cv, .int .i64 a] W (ChgR L2 n2 e2 W))
    (H1 : e1 ≠ 0 → n1 = 0) (H2 : e2 ≠ 0 → n2 = 0) (hbad : e1 ≠ 0 ∨ e2 ≠ 0) :
    Calls Tryz.prog 8 #[.slice av n cv, .int .i64 a, .int .i64 b] w fun e w' => e = .returned (.bool true) ∧ Below w.heap.size w w' := by
  replace CF := Lib.hid CF
  replace CAw := Lib.hid CAw
  replace C1 := Lib.hid C1
  replace C2 := Lib.hid C2
  by_cases h1 : e1 = 0
  · have h2 : e2 ≠ 0 := hbad.resolve_left fun h => h h1
    have q1 : (e1 != 0) = false := by rw [h1]; rfl
    have q2 : (e2 != 0) = true := bne_iff_ne.2 h2
    have p1 : (e1 == 0) = true := by rw [h1]; rfl
    have p2 : (e2 == 0) = false := beq_eq_false_iff_ne.2 h2
    subst h1
    obtain rfl := H2 h2
    clear H1 H2 hbad h2
    go_enter Tryz.func8, Tryz.ntmps8
    go_wp2_with fail
    refine CF.out.mono ?_
    rintro e w0 ⟨bf, rfl, HN, rfl⟩
    cases bf
    case true =>
      clear HN
      go_wp2_with fail
      refine (CAw.out _ (Below.refl _ _)).mono ?_
      rintro e w9 ⟨rfl, hb9⟩
      go_wp2_with fail
      go_ret
      exact ⟨rfl, hb9⟩
    have HN' := Lib.hid (HN.out rfl)
    clear HN
    go_wp2_with fail
    refine (C1.out HN'.out _ (Below.refl _ _)).mono ?_
    rintro e w1 ⟨a1, c1, rfl, hx, hb1⟩
    clear hx
    go_wp2_with fail
    refine (C2.out HN'.out _ hb1).mono ?_
    rintro e w2 ⟨a2, c2, rfl, hy, hb2⟩
    clear hy
    have hB2 := below_step hb1 hb2
    go_wp2_with fail
    refine (CAw.out _ hB2).mono ?_
    rintro e w9 ⟨rfl, hb9⟩
    have hB9 := below_step hB2 hb9
    go_wp2_with fail
    go_ret
    exact ⟨rfl, hB9⟩
  · by_cases h2 : e2 = 0
    · skip
      have q1 : (e1 != 0) = true := bne_iff_ne.2 h1
      have q2 : (e2 != 0) = false := by rw [h2]; rfl
      have p1 : (e1 == 0) = false := beq_eq_false_iff_ne.2 h1
      have p2 : (e2 == 0) = true := by rw [h2]; rfl
      obtain rfl := H1 h1
      subst h2
      clear H1 H2 hbad h1
      go_enter Tryz.func8, Tryz.ntmps8
      go_wp2_with fail
      refine CF.out.mono ?_
      rintro e w0 ⟨bf, rfl, HN, rfl⟩
      cases bf
      case true =>
        clear HN
        go_wp2_with fail
        refine (CAw.out _ (Below.refl _ _)).mono ?_
        rintro e w9 ⟨rfl, hb9⟩
        go_wp2_with fail
        go_ret
        exact ⟨rfl, hb9⟩
      have HN' := Lib.hid (HN.out rfl)
      clear HN
      go_wp2_with fail
      refine (C1.out HN'.out _ (Below.refl _ _)).mono ?_
      rintro e w1 ⟨a1, c1, rfl, hx, hb1⟩
      clear hx
      go_wp2_with fail
      refine (C2.out HN'.out _ hb1).mono ?_
      rintro e w2 ⟨a2, c2, rfl, hy, hb2⟩
      clear hy
      have hB2 := below_step hb1 hb2
      go_wp2_with fail
      refine (CAw.out _ hB2).mono ?_
      rintro e w9 ⟨rfl, hb9⟩
      have hB9 := below_step hB2 hb9
      go_wp2_with fail
      go_ret
      exact ⟨rfl, hB9⟩
    · skip
      have q1 : (e1 != 0) = true := bne_iff_ne.2 h1
      have q2 : (e2 != 0) = true := bne_iff_ne.2 h2
      have p1 : (e1 == 0) = false := beq_eq_false_iff_ne.2 h1
      have p2 : (e2 == 0) = false := beq_eq_false_iff_ne.2 h2
      obtain rfl := H1 h1
      obtain rfl := H2 h2
      clear H1 H2 hbad h1 h2
      go_enter Tryz.func8, Tryz.ntmps8
      go_wp2_with fail
      refine CF.out.mono ?_
      rintro e w0 ⟨bf, rfl, HN, rfl⟩
      cases bf
      case true =>
        clear HN
        go_wp2_with fail
        refine (CAw.out _ (Below.refl _ _)).mono ?_
        rintro e w9 ⟨rfl, hb9⟩
        go_wp2_with fail
        go_ret
        exact ⟨rfl, hb9⟩
      have HN' := Lib.hid (HN.out rfl)
      clear HN
      go_wp2_with fail
      refine (C1.out HN'.out _ (Below.refl _ _)).mono ?_
      rintro e w1 ⟨a1, c1, rfl, hx, hb1⟩
      clear hx
      go_wp2_with fail
      refine (C2.out HN'.out _ hb1).mono ?_
      rintro e w2 ⟨a2, c2, rfl, hy, hb2⟩
      clear hy
      have hB2 := below_step hb1 hb2
      go_wp2_with fail
      refine (CAw.out _ hB2).mono ?_
      rintro e w9 ⟨rfl, hb9⟩
      have hB9 := below_step hB2 hb9
      go_wp2_with fail
      go_ret
      exact ⟨rfl, hB9⟩
theorem set_ne8 (W : World) {n m : Nat} (j : Nat) (v : Value) (h : n ≠ m) : (W.setCell ⟨n, j, none⟩ v).heap[m]? = W.heap[m]? := by
  simp [World.setCell, Array.getElem?_modify, h]
/-- Two boxes that were made, with the same cells. -/
def TwoB (w : World) (s1 s2 : Value) (cs : Array Value) (W : World) : Prop := ∃ n1 n2, s1 = .pointer (some ⟨n1, 0, none⟩) ∧ s2 = .pointer (some ⟨n2, 0, none⟩) ∧ n1 ≠ n2 ∧ w.heap.size ≤ n1 ∧ w.heap.size ≤ n2 ∧
  W.heap[n1]? = some (.cells cs 28 (0, 0)) ∧ W.heap[n2]? = some (.cells cs 28 (0, 0)) ∧ Below w.heap.size w W
theorem two_mk (w : World) (cs : Array Value) : w.heap.size ≤ w.heap.size + 1 ∧ ((w.alloc (.cells cs 28)).alloc (.cells cs 28)).drew.heap[w.heap.size]? = some (.cells cs 28 (0, 0)) ∧
    ((w.alloc (.cells cs 28)).alloc (.cells cs 28)).drew.heap[w.heap.size + 1]? = some (.cells cs 28 (0, 0)) ∧ Below w.heap.size w ((w.alloc (.cells cs 28)).alloc (.cells cs 28)).drew := by
  refine ⟨by omega, ?_, ?_, (((Below.refl _ w).alloc (Nat.le_refl _) _).alloc (by rw [World.size_alloc]; omega) _).drew⟩
  · exact (Below.heap_alloc _ _ _ (by rw [World.size_alloc]; omega)).trans (World.alloc_heap_new w _)
  · have := World.alloc_heap_new (w.alloc (.cells cs 28)) (.cells cs 28)
    rw [World.size_alloc] at this; exact this
theorem two_ab (w : World) (cs : Array Value) : TwoB w (.pointer (some ⟨w.heap.size, 0, none⟩)) (.pointer (some ⟨w.heap.size + 1, 0, none⟩)) cs ((w.alloc (.cells cs 28)).alloc (.cells cs 28)).drew :=
  have ⟨h1, h2, h3, h4⟩ := two_mk w cs
  ⟨_, _, rfl, rfl, by omega, Nat.le_refl _, h1, h2, h3, h4⟩
theorem two_ba (w : World) (cs : Array Value) : TwoB w (.pointer (some ⟨w.heap.size + 1, 0, none⟩)) (.pointer (some ⟨w.heap.size, 0, none⟩)) cs ((w.alloc (.cells cs 28)).alloc (.cells cs 28)).drew :=
  have ⟨h1, h2, h3, h4⟩ := two_mk w cs
  ⟨_, _, rfl, rfl, by omega, h1, Nat.le_refl _, h3, h2, h4⟩
-- MARKLAW
set_option maxRecDepth 100000 in
set_option maxHeartbeats 12800000 in
theorem lawAl_good (n : Nat) (av : Option Addr) (cv : Nat) (l : List Sx) (hln : l.length = n) (a b : Int) (w : World) (h : XsAt w (.slice av n cv) l) (CF : Calls Tryz.prog 10 #[.slice av n cv] w (FarV l w)) (CAw : ∀ W, Below w.heap.size w W → Calls Tryz.prog 11 #[] W fun e w' => e = .returned (.bool true) ∧ Below W.heap.size W w')
    (X Y : List Sx) (C1 : NearX l → ∀ W, Below w.heap.size w W → Calls Tryz.prog 36 #[.slice av n cv, .int .i64 a] W (ChgR X n 0 W)) (C2 : NearX l → ∀ W, Below w.heap.size w W → Calls Tryz.prog 34 #[.slice av n cv, .int .i64 a] W (ChgR Y n 0 W))
    (HX : ∀ x ∈ l, (oneS true false true x.p a).2 = 0 ∧ (oneS true true true x.p a).2 = 0) (hX : X = l.map (setP fun p => oneS true false true p a)) (hY : Y = l.map (setP fun p => oneS true true true p a))
    (C3 : NearX l → ∀ u W, Below w.heap.size w W → XsAt W u X → Calls Tryz.prog 36 #[u, .int .i64 a] W (ChgR l n 0 W))
    (n4 : Nat) (L4 : List Sx) (e4 : Int) (C4 : NearX l → ∀ u W, Below w.heap.size w W → XsAt W u X → Calls Tryz.prog 36 #[u, .int .i64 b] W (ChgR L4 n4 e4 W))
    (n5 : Nat) (L5 : List Sx) (e5 : Int) (C5 : NearX l → ∀ W, Below w.heap.size w W → Calls Tryz.prog 36 #[.slice av n cv, .int .i64 b] W (ChgR L5 n5 e5 W))
    (n6 : Nat) (L6 : List Sx) (e6 : Int) (C6 : NearX l → ∀ u W, Below w.heap.size w W → XsAt W u L5 → Calls Tryz.prog 36 #[u, .int .i64 a] W (ChgR L6 n6 e6 W))
    (HC : e4 = 0 → e5 = 0 → e6 = 0 → L4 = L6) (hl4 : NearX l → L4.length ≤ 1000000) :
    Calls Tryz.prog 8 #[.slice av n cv, .int .i64 a, .int .i64 b] w fun e w' => e = .returned (.bool true) ∧ Below w.heap.size w w' := by
  replace CF := Lib.hid CF
  replace CAw := Lib.hid CAw
  replace C1 := Lib.hid C1
  replace C2 := Lib.hid C2
  replace C3 := Lib.hid C3
  replace C4 := Lib.hid C4
  replace C5 := Lib.hid C5
  replace C6 := Lib.hid C6
  replace HX := Lib.hid HX
  replace HC := Lib.hid HC
  replace hl4 := Lib.hid hl4
  have HV := Lib.hid h
  have HXk : Hid (∀ (k : Nat) (x : Sx), l[k]? = some x → X[k]? = some ⟨x.k, x.c, x.n, x.s, (oneS true false true x.p a).1, x.f, x.t, x.o⟩) := Lib.hid fun k x hk => by rw [hX, List.getElem?_map, hk]; rfl
  have HYk : Hid (∀ (k : Nat) (x : Sx), l[k]? = some x → Y[k]? = some ⟨x.k, x.c, x.n, x.s, (oneS true true true x.p a).1, x.f, x.t, x.o⟩) := Lib.hid fun k x hk => by rw [hY, List.getElem?_map, hk]; rfl
  have HL := Lib.hid hln
  have CRf : Hid (∀ (p : List UInt8) W, p.length ≤ 100000 → (oneS true false true p a).2 = 0 → Calls Tryz.prog 44 #[.string (str p), .int .i64 a] W fun e w' => e = .returned (.tuple #[.string (str (oneS true false true p a).1), .int .i64 0]) ∧ Below W.heap.size W w') := Lib.hid fun p W hp h0 => by
    have := rFlip_any p a W hp
    unfold strE at this; rw [h0] at this; exact this
  have CRa : Hid (∀ (p : List UInt8) W, p.length ≤ 100000 → (oneS true true true p a).2 = 0 → Calls Tryz.prog 45 #[.string (str p), .int .i64 a] W fun e w' => e = .returned (.tuple #[.string (str (oneS true true true p a).1), .int .i64 0]) ∧ Below W.heap.size W w') := Lib.hid fun p W hp h0 => by
    have := rAdd_any p a W hp
    unfold strE at this; rw [h0] at this; exact this
  have CS : Hid (∀ v u L W, XsAt W v L → XsAt W u L → L.length ≤ 1000000 → Calls Tryz.prog 23 #[v, u] W fun e w' => e = .returned (.bool true) ∧ Below W.heap.size W w') := Lib.hid fun v u L W h1 h2 h3 => sameTree_any v u L W h1 h2 h3
  have hne : (((n : Int)) != (n : Int)) = false := by simp
  clear h hX hY hln
  go_enter Tryz.func8, Tryz.ntmps8
  go_wp2_with fail
  refine CF.out.mono ?_
  rintro e w0 ⟨bf, rfl, HN, rfl⟩
  cases bf
  case true =>
    clear HN
    go_wp2_with fail
    refine (CAw.out _ (Below.refl _ _)).mono ?_
    rintro e w9 ⟨rfl, hb9⟩
    go_wp2_with fail
    go_ret
    exact ⟨rfl, hb9⟩
  have HNr := Lib.hid (HN.out rfl)
  clear HN
  have hn20 : n ≤ 2010 := by have := HNr.out.1; rw [HL.out] at this; exact this
  go_wp2_with fail
  refine (C1.out HNr.out _ (Below.refl _ _)).mono ?_
  rintro e w1 ⟨a1, c1, rfl, hx1, hb1⟩
  go_wp2_with fail
  refine (C2.out HNr.out _ hb1).mono ?_
  rintro e w2 ⟨a2, c2, rfl, hy2, hb2⟩
  have hB2 := below_step hb1 hb2
  have HV2 := Lib.hid (fun W (hW : Below w2.heap.size w2 W) => HV.out.below (below_step hB2 hW) (Nat.le_refl _))
  have HX2 := Lib.hid (fun W (hW : Below w2.heap.size w2 W) => hx1.out.below (below_step hb2 hW) (Nat.le_refl _))
  have HY2 := Lib.hid (fun W (hW : Below w2.heap.size w2 W) => hy2.out.below hW (Nat.le_refl _))
  clear hx1 hy2
  go_wp2_with fail
  -- MARKL0
  go_loopw [11] (fun x11 wr => ∃ k : Nat, k ≤ n ∧ x11 = .int .i64 k ∧ Below w2.heap.size w2 wr) (fun x11 _ => n - (intOf x11).toNat)
  case atStart => exact ⟨0, Nat.zero_le _, rfl, Below.refl _ _⟩
  case round =>
    obtain ⟨k, hk, rfl, hB⟩ := hrel
    by_cases hlt : k < n
    · obtain ⟨x, hx⟩ : ∃ x, l[k]? = some x := ⟨_, List.getElem?_eq_getElem (by rw [HL.out]; exact hlt)⟩
      obtain ⟨z1, z2⟩ := HX.out x (List.mem_of_getElem? hx)
      have hpl : x.p.length ≤ 100000 := (HNr.out.sm x (List.mem_of_getElem? hx)).2
      have HNv := Lib.hid (fun W (hW : Below w2.heap.size w2 W) => (HV2.out W hW).node hx)
      have HNx := Lib.hid (fun W (hW : Below w2.heap.size w2 W) => (HX2.out W hW).node (HXk.out k x hx))
      have HNy := Lib.hid (fun W (hW : Below w2.heap.size w2 W) => (HY2.out W hW).node (HYk.out k x hx))
      have CRf2 := Lib.hid (fun W => CRf.out x.p W hpl z1)
      have CRa2 := Lib.hid (fun W => CRa.out x.p W hpl z2)
      obtain ⟨y0, y1, y2, y3, y4, y5, y6, y7⟩ := x
      simp only at HNv HNx HNy CRf2 CRa2
      obtain ⟨q1, hq1⟩ : ∃ q, str (oneS true false true y4 a).1 = q := ⟨_, rfl⟩
      obtain ⟨q2, hq2⟩ : ∃ q, str (oneS true true true y4 a).1 = q := ⟨_, rfl⟩
      obtain ⟨S, hS⟩ : ∃ S, str y3 = S := ⟨_, rfl⟩
      obtain ⟨P, hP⟩ : ∃ S, str y4 = S := ⟨_, rfl⟩
      rw [hS, hP] at HNv
      rw [hS, hq1] at HNx
      rw [hS, hq2] at HNy
      rw [hP, hq1] at CRf2
      rw [hP, hq2] at CRa2
      have hkm : (k : Int) < (n : Int) := by omega
      have hk0 : (0 : Int) ≤ (k : Int) := Int.natCast_nonneg _
      clear hx hS hP hq1 hq2 z1 z2 hpl
      obtain ⟨g0, o0, rfl, hg0, _, _, _, _, c4, _, _, _⟩ := HNv.out _ hB
      go_wp2_with fail
      refine (CRf2.out _).mono ?_
      rintro e w3 ⟨rfl, hb3⟩
      have hB3 := below_step hB hb3
      clear c4
      obtain ⟨g0', o0', hh, _, _, _, _, _, c4, _, _, _⟩ := HNv.out _ hB3
      cases hh
      go_wp2_with fail
      refine (CRa2.out _).mono ?_
      rintro e w4 ⟨rfl, hb4⟩
      have hB4 := below_step hB3 hb4
      clear c4
      obtain ⟨g0', o0', hh, hg4, d0, d1, d2, d3, d4, d5, d6, d7⟩ := HNv.out _ hB4
      cases hh
      go_wp2_with fail
      -- MARKL1
      go_cut [16, 17] from 102 to 109 (fun s16 s17 wx => Hid (TwoB w4 s16 s17 #[.int .i64 y0, .int .i64 y1, .int .i64 y2, .string S, .string P, .int .i64 y5, .int .i64 y6, .int .i64 y7] wx))
      case first =>
        go_region_held3 (fun w' => w'.cell? ⟨g0, o0 + k * 8, none⟩ = some (.int .i64 y0) ∧ w'.cell? ⟨g0, o0 + k * 8 + 1, none⟩ = some (.int .i64 y1) ∧ w'.cell? ⟨g0, o0 + k * 8 + 2, none⟩ = some (.int .i64 y2) ∧ w'.cell? ⟨g0, o0 + k * 8 + 3, none⟩ = some (.string S) ∧ w'.cell? ⟨g0, o0 + k * 8 + 4, none⟩ = some (.string P) ∧ w'.cell? ⟨g0, o0 + k * 8 + 5, none⟩ = some (.int .i64 y5) ∧ w'.cell? ⟨g0, o0 + k * 8 + 6, none⟩ = some (.int .i64 y6) ∧ w'.cell? ⟨g0, o0 + k * 8 + 7, none⟩ = some (.int .i64 y7)) (first | go_keep) (fail)
        -- MARKL2
        all_goals go_wp2
        all_goals go_meet
        all_goals first
          | exact Lib.hid (two_ab _ _)
          | exact Lib.hid (two_ba _ _)
      case rest =>
        obtain ⟨n1, n2, rfl, rfl, hnn, l1, l2, b1, b2, hb5⟩ := hcut.out
        obtain ⟨m0, m1, m2, m3, m4, m5, m6, m7⟩ := box8_facts b1
        obtain ⟨r0, r1, r2, r3, r4, r5, r6, r7⟩ := box8_facts b2
        have f1 := frz8 b1
        have f2 := frz8 b2
        clear d0 d1 d2 d3 d4 d5 d6 d7 hcut
        have HW5 : Hid (∀ W5, W5 = (wc.setCell ⟨n1, 4, none⟩ (.string q1)).setCell ⟨n2, 4, none⟩ (.string q2) → W5.heap[n1]? = some (.cells #[.int .i64 y0, .int .i64 y1, .int .i64 y2, .string S, .string q1, .int .i64 y5, .int .i64 y6, .int .i64 y7] 28 (0, 0)) ∧ W5.heap[n2]? = some (.cells #[.int .i64 y0, .int .i64 y1, .int .i64 y2, .string S, .string q2, .int .i64 y5, .int .i64 y6, .int .i64 y7] 28 (0, 0)) ∧ Below w4.heap.size w4 W5) := Lib.hid fun W5 e => by
          subst e
          refine ⟨?_, set_4of8 (x4 := .string P) _ ?_, (hb5.setCell l1 _).setCell l2 _⟩
          · rw [set_ne8 _ _ _ (Ne.symm hnn)]; exact set_4of8 _ b1
          · rw [set_ne8 _ _ _ hnn]; exact b2
        have g4 : (wc.setCell ⟨n1, 4, none⟩ (.string q1)).frozen? ⟨n2, 4, none⟩ = false := frz8 (by rw [set_ne8 _ _ _ hnn]; exact b2)
        have k4 : (wc.setCell ⟨n1, 4, none⟩ (.string q1)).cell? ⟨n2, 4, none⟩ = some (.string P) := (box8_facts (by rw [set_ne8 _ _ _ hnn]; exact b2)).2.2.2.2.1
        have hn1 : ¬ n1 = n2 := hnn
        have hn2 : ¬ n2 = n1 := fun h => hnn h.symm
        clear b1 b2 hnn
        go_upto_region 16 with (fail)
        -- MARKL3
        obtain ⟨W5, hW5⟩ : ∃ W5, W5 = (wc.setCell ⟨n1, 4, none⟩ (.string q1)).setCell ⟨n2, 4, none⟩ (.string q2) := ⟨_, rfl⟩
        rw [← hW5]
        obtain ⟨b1, b2, hb6⟩ := HW5.out W5 hW5
        clear hW5 HW5 m0 m1 m2 m3 m4 m5 m6 m7 r0 r1 r2 r3 r4 r5 r6 r7 f1 f2 g4 k4 hn1 hn2 hb5
        obtain ⟨m0, m1, m2, m3, m4, m5, m6, m7⟩ := box8_facts b1
        obtain ⟨r0, r1, r2, r3, r4, r5, r6, r7⟩ := box8_facts b2
        have hB5 := hB4.trans (hb6.mono hB4.size)
        obtain ⟨gx, ox, rfl, _, s0, s1, s2, s3, s4, s5, s6, s7⟩ := HNx.out _ hB5
        obtain ⟨gy, oy, rfl, _, t0, t1, t2, t3, t4, t5, t6, t7⟩ := HNy.out _ hB5
        go_wp2_with fail
        go_quiet (fail)
        go_wp2_with fail
        -- MARKL4
        exact ⟨⟨k + 1, by omega, by go_num, ⟨hB5.os, hB5.tape, hB5.output, hB5.size, hB5.block⟩⟩, by simp [intOf]; omega⟩
    · obtain rfl : k = n := by omega
      have hBw := below_step hB2 hB
      go_wp2_with fail
      -- MARKE0
      refine (C3.out HNr.out _ _ hBw (HX2.out _ hB)).mono ?_
      rintro e w3 ⟨a3, c3, rfl, hx3, hb3⟩
      have hB3 := below_step hBw hb3
      have hD3 := below_step hB hb3
      have HB3 := Lib.hid (fun W (hW : Below w3.heap.size w3 W) => hx3.out.below hW (Nat.le_refl _))
      clear hx3
      go_wp2_with fail
      refine (C4.out HNr.out _ _ hB3 (HX2.out _ hD3)).mono ?_
      rintro e w4 ⟨a4, c4, rfl, hx4, hb4⟩
      have hB4 := below_step hB3 hb4
      have hE4 := hb4
      have HB4 := Lib.hid (fun W (hW : Below w4.heap.size w4 W) => hx4.out.below hW (Nat.le_refl _))
      clear hx4
      go_wp2_with fail
      refine (C5.out HNr.out _ hB4).mono ?_
      rintro e w5 ⟨a5, c5, rfl, hx5, hb5⟩
      have hB5 := below_step hB4 hb5
      have hE5 := below_step hE4 hb5
      go_wp2_with fail
      refine (C6.out HNr.out _ _ hB5 hx5.out).mono ?_
      rintro e w6 ⟨a6, c6, rfl, hx6, hb6⟩
      have hB6 := below_step hB5 hb6
      have hE6 := below_step hE5 hb6
      have hF6 := below_step hb5 hb6
      have HB6 := Lib.hid (fun W (hW : Below w6.heap.size w6 W) => hx6.out.below hW (Nat.le_refl _))
      clear hx5 hx6
      go_wp2_with fail
      refine (CS.out _ _ l _ (HB3.out _ hE6) (HV.out.below hB6 (Nat.le_refl _)) (by rw [HL.out]; omega)).mono ?_
      rintro e w7 ⟨rfl, hb7⟩
      have hB7 := below_step hB6 hb7
      have hF7 := below_step hF6 hb7
      have HB3 : True := trivial
      by_cases h4 : e4 = 0
      · have p4 : (e4 != 0) = false := by rw [h4]; rfl
        by_cases h5 : e5 = 0
        · have p5 : (e5 != 0) = false := by rw [h5]; rfl
          by_cases h6 : e6 = 0
          · have p6 : (e6 != 0) = false := by rw [h6]; rfl
            have hLL := Lib.hid (HC.out h4 h5 h6)
            subst h4 h5 h6
            go_wp2_with fail
            refine (CS.out _ _ L4 _ (HB4.out _ hF7) (by rw [hLL.out]; exact HB6.out _ hb7) (hl4.out HNr.out)).mono ?_
            rintro e w8 ⟨rfl, hb8⟩
            have hB8 := below_step hB7 hb8
            go_wp2_with fail
            refine (CAw.out _ hB8).mono ?_
            rintro e w9 ⟨rfl, hb9⟩
            go_wp2_with fail
            go_ret
            exact ⟨rfl, below_step hB8 hb9⟩
          · have p6 : (e6 != 0) = true := bne_iff_ne.2 h6
            subst h4 h5
            clear h6
            go_wp2_with fail
            refine (CAw.out _ hB7).mono ?_
            rintro e w9 ⟨rfl, hb9⟩
            go_wp2_with fail
            go_ret
            exact ⟨rfl, below_step hB7 hb9⟩
        · have p5 : (e5 != 0) = true := bne_iff_ne.2 h5
          subst h4
          clear h5
          go_wp2_with fail
          refine (CAw.out _ hB7).mono ?_
          rintro e w9 ⟨rfl, hb9⟩
          go_wp2_with fail
          go_ret
          exact ⟨rfl, below_step hB7 hb9⟩
      · have p4 : (e4 != 0) = true := bne_iff_ne.2 h4
        clear h4
        go_wp2_with fail
        refine (CAw.out _ hB7).mono ?_
        rintro e w9 ⟨rfl, hb9⟩
        go_wp2_with fail
        go_ret
        exact ⟨rfl, below_step hB7 hb9⟩
set_option maxRecDepth 100000 in
theorem lawAl_any (v : Value) (l : List Sx) (a b : Int) (w : World) (h : XsAt w v l) (hi : InX l) (T : XTabs w) :
    Calls Tryz.prog 8 #[v, .int .i64 a, .int .i64 b] w fun e w' => e = .returned (.bool true) ∧ Below w.heap.size w w' := by
  obtain ⟨av, cv, rfl, hc⟩ := h.slice
  have CF := farX_any _ l w h
  have CAw : ∀ W, Below w.heap.size w W → Calls Tryz.prog 11 #[] W fun e w' => e = .returned (.bool true) ∧ Below W.heap.size W w' := fun W hW => awakeX_any W (T.below hW)
  have hv : ∀ W, Below w.heap.size w W → XsAt W (.slice av l.length cv) l := fun W hW => h.below hW (Nat.le_refl _)
  have hT : ∀ W, Below w.heap.size w W → STabs W := fun W hW => (T.below hW).st
  have few : ∀ (c : Int) (p : List UInt8), (oneS true false true p c).1.length ≤ 20000 := fun c p => one_few _ _ _ _ _
  by_cases hb : (chgS (fun p => oneS true false true p a) l).2 ≠ 0 ∨ (chgS (fun p => oneS true true true p a) l).2 ≠ 0
  · refine lawAl_bad l.length av cv l a b w CF CAw (chgS (fun p => oneS true false true p a) l).1.length (chgS (fun p => oneS true true true p a) l).1.length (chgS (fun p => oneS true false true p a) l).1 (chgS (fun p => oneS true true true p a) l).1 (chgS (fun p => oneS true false true p a) l).2 (chgS (fun p => oneS true true true p a) l).2 ?_ ?_ (fun h => by rw [chg_nil h]; rfl) (fun h => by rw [chg_nil h]; rfl) hb
    · exact fun hn W hW => (Flip_any a _ l W (hv W hW) hn.sm hi (hT W hW) (by have := hn.1; omega)).mono fun e W' hc => chgR_of rfl rfl hc
    · exact fun hn W hW => (Add_any a _ l W (hv W hW) hn.sm hi (hT W hW) (by have := hn.1; omega)).mono fun e W' hc => chgR_of rfl rfl hc
  · have h1 : (chgS (fun p => oneS true false true p a) l).2 = 0 := Decidable.of_not_not fun h => hb (.inl h)
    have h2 : (chgS (fun p => oneS true true true p a) l).2 = 0 := Decidable.of_not_not fun h => hb (.inr h)
    obtain ⟨_, z1, q1⟩ := chg_ok h1
    obtain ⟨_, z2, q2⟩ := chg_ok h2
    have hsX : NearX l → SmX (l.map (setP (fun p => oneS true false true p a))) := fun hn => by have := chg_sm (few a) hn.sm; rw [q1] at this; exact this
    have hiX : InX (l.map (setP (fun p => oneS true false true p a))) := by have := chg_in (g := (fun p => oneS true false true p a)) hi; rw [q1] at this; exact this
    refine lawAl_good l.length av cv l rfl a b w h CF CAw (l.map (setP (fun p => oneS true false true p a))) (l.map (setP (fun p => oneS true true true p a))) ?_ ?_ (fun x hx => ⟨z1 x hx, z2 x hx⟩) rfl rfl ?_ (chgS (fun p => oneS true false true p b) (l.map (setP (fun p => oneS true false true p a)))).1.length (chgS (fun p => oneS true false true p b) (l.map (setP (fun p => oneS true false true p a)))).1 (chgS (fun p => oneS true false true p b) (l.map (setP (fun p => oneS true false true p a)))).2 ?_ (chgS (fun p => oneS true false true p b) l).1.length (chgS (fun p => oneS true false true p b) l).1 (chgS (fun p => oneS true false true p b) l).2 ?_ (chgS (fun p => oneS true false true p a) (chgS (fun p => oneS true false true p b) l).1).1.length (chgS (fun p => oneS true false true p a) (chgS (fun p => oneS true false true p b) l).1).1 (chgS (fun p => oneS true false true p a) (chgS (fun p => oneS true false true p b) l).1).2 ?_ ?_ ?_
    · exact fun hn W hW => (Flip_any a _ l W (hv W hW) hn.sm hi (hT W hW) (by have := hn.1; omega)).mono fun e W' hc => chgR_of q1 (List.length_map ..) hc
    · exact fun hn W hW => (Add_any a _ l W (hv W hW) hn.sm hi (hT W hW) (by have := hn.1; omega)).mono fun e W' hc => chgR_of q2 (List.length_map ..) hc
    · exact fun hn u W hW hx => (Flip_any a u _ W hx (hsX hn) hiX (hT W hW) (by rw [List.length_map]; have := hn.1; omega)).mono fun e W' hc => chgR_of (chg_back h1) rfl hc
    · exact fun hn u W hW hx => (Flip_any b u _ W hx (hsX hn) hiX (hT W hW) (by rw [List.length_map]; have := hn.1; omega)).mono fun e W' hc => chgR_of rfl rfl hc
    · exact fun hn W hW => (Flip_any b _ l W (hv W hW) hn.sm hi (hT W hW) (by have := hn.1; omega)).mono fun e W' hc => chgR_of rfl rfl hc
    · exact fun hn u W hW hx => (Flip_any a u _ W hx (chg_sm (few b) hn.sm) (chg_in hi) (hT W hW) (by have := hn.1; have := chg_len (g := (fun p => oneS true false true p b)) (l := l); omega)).mono fun e W' hc => chgR_of rfl rfl hc
    · exact fun h4 h5 h6 => chg_comm h1 h5 h4 h6
    · exact fun hn => Nat.le_trans chg_len (by rw [List.length_map]; have := hn.1; omega)
end Go.Proofs.YtbmgpenllpbioaaGreatDoor
