/- The reference of layer 10: one. (Written by tools/gen_yx.py.) -/
import Derived.Test.YtbmgpenllpbioaaGreatDoorYf
import Derived.BigQuiet
namespace Go.Proofs.YtbmgpenllpbioaaGreatDoor
open Go.RowKit Go.PlainAid

set_option maxRecDepth 50000 in
set_option maxHeartbeats 12800000 in
theorem rone10_any (x : Sx) (d : Int) (w : World) (hp : x.p.length ≤ 100000) : Calls Tryz.prog 49 #[sxA x, .int .i64 d] w fun e w' => e = .returned (.int .i64 (errX x d)) ∧ Below w.heap.size w w' := by
  obtain ⟨k, c, n, s, p, f, t, o⟩ := x
  obtain ⟨W0, hW0⟩ : ∃ W0, W0 = w.alloc (.cells #[.int .i64 k, .int .i64 c, .int .i64 n, .string (str s), .string (str p), .int .i64 f, .int .i64 t, .int .i64 o] 28) := ⟨_, rfl⟩
  have hb0 : Below w.heap.size w W0 := by rw [hW0]; exact below_b1 _ _
  have hx0 : W0.heap[w.heap.size]? = some (.cells #[.int .i64 k, .int .i64 c, .int .i64 n, .string (str s), .string (str p), .int .i64 f, .int .i64 t, .int .i64 o] 28 (0, 0)) := by rw [hW0]; exact World.alloc_heap_new _ _
  have HB : Hid (∀ W, Below W0.heap.size W0 W → Below w.heap.size w W ∧ W.heap[w.heap.size]? = some (.cells #[.int .i64 k, .int .i64 c, .int .i64 n, .string (str s), .string (str p), .int .i64 f, .int .i64 t, .int .i64 o] 28 (0, 0))) := Lib.hid fun W hb =>
    ⟨hb0.trans (hb.mono hb0.size), (hb.block w.heap.size (Array.getElem?_eq_some_iff.1 hx0).1).trans hx0⟩
  have CS := Lib.hid (fun W => rsymbol_any s W)
  have CC := Lib.hid (fun W => rcheck9_any p W (by simp only at hp; omega))
  have HE : Hid (∀ r, errX ⟨k, c, n, s, p, f, t, o⟩ d = r → errX ⟨k, c, n, s, p, f, t, o⟩ d = r) := Lib.hid fun r h => h
  show Calls _ _ #[.agg #[.int .i64 k, .int .i64 c, .int .i64 n, .string (str s), .string (str p), .int .i64 f, .int .i64 t, .int .i64 o], _] _ _
  have hbe := emp_dec s
  have hbn : ((str s).toList != []) = !decide (s = []) := by rw [← hbe]; rfl
  obtain ⟨S, hS⟩ : ∃ S, str s = S := ⟨_, rfl⟩
  obtain ⟨P, hP⟩ : ∃ P, str p = P := ⟨_, rfl⟩
  rw [hS] at CS HB hW0 hbe hbn ⊢
  rw [hP] at CC HB hW0 ⊢
  clear hx0 hb0 hp hS hP
  by_cases k1 : k < 1
  · have r1 : ¬ k = 1 := by omega
    have r2 : ¬ k = 2 := by omega
    have r3 : ¬ k = 3 := by omega
    have r4 : ¬ k = 4 := by omega
    have HW := Lib.hid (HE.out (6) (by unfold errX kindX fldX isSpB; simp [r1, r2, r3, r4]))
    have a0 : decide (k < 1) = true := decide_eq_true (by omega)
    clear HE k1 r1 r2 r3 r4
    go_enter Tryz.func49, Tryz.ntmps49
    go_wp2_with fail
    rw [← hW0]
    go_ret
    exact ⟨ret_int HW.out.symm, (HB.out W0 (Below.refl _ _)).1⟩
  by_cases k4 : 4 < k
  · have r1 : ¬ k = 1 := by omega
    have r2 : ¬ k = 2 := by omega
    have r3 : ¬ k = 3 := by omega
    have r4 : ¬ k = 4 := by omega
    have HW := Lib.hid (HE.out (6) (by unfold errX kindX fldX isSpB; simp [r1, r2, r3, r4]))
    have a0 : decide (k < 1) = false := decide_eq_false (by omega)
    have a1 : decide ((4 : Int) < k) = true := decide_eq_true (by omega)
    clear HE k1 k4 r1 r2 r3 r4
    go_enter Tryz.func49, Tryz.ntmps49
    go_wp2_with fail
    rw [← hW0]
    go_ret
    exact ⟨ret_int HW.out.symm, (HB.out W0 (Below.refl _ _)).1⟩
  have hk : k = 1 ∨ k = 2 ∨ k = 3 ∨ k = 4 := by omega
  clear k1 k4
  rcases hk with rfl | rfl | rfl | rfl
  · by_cases c0 : c < 0
    · have r1 : ¬ c = 0 := by omega
      have r2 : ¬ 0 ≤ c := by omega
      have HW := Lib.hid (HE.out (6) (by unfold errX kindX fldX isSpB; simp [r1]))
      have a0 : decide (c < 0) = true := decide_eq_true (by omega)
      clear HE c0 r1 r2
      go_enter Tryz.func49, Tryz.ntmps49
      go_wp2_with fail
      rw [← hW0]
      go_ret
      exact ⟨ret_int HW.out.symm, (HB.out W0 (Below.refl _ _)).1⟩
    by_cases c1 : c = 0
    rotate_left
    · skip
      have HW := Lib.hid (HE.out (6) (by unfold errX kindX fldX isSpB; simp [c1]))
      have a0 : decide (c < 0) = false := decide_eq_false (by omega)
      have a1 : (c != 0) = true := bne_iff_ne.2 c1
      clear HE c0 c1
      go_enter Tryz.func49, Tryz.ntmps49
      go_wp2_with fail
      rw [← hW0]
      go_ret
      exact ⟨ret_int HW.out.symm, (HB.out W0 (Below.refl _ _)).1⟩
    subst c1
    clear c0
    by_cases s0 : s = []
    rotate_left
    · rw [decide_eq_false s0] at hbe hbn
      have HW := Lib.hid (HE.out (6) (by unfold errX kindX fldX isSpB; simp [s0]))
      clear HE s0
      go_enter Tryz.func49, Tryz.ntmps49
      go_wp2_with fail
      rw [← hW0]
      go_ret
      exact ⟨ret_int HW.out.symm, (HB.out W0 (Below.refl _ _)).1⟩
    rw [decide_eq_true s0] at hbe hbn
    by_cases d0 : 200 < d
    · skip
      have HW := Lib.hid (HE.out (3) (by unfold errX kindX fldX isSpB; simp [s0, d0]))
      have a0 : decide ((200 : Int) < d) = true := decide_eq_true (by omega)
      clear HE s0 d0
      go_enter Tryz.func49, Tryz.ntmps49
      go_wp2_with fail
      rw [← hW0]
      go_ret
      exact ⟨ret_int HW.out.symm, (HB.out W0 (Below.refl _ _)).1⟩
    by_cases z0 : chkE p = 0
    rotate_left
    · obtain ⟨z, hz⟩ : ∃ z, chkE p = z := ⟨_, rfl⟩
      rw [hz] at CC z0
      have HW := Lib.hid (HE.out (z) (by unfold errX kindX fldX isSpB; simp [s0, d0, hz, z0]))
      have a0 : decide ((200 : Int) < d) = false := decide_eq_false (by omega)
      have a1 : (z != 0) = true := bne_iff_ne.2 z0
      clear HE s0 d0 hz z0
      go_enter Tryz.func49, Tryz.ntmps49
      go_wp2_with fail
      rw [← hW0]
      have hb0 := Below.refl W0.heap.size W0
      refine (CC.out _).mono ?_
      rintro e w1 ⟨rfl, hc1⟩
      have hb1 := hc1
      obtain ⟨hB1, hx1⟩ := HB.out w1 hb1
      obtain ⟨m0, m1, m2, m3, m4, m5, m6, m7⟩ := box8_facts hx1
      go_wp2_with fail
      go_ret
      exact ⟨ret_int HW.out.symm, hB1⟩
    rw [z0] at CC
    by_cases f0 : f < 0
    · have f1 : ¬ 0 ≤ f := by omega
      have HW := Lib.hid (HE.out (6) (by unfold errX kindX fldX isSpB; simp [s0, d0, z0, f1]))
      have a0 : decide ((200 : Int) < d) = false := decide_eq_false (by omega)
      have a1 : decide (f < 0) = true := decide_eq_true (by omega)
      clear HE s0 d0 z0 f0 f1
      go_enter Tryz.func49, Tryz.ntmps49
      go_wp2_with fail
      rw [← hW0]
      have hb0 := Below.refl W0.heap.size W0
      refine (CC.out _).mono ?_
      rintro e w1 ⟨rfl, hc1⟩
      have hb1 := hc1
      obtain ⟨hB1, hx1⟩ := HB.out w1 hb1
      obtain ⟨m0, m1, m2, m3, m4, m5, m6, m7⟩ := box8_facts hx1
      go_wp2_with fail
      go_ret
      exact ⟨ret_int HW.out.symm, hB1⟩
    have f1 : 0 ≤ f := by omega
    by_cases t0 : t < f
    · have t1 : ¬ f ≤ t := by omega
      have HW := Lib.hid (HE.out (6) (by unfold errX kindX fldX isSpB; simp [s0, d0, z0, f1, t1]))
      have a0 : decide ((200 : Int) < d) = false := decide_eq_false (by omega)
      have a1 : decide (f < 0) = false := decide_eq_false (by omega)
      have a2 : decide (t < f) = true := decide_eq_true (by omega)
      clear HE s0 d0 z0 f0 f1 t0 t1
      go_enter Tryz.func49, Tryz.ntmps49
      go_wp2_with fail
      rw [← hW0]
      have hb0 := Below.refl W0.heap.size W0
      refine (CC.out _).mono ?_
      rintro e w1 ⟨rfl, hc1⟩
      have hb1 := hc1
      obtain ⟨hB1, hx1⟩ := HB.out w1 hb1
      obtain ⟨m0, m1, m2, m3, m4, m5, m6, m7⟩ := box8_facts hx1
      go_wp2_with fail
      go_ret
      exact ⟨ret_int HW.out.symm, hB1⟩
    have t1 : f ≤ t := by omega
    by_cases o0 : o < 0
    · skip
      have HW := Lib.hid (HE.out (7) (by unfold errX kindX fldX isSpB; simp [s0, d0, z0, f1, t1, o0]))
      have a0 : decide ((200 : Int) < d) = false := decide_eq_false (by omega)
      have a1 : decide (f < 0) = false := decide_eq_false (by omega)
      have a2 : decide (t < f) = false := decide_eq_false (by omega)
      have a3 : decide (o < 0) = true := decide_eq_true (by omega)
      clear HE s0 d0 z0 f0 f1 t0 t1 o0
      go_enter Tryz.func49, Tryz.ntmps49
      go_wp2_with fail
      rw [← hW0]
      have hb0 := Below.refl W0.heap.size W0
      refine (CC.out _).mono ?_
      rintro e w1 ⟨rfl, hc1⟩
      have hb1 := hc1
      obtain ⟨hB1, hx1⟩ := HB.out w1 hb1
      obtain ⟨m0, m1, m2, m3, m4, m5, m6, m7⟩ := box8_facts hx1
      go_wp2_with fail
      go_ret
      exact ⟨ret_int HW.out.symm, hB1⟩
    · skip
      have HW := Lib.hid (HE.out (0) (by unfold errX kindX fldX isSpB; simp [s0, d0, z0, f1, t1, o0]))
      have a0 : decide ((200 : Int) < d) = false := decide_eq_false (by omega)
      have a1 : decide (f < 0) = false := decide_eq_false (by omega)
      have a2 : decide (t < f) = false := decide_eq_false (by omega)
      have a3 : decide (o < 0) = false := decide_eq_false (by omega)
      clear HE s0 d0 z0 f0 f1 t0 t1 o0
      go_enter Tryz.func49, Tryz.ntmps49
      go_wp2_with fail
      rw [← hW0]
      have hb0 := Below.refl W0.heap.size W0
      refine (CC.out _).mono ?_
      rintro e w1 ⟨rfl, hc1⟩
      have hb1 := hc1
      obtain ⟨hB1, hx1⟩ := HB.out w1 hb1
      obtain ⟨m0, m1, m2, m3, m4, m5, m6, m7⟩ := box8_facts hx1
      go_wp2_with fail
      go_ret
      exact ⟨ret_int HW.out.symm, hB1⟩
  · by_cases c0 : c < 0
    · have r1 : ¬ c = 0 := by omega
      have r2 : ¬ 0 ≤ c := by omega
      have HW := Lib.hid (HE.out (6) (by unfold errX kindX fldX isSpB; simp [r1]))
      have a0 : decide (c < 0) = true := decide_eq_true (by omega)
      clear HE c0 r1 r2
      go_enter Tryz.func49, Tryz.ntmps49
      go_wp2_with fail
      rw [← hW0]
      go_ret
      exact ⟨ret_int HW.out.symm, (HB.out W0 (Below.refl _ _)).1⟩
    by_cases c1 : c = 0
    rotate_left
    · skip
      have HW := Lib.hid (HE.out (6) (by unfold errX kindX fldX isSpB; simp [c1]))
      have a0 : decide (c < 0) = false := decide_eq_false (by omega)
      have a1 : (c != 0) = true := bne_iff_ne.2 c1
      clear HE c0 c1
      go_enter Tryz.func49, Tryz.ntmps49
      go_wp2_with fail
      rw [← hW0]
      go_ret
      exact ⟨ret_int HW.out.symm, (HB.out W0 (Below.refl _ _)).1⟩
    subst c1
    clear c0
    by_cases s0 : s = []
    rotate_left
    · rw [decide_eq_false s0] at hbe hbn
      have HW := Lib.hid (HE.out (6) (by unfold errX kindX fldX isSpB; simp [s0]))
      clear HE s0
      go_enter Tryz.func49, Tryz.ntmps49
      go_wp2_with fail
      rw [← hW0]
      go_ret
      exact ⟨ret_int HW.out.symm, (HB.out W0 (Below.refl _ _)).1⟩
    rw [decide_eq_true s0] at hbe hbn
    by_cases d0 : 200 < d
    · skip
      have HW := Lib.hid (HE.out (3) (by unfold errX kindX fldX isSpB; simp [s0, d0]))
      have a0 : decide ((200 : Int) < d) = true := decide_eq_true (by omega)
      clear HE s0 d0
      go_enter Tryz.func49, Tryz.ntmps49
      go_wp2_with fail
      rw [← hW0]
      go_ret
      exact ⟨ret_int HW.out.symm, (HB.out W0 (Below.refl _ _)).1⟩
    by_cases n2 : n ≠ 0 ∧ n ≠ 1
    · obtain ⟨n3, n4⟩ := n2
      have HW := Lib.hid (HE.out (7) (by unfold errX kindX fldX isSpB; simp [s0, d0, n3, n4]))
      have a0 : decide ((200 : Int) < d) = false := decide_eq_false (by omega)
      have a1 : (n != 0) = true := bne_iff_ne.2 n3
      have a2 : (n != 1) = true := bne_iff_ne.2 n4
      clear HE s0 d0 n3 n4
      go_enter Tryz.func49, Tryz.ntmps49
      go_wp2_with fail
      rw [← hW0]
      go_ret
      exact ⟨ret_int HW.out.symm, (HB.out W0 (Below.refl _ _)).1⟩
    have n5 : n = 0 ∨ n = 1 := by omega
    clear n2
    rcases n5 with rfl | rfl
    · skip
      by_cases z0 : chkE p = 0
      rotate_left
      · obtain ⟨z, hz⟩ : ∃ z, chkE p = z := ⟨_, rfl⟩
        rw [hz] at CC z0
        have HW := Lib.hid (HE.out (z) (by unfold errX kindX fldX isSpB; simp [s0, d0, hz, z0]))
        have a0 : decide ((200 : Int) < d) = false := decide_eq_false (by omega)
        have a1 : (z != 0) = true := bne_iff_ne.2 z0
        clear HE s0 d0 hz z0
        go_enter Tryz.func49, Tryz.ntmps49
        go_wp2_with fail
        rw [← hW0]
        have hb0 := Below.refl W0.heap.size W0
        refine (CC.out _).mono ?_
        rintro e w1 ⟨rfl, hc1⟩
        have hb1 := hc1
        obtain ⟨hB1, hx1⟩ := HB.out w1 hb1
        obtain ⟨m0, m1, m2, m3, m4, m5, m6, m7⟩ := box8_facts hx1
        go_wp2_with fail
        go_ret
        exact ⟨ret_int HW.out.symm, hB1⟩
      rw [z0] at CC
      by_cases f0 : f < 0
      · have f1 : ¬ 0 ≤ f := by omega
        have HW := Lib.hid (HE.out (6) (by unfold errX kindX fldX isSpB; simp [s0, d0, z0, f1]))
        have a0 : decide ((200 : Int) < d) = false := decide_eq_false (by omega)
        have a1 : decide (f < 0) = true := decide_eq_true (by omega)
        clear HE s0 d0 z0 f0 f1
        go_enter Tryz.func49, Tryz.ntmps49
        go_wp2_with fail
        rw [← hW0]
        have hb0 := Below.refl W0.heap.size W0
        refine (CC.out _).mono ?_
        rintro e w1 ⟨rfl, hc1⟩
        have hb1 := hc1
        obtain ⟨hB1, hx1⟩ := HB.out w1 hb1
        obtain ⟨m0, m1, m2, m3, m4, m5, m6, m7⟩ := box8_facts hx1
        go_wp2_with fail
        go_ret
        exact ⟨ret_int HW.out.symm, hB1⟩
      have f1 : 0 ≤ f := by omega
      by_cases t0 : t < f
      · have t1 : ¬ f ≤ t := by omega
        have HW := Lib.hid (HE.out (6) (by unfold errX kindX fldX isSpB; simp [s0, d0, z0, f1, t1]))
        have a0 : decide ((200 : Int) < d) = false := decide_eq_false (by omega)
        have a1 : decide (f < 0) = false := decide_eq_false (by omega)
        have a2 : decide (t < f) = true := decide_eq_true (by omega)
        clear HE s0 d0 z0 f0 f1 t0 t1
        go_enter Tryz.func49, Tryz.ntmps49
        go_wp2_with fail
        rw [← hW0]
        have hb0 := Below.refl W0.heap.size W0
        refine (CC.out _).mono ?_
        rintro e w1 ⟨rfl, hc1⟩
        have hb1 := hc1
        obtain ⟨hB1, hx1⟩ := HB.out w1 hb1
        obtain ⟨m0, m1, m2, m3, m4, m5, m6, m7⟩ := box8_facts hx1
        go_wp2_with fail
        go_ret
        exact ⟨ret_int HW.out.symm, hB1⟩
      have t1 : f ≤ t := by omega
      by_cases o0 : o < 0
      · skip
        have HW := Lib.hid (HE.out (7) (by unfold errX kindX fldX isSpB; simp [s0, d0, z0, f1, t1, o0]))
        have a0 : decide ((200 : Int) < d) = false := decide_eq_false (by omega)
        have a1 : decide (f < 0) = false := decide_eq_false (by omega)
        have a2 : decide (t < f) = false := decide_eq_false (by omega)
        have a3 : decide (o < 0) = true := decide_eq_true (by omega)
        clear HE s0 d0 z0 f0 f1 t0 t1 o0
        go_enter Tryz.func49, Tryz.ntmps49
        go_wp2_with fail
        rw [← hW0]
        have hb0 := Below.refl W0.heap.size W0
        refine (CC.out _).mono ?_
        rintro e w1 ⟨rfl, hc1⟩
        have hb1 := hc1
        obtain ⟨hB1, hx1⟩ := HB.out w1 hb1
        obtain ⟨m0, m1, m2, m3, m4, m5, m6, m7⟩ := box8_facts hx1
        go_wp2_with fail
        go_ret
        exact ⟨ret_int HW.out.symm, hB1⟩
      · skip
        have HW := Lib.hid (HE.out (0) (by unfold errX kindX fldX isSpB; simp [s0, d0, z0, f1, t1, o0]))
        have a0 : decide ((200 : Int) < d) = false := decide_eq_false (by omega)
        have a1 : decide (f < 0) = false := decide_eq_false (by omega)
        have a2 : decide (t < f) = false := decide_eq_false (by omega)
        have a3 : decide (o < 0) = false := decide_eq_false (by omega)
        clear HE s0 d0 z0 f0 f1 t0 t1 o0
        go_enter Tryz.func49, Tryz.ntmps49
        go_wp2_with fail
        rw [← hW0]
        have hb0 := Below.refl W0.heap.size W0
        refine (CC.out _).mono ?_
        rintro e w1 ⟨rfl, hc1⟩
        have hb1 := hc1
        obtain ⟨hB1, hx1⟩ := HB.out w1 hb1
        obtain ⟨m0, m1, m2, m3, m4, m5, m6, m7⟩ := box8_facts hx1
        go_wp2_with fail
        go_ret
        exact ⟨ret_int HW.out.symm, hB1⟩
    · skip
      by_cases z0 : chkE p = 0
      rotate_left
      · obtain ⟨z, hz⟩ : ∃ z, chkE p = z := ⟨_, rfl⟩
        rw [hz] at CC z0
        have HW := Lib.hid (HE.out (z) (by unfold errX kindX fldX isSpB; simp [s0, d0, hz, z0]))
        have a0 : decide ((200 : Int) < d) = false := decide_eq_false (by omega)
        have a1 : (z != 0) = true := bne_iff_ne.2 z0
        clear HE s0 d0 hz z0
        go_enter Tryz.func49, Tryz.ntmps49
        go_wp2_with fail
        rw [← hW0]
        have hb0 := Below.refl W0.heap.size W0
        refine (CC.out _).mono ?_
        rintro e w1 ⟨rfl, hc1⟩
        have hb1 := hc1
        obtain ⟨hB1, hx1⟩ := HB.out w1 hb1
        obtain ⟨m0, m1, m2, m3, m4, m5, m6, m7⟩ := box8_facts hx1
        go_wp2_with fail
        go_ret
        exact ⟨ret_int HW.out.symm, hB1⟩
      rw [z0] at CC
      by_cases f0 : f < 0
      · have f1 : ¬ 0 ≤ f := by omega
        have HW := Lib.hid (HE.out (6) (by unfold errX kindX fldX isSpB; simp [s0, d0, z0, f1]))
        have a0 : decide ((200 : Int) < d) = false := decide_eq_false (by omega)
        have a1 : decide (f < 0) = true := decide_eq_true (by omega)
        clear HE s0 d0 z0 f0 f1
        go_enter Tryz.func49, Tryz.ntmps49
        go_wp2_with fail
        rw [← hW0]
        have hb0 := Below.refl W0.heap.size W0
        refine (CC.out _).mono ?_
        rintro e w1 ⟨rfl, hc1⟩
        have hb1 := hc1
        obtain ⟨hB1, hx1⟩ := HB.out w1 hb1
        obtain ⟨m0, m1, m2, m3, m4, m5, m6, m7⟩ := box8_facts hx1
        go_wp2_with fail
        go_ret
        exact ⟨ret_int HW.out.symm, hB1⟩
      have f1 : 0 ≤ f := by omega
      by_cases t0 : t < f
      · have t1 : ¬ f ≤ t := by omega
        have HW := Lib.hid (HE.out (6) (by unfold errX kindX fldX isSpB; simp [s0, d0, z0, f1, t1]))
        have a0 : decide ((200 : Int) < d) = false := decide_eq_false (by omega)
        have a1 : decide (f < 0) = false := decide_eq_false (by omega)
        have a2 : decide (t < f) = true := decide_eq_true (by omega)
        clear HE s0 d0 z0 f0 f1 t0 t1
        go_enter Tryz.func49, Tryz.ntmps49
        go_wp2_with fail
        rw [← hW0]
        have hb0 := Below.refl W0.heap.size W0
        refine (CC.out _).mono ?_
        rintro e w1 ⟨rfl, hc1⟩
        have hb1 := hc1
        obtain ⟨hB1, hx1⟩ := HB.out w1 hb1
        obtain ⟨m0, m1, m2, m3, m4, m5, m6, m7⟩ := box8_facts hx1
        go_wp2_with fail
        go_ret
        exact ⟨ret_int HW.out.symm, hB1⟩
      have t1 : f ≤ t := by omega
      by_cases o0 : o < 0
      · skip
        have HW := Lib.hid (HE.out (7) (by unfold errX kindX fldX isSpB; simp [s0, d0, z0, f1, t1, o0]))
        have a0 : decide ((200 : Int) < d) = false := decide_eq_false (by omega)
        have a1 : decide (f < 0) = false := decide_eq_false (by omega)
        have a2 : decide (t < f) = false := decide_eq_false (by omega)
        have a3 : decide (o < 0) = true := decide_eq_true (by omega)
        clear HE s0 d0 z0 f0 f1 t0 t1 o0
        go_enter Tryz.func49, Tryz.ntmps49
        go_wp2_with fail
        rw [← hW0]
        have hb0 := Below.refl W0.heap.size W0
        refine (CC.out _).mono ?_
        rintro e w1 ⟨rfl, hc1⟩
        have hb1 := hc1
        obtain ⟨hB1, hx1⟩ := HB.out w1 hb1
        obtain ⟨m0, m1, m2, m3, m4, m5, m6, m7⟩ := box8_facts hx1
        go_wp2_with fail
        go_ret
        exact ⟨ret_int HW.out.symm, hB1⟩
      · skip
        have HW := Lib.hid (HE.out (0) (by unfold errX kindX fldX isSpB; simp [s0, d0, z0, f1, t1, o0]))
        have a0 : decide ((200 : Int) < d) = false := decide_eq_false (by omega)
        have a1 : decide (f < 0) = false := decide_eq_false (by omega)
        have a2 : decide (t < f) = false := decide_eq_false (by omega)
        have a3 : decide (o < 0) = false := decide_eq_false (by omega)
        clear HE s0 d0 z0 f0 f1 t0 t1 o0
        go_enter Tryz.func49, Tryz.ntmps49
        go_wp2_with fail
        rw [← hW0]
        have hb0 := Below.refl W0.heap.size W0
        refine (CC.out _).mono ?_
        rintro e w1 ⟨rfl, hc1⟩
        have hb1 := hc1
        obtain ⟨hB1, hx1⟩ := HB.out w1 hb1
        obtain ⟨m0, m1, m2, m3, m4, m5, m6, m7⟩ := box8_facts hx1
        go_wp2_with fail
        go_ret
        exact ⟨ret_int HW.out.symm, hB1⟩
  · by_cases c0 : c < 0
    · have r1 : ¬ c = 0 := by omega
      have r2 : ¬ 0 ≤ c := by omega
      have HW := Lib.hid (HE.out (6) (by unfold errX kindX fldX isSpB; simp [r1]))
      have a0 : decide (c < 0) = true := decide_eq_true (by omega)
      clear HE c0 r1 r2
      go_enter Tryz.func49, Tryz.ntmps49
      go_wp2_with fail
      rw [← hW0]
      go_ret
      exact ⟨ret_int HW.out.symm, (HB.out W0 (Below.refl _ _)).1⟩
    by_cases c1 : c = 0
    rotate_left
    · skip
      have HW := Lib.hid (HE.out (6) (by unfold errX kindX fldX isSpB; simp [c1]))
      have a0 : decide (c < 0) = false := decide_eq_false (by omega)
      have a1 : (c != 0) = true := bne_iff_ne.2 c1
      clear HE c0 c1
      go_enter Tryz.func49, Tryz.ntmps49
      go_wp2_with fail
      rw [← hW0]
      go_ret
      exact ⟨ret_int HW.out.symm, (HB.out W0 (Below.refl _ _)).1⟩
    subst c1
    clear c0
    by_cases n0 : n = 0
    rotate_left
    · skip
      have HW := Lib.hid (HE.out (6) (by unfold errX kindX fldX isSpB; simp [n0]))
      have a0 : (n != 0) = true := bne_iff_ne.2 n0
      clear HE n0
      go_enter Tryz.func49, Tryz.ntmps49
      go_wp2_with fail
      rw [← hW0]
      go_ret
      exact ⟨ret_int HW.out.symm, (HB.out W0 (Below.refl _ _)).1⟩
    subst n0
    by_cases d0 : 200 < d
    · skip
      have HW := Lib.hid (HE.out (3) (by unfold errX kindX fldX isSpB; simp [d0]))
      have a0 : decide ((200 : Int) < d) = true := decide_eq_true (by omega)
      clear HE d0
      go_enter Tryz.func49, Tryz.ntmps49
      go_wp2_with fail
      rw [← hW0]
      go_ret
      exact ⟨ret_int HW.out.symm, (HB.out W0 (Below.refl _ _)).1⟩
    by_cases y0 : symS s = true
    rotate_left
    · rw [Bool.not_eq_true] at y0
      rw [y0] at CS
      have HW := Lib.hid (HE.out (6) (by unfold errX kindX fldX isSpB; simp [d0, y0]))
      have a0 : decide ((200 : Int) < d) = false := decide_eq_false (by omega)
      clear HE d0 y0
      go_enter Tryz.func49, Tryz.ntmps49
      go_wp2_with fail
      rw [← hW0]
      have hb0 := Below.refl W0.heap.size W0
      refine (CS.out _).mono ?_
      rintro e w1 ⟨rfl, hc1⟩
      have hb1 := hc1
      obtain ⟨hB1, hx1⟩ := HB.out w1 hb1
      obtain ⟨m0, m1, m2, m3, m4, m5, m6, m7⟩ := box8_facts hx1
      go_wp2_with fail
      go_ret
      exact ⟨ret_int HW.out.symm, hB1⟩
    rw [y0] at CS
    by_cases z0 : chkE p = 0
    rotate_left
    · obtain ⟨z, hz⟩ : ∃ z, chkE p = z := ⟨_, rfl⟩
      rw [hz] at CC z0
      have HW := Lib.hid (HE.out (z) (by unfold errX kindX fldX isSpB; simp [d0, y0, hz, z0]))
      have a0 : decide ((200 : Int) < d) = false := decide_eq_false (by omega)
      have a1 : (z != 0) = true := bne_iff_ne.2 z0
      clear HE d0 y0 hz z0
      go_enter Tryz.func49, Tryz.ntmps49
      go_wp2_with fail
      rw [← hW0]
      have hb0 := Below.refl W0.heap.size W0
      refine (CS.out _).mono ?_
      rintro e w1 ⟨rfl, hc1⟩
      have hb1 := hc1
      obtain ⟨hB1, hx1⟩ := HB.out w1 hb1
      obtain ⟨m0, m1, m2, m3, m4, m5, m6, m7⟩ := box8_facts hx1
      go_wp2_with fail
      refine (CC.out _).mono ?_
      rintro e w2 ⟨rfl, hc2⟩
      have hb2 := hb1.trans (hc2.mono hb1.size)
      clear m0 m1 m2 m3 m4 m5 m6 m7
      obtain ⟨hB2, hx2⟩ := HB.out w2 hb2
      obtain ⟨m0, m1, m2, m3, m4, m5, m6, m7⟩ := box8_facts hx2
      go_wp2_with fail
      go_ret
      exact ⟨ret_int HW.out.symm, hB2⟩
    rw [z0] at CC
    by_cases f0 : f < 0
    · have f1 : ¬ 0 ≤ f := by omega
      have HW := Lib.hid (HE.out (6) (by unfold errX kindX fldX isSpB; simp [d0, y0, z0, f1]))
      have a0 : decide ((200 : Int) < d) = false := decide_eq_false (by omega)
      have a1 : decide (f < 0) = true := decide_eq_true (by omega)
      clear HE d0 y0 z0 f0 f1
      go_enter Tryz.func49, Tryz.ntmps49
      go_wp2_with fail
      rw [← hW0]
      have hb0 := Below.refl W0.heap.size W0
      refine (CS.out _).mono ?_
      rintro e w1 ⟨rfl, hc1⟩
      have hb1 := hc1
      obtain ⟨hB1, hx1⟩ := HB.out w1 hb1
      obtain ⟨m0, m1, m2, m3, m4, m5, m6, m7⟩ := box8_facts hx1
      go_wp2_with fail
      refine (CC.out _).mono ?_
      rintro e w2 ⟨rfl, hc2⟩
      have hb2 := hb1.trans (hc2.mono hb1.size)
      clear m0 m1 m2 m3 m4 m5 m6 m7
      obtain ⟨hB2, hx2⟩ := HB.out w2 hb2
      obtain ⟨m0, m1, m2, m3, m4, m5, m6, m7⟩ := box8_facts hx2
      go_wp2_with fail
      go_ret
      exact ⟨ret_int HW.out.symm, hB2⟩
    have f1 : 0 ≤ f := by omega
    by_cases t0 : t < f
    · have t1 : ¬ f ≤ t := by omega
      have HW := Lib.hid (HE.out (6) (by unfold errX kindX fldX isSpB; simp [d0, y0, z0, f1, t1]))
      have a0 : decide ((200 : Int) < d) = false := decide_eq_false (by omega)
      have a1 : decide (f < 0) = false := decide_eq_false (by omega)
      have a2 : decide (t < f) = true := decide_eq_true (by omega)
      clear HE d0 y0 z0 f0 f1 t0 t1
      go_enter Tryz.func49, Tryz.ntmps49
      go_wp2_with fail
      rw [← hW0]
      have hb0 := Below.refl W0.heap.size W0
      refine (CS.out _).mono ?_
      rintro e w1 ⟨rfl, hc1⟩
      have hb1 := hc1
      obtain ⟨hB1, hx1⟩ := HB.out w1 hb1
      obtain ⟨m0, m1, m2, m3, m4, m5, m6, m7⟩ := box8_facts hx1
      go_wp2_with fail
      refine (CC.out _).mono ?_
      rintro e w2 ⟨rfl, hc2⟩
      have hb2 := hb1.trans (hc2.mono hb1.size)
      clear m0 m1 m2 m3 m4 m5 m6 m7
      obtain ⟨hB2, hx2⟩ := HB.out w2 hb2
      obtain ⟨m0, m1, m2, m3, m4, m5, m6, m7⟩ := box8_facts hx2
      go_wp2_with fail
      go_ret
      exact ⟨ret_int HW.out.symm, hB2⟩
    have t1 : f ≤ t := by omega
    by_cases o0 : o < 0
    · skip
      have HW := Lib.hid (HE.out (7) (by unfold errX kindX fldX isSpB; simp [d0, y0, z0, f1, t1, o0]))
      have a0 : decide ((200 : Int) < d) = false := decide_eq_false (by omega)
      have a1 : decide (f < 0) = false := decide_eq_false (by omega)
      have a2 : decide (t < f) = false := decide_eq_false (by omega)
      have a3 : decide (o < 0) = true := decide_eq_true (by omega)
      clear HE d0 y0 z0 f0 f1 t0 t1 o0
      go_enter Tryz.func49, Tryz.ntmps49
      go_wp2_with fail
      rw [← hW0]
      have hb0 := Below.refl W0.heap.size W0
      refine (CS.out _).mono ?_
      rintro e w1 ⟨rfl, hc1⟩
      have hb1 := hc1
      obtain ⟨hB1, hx1⟩ := HB.out w1 hb1
      obtain ⟨m0, m1, m2, m3, m4, m5, m6, m7⟩ := box8_facts hx1
      go_wp2_with fail
      refine (CC.out _).mono ?_
      rintro e w2 ⟨rfl, hc2⟩
      have hb2 := hb1.trans (hc2.mono hb1.size)
      clear m0 m1 m2 m3 m4 m5 m6 m7
      obtain ⟨hB2, hx2⟩ := HB.out w2 hb2
      obtain ⟨m0, m1, m2, m3, m4, m5, m6, m7⟩ := box8_facts hx2
      go_wp2_with fail
      go_ret
      exact ⟨ret_int HW.out.symm, hB2⟩
    · skip
      have HW := Lib.hid (HE.out (0) (by unfold errX kindX fldX isSpB; simp [d0, y0, z0, f1, t1, o0]))
      have a0 : decide ((200 : Int) < d) = false := decide_eq_false (by omega)
      have a1 : decide (f < 0) = false := decide_eq_false (by omega)
      have a2 : decide (t < f) = false := decide_eq_false (by omega)
      have a3 : decide (o < 0) = false := decide_eq_false (by omega)
      clear HE d0 y0 z0 f0 f1 t0 t1 o0
      go_enter Tryz.func49, Tryz.ntmps49
      go_wp2_with fail
      rw [← hW0]
      have hb0 := Below.refl W0.heap.size W0
      refine (CS.out _).mono ?_
      rintro e w1 ⟨rfl, hc1⟩
      have hb1 := hc1
      obtain ⟨hB1, hx1⟩ := HB.out w1 hb1
      obtain ⟨m0, m1, m2, m3, m4, m5, m6, m7⟩ := box8_facts hx1
      go_wp2_with fail
      refine (CC.out _).mono ?_
      rintro e w2 ⟨rfl, hc2⟩
      have hb2 := hb1.trans (hc2.mono hb1.size)
      clear m0 m1 m2 m3 m4 m5 m6 m7
      obtain ⟨hB2, hx2⟩ := HB.out w2 hb2
      obtain ⟨m0, m1, m2, m3, m4, m5, m6, m7⟩ := box8_facts hx2
      go_wp2_with fail
      go_ret
      exact ⟨ret_int HW.out.symm, hB2⟩
  · by_cases c0 : c < 0
    · have r1 : ¬ c = 0 := by omega
      have r2 : ¬ 0 ≤ c := by omega
      have HW := Lib.hid (HE.out (6) (by unfold errX kindX fldX isSpB; simp [r2]))
      have a0 : decide (c < 0) = true := decide_eq_true (by omega)
      clear HE c0 r1 r2
      go_enter Tryz.func49, Tryz.ntmps49
      go_wp2_with fail
      rw [← hW0]
      go_ret
      exact ⟨ret_int HW.out.symm, (HB.out W0 (Below.refl _ _)).1⟩
    have c1 : 0 ≤ c := by omega
    by_cases s0 : s = []
    rotate_left
    · rw [decide_eq_false s0] at hbe hbn
      have HW := Lib.hid (HE.out (6) (by unfold errX kindX fldX isSpB; simp [c1, s0]))
      have a0 : decide (c < 0) = false := decide_eq_false (by omega)
      clear HE c0 c1 s0
      go_enter Tryz.func49, Tryz.ntmps49
      go_wp2_with fail
      rw [← hW0]
      go_ret
      exact ⟨ret_int HW.out.symm, (HB.out W0 (Below.refl _ _)).1⟩
    rw [decide_eq_true s0] at hbe hbn
    by_cases n0 : n = 0
    rotate_left
    · skip
      have HW := Lib.hid (HE.out (6) (by unfold errX kindX fldX isSpB; simp [c1, s0, n0]))
      have a0 : decide (c < 0) = false := decide_eq_false (by omega)
      have a1 : (n != 0) = true := bne_iff_ne.2 n0
      clear HE c0 c1 s0 n0
      go_enter Tryz.func49, Tryz.ntmps49
      go_wp2_with fail
      rw [← hW0]
      go_ret
      exact ⟨ret_int HW.out.symm, (HB.out W0 (Below.refl _ _)).1⟩
    subst n0
    by_cases d0 : 200 < d
    · skip
      have HW := Lib.hid (HE.out (3) (by unfold errX kindX fldX isSpB; simp [c1, s0, d0]))
      have a0 : decide (c < 0) = false := decide_eq_false (by omega)
      have a1 : decide ((200 : Int) < d) = true := decide_eq_true (by omega)
      clear HE c0 c1 s0 d0
      go_enter Tryz.func49, Tryz.ntmps49
      go_wp2_with fail
      rw [← hW0]
      go_ret
      exact ⟨ret_int HW.out.symm, (HB.out W0 (Below.refl _ _)).1⟩
    by_cases z0 : chkE p = 0
    rotate_left
    · obtain ⟨z, hz⟩ : ∃ z, chkE p = z := ⟨_, rfl⟩
      rw [hz] at CC z0
      have HW := Lib.hid (HE.out (z) (by unfold errX kindX fldX isSpB; simp [c1, s0, d0, hz, z0]))
      have a0 : decide (c < 0) = false := decide_eq_false (by omega)
      have a1 : decide ((200 : Int) < d) = false := decide_eq_false (by omega)
      have a2 : (z != 0) = true := bne_iff_ne.2 z0
      clear HE c0 c1 s0 d0 hz z0
      go_enter Tryz.func49, Tryz.ntmps49
      go_wp2_with fail
      rw [← hW0]
      have hb0 := Below.refl W0.heap.size W0
      refine (CC.out _).mono ?_
      rintro e w1 ⟨rfl, hc1⟩
      have hb1 := hc1
      obtain ⟨hB1, hx1⟩ := HB.out w1 hb1
      obtain ⟨m0, m1, m2, m3, m4, m5, m6, m7⟩ := box8_facts hx1
      go_wp2_with fail
      go_ret
      exact ⟨ret_int HW.out.symm, hB1⟩
    rw [z0] at CC
    by_cases f0 : f < 0
    · have f1 : ¬ 0 ≤ f := by omega
      have HW := Lib.hid (HE.out (6) (by unfold errX kindX fldX isSpB; simp [c1, s0, d0, z0, f1]))
      have a0 : decide (c < 0) = false := decide_eq_false (by omega)
      have a1 : decide ((200 : Int) < d) = false := decide_eq_false (by omega)
      have a2 : decide (f < 0) = true := decide_eq_true (by omega)
      clear HE c0 c1 s0 d0 z0 f0 f1
      go_enter Tryz.func49, Tryz.ntmps49
      go_wp2_with fail
      rw [← hW0]
      have hb0 := Below.refl W0.heap.size W0
      refine (CC.out _).mono ?_
      rintro e w1 ⟨rfl, hc1⟩
      have hb1 := hc1
      obtain ⟨hB1, hx1⟩ := HB.out w1 hb1
      obtain ⟨m0, m1, m2, m3, m4, m5, m6, m7⟩ := box8_facts hx1
      go_wp2_with fail
      go_ret
      exact ⟨ret_int HW.out.symm, hB1⟩
    have f1 : 0 ≤ f := by omega
    by_cases t0 : t < f
    · have t1 : ¬ f ≤ t := by omega
      have HW := Lib.hid (HE.out (6) (by unfold errX kindX fldX isSpB; simp [c1, s0, d0, z0, f1, t1]))
      have a0 : decide (c < 0) = false := decide_eq_false (by omega)
      have a1 : decide ((200 : Int) < d) = false := decide_eq_false (by omega)
      have a2 : decide (f < 0) = false := decide_eq_false (by omega)
      have a3 : decide (t < f) = true := decide_eq_true (by omega)
      clear HE c0 c1 s0 d0 z0 f0 f1 t0 t1
      go_enter Tryz.func49, Tryz.ntmps49
      go_wp2_with fail
      rw [← hW0]
      have hb0 := Below.refl W0.heap.size W0
      refine (CC.out _).mono ?_
      rintro e w1 ⟨rfl, hc1⟩
      have hb1 := hc1
      obtain ⟨hB1, hx1⟩ := HB.out w1 hb1
      obtain ⟨m0, m1, m2, m3, m4, m5, m6, m7⟩ := box8_facts hx1
      go_wp2_with fail
      go_ret
      exact ⟨ret_int HW.out.symm, hB1⟩
    have t1 : f ≤ t := by omega
    by_cases o0 : o < 0
    · skip
      have HW := Lib.hid (HE.out (7) (by unfold errX kindX fldX isSpB; simp [c1, s0, d0, z0, f1, t1, o0]))
      have a0 : decide (c < 0) = false := decide_eq_false (by omega)
      have a1 : decide ((200 : Int) < d) = false := decide_eq_false (by omega)
      have a2 : decide (f < 0) = false := decide_eq_false (by omega)
      have a3 : decide (t < f) = false := decide_eq_false (by omega)
      have a4 : decide (o < 0) = true := decide_eq_true (by omega)
      clear HE c0 c1 s0 d0 z0 f0 f1 t0 t1 o0
      go_enter Tryz.func49, Tryz.ntmps49
      go_wp2_with fail
      rw [← hW0]
      have hb0 := Below.refl W0.heap.size W0
      refine (CC.out _).mono ?_
      rintro e w1 ⟨rfl, hc1⟩
      have hb1 := hc1
      obtain ⟨hB1, hx1⟩ := HB.out w1 hb1
      obtain ⟨m0, m1, m2, m3, m4, m5, m6, m7⟩ := box8_facts hx1
      go_wp2_with fail
      go_ret
      exact ⟨ret_int HW.out.symm, hB1⟩
    · skip
      have HW := Lib.hid (HE.out (0) (by unfold errX kindX fldX isSpB; simp [c1, s0, d0, z0, f1, t1, o0]))
      have a0 : decide (c < 0) = false := decide_eq_false (by omega)
      have a1 : decide ((200 : Int) < d) = false := decide_eq_false (by omega)
      have a2 : decide (f < 0) = false := decide_eq_false (by omega)
      have a3 : decide (t < f) = false := decide_eq_false (by omega)
      have a4 : decide (o < 0) = false := decide_eq_false (by omega)
      clear HE c0 c1 s0 d0 z0 f0 f1 t0 t1 o0
      go_enter Tryz.func49, Tryz.ntmps49
      go_wp2_with fail
      rw [← hW0]
      have hb0 := Below.refl W0.heap.size W0
      refine (CC.out _).mono ?_
      rintro e w1 ⟨rfl, hc1⟩
      have hb1 := hc1
      obtain ⟨hB1, hx1⟩ := HB.out w1 hb1
      obtain ⟨m0, m1, m2, m3, m4, m5, m6, m7⟩ := box8_facts hx1
      go_wp2_with fail
      go_ret
      exact ⟨ret_int HW.out.symm, hB1⟩
end Go.Proofs.YtbmgpenllpbioaaGreatDoor
