import Derived.Test.YtdiinlmeoifgjaaGreatDoorZr
import Derived.BigQuiet
import Derived.Deep.RegionHeld3
/- The reference of layer 10: one. (Written by tools/gen_yx.py.) -/
namespace Go.Proofs.YtdiinlmeoifgjaaGreatDoor
open Go.RowKit Go.PlainAid

set_option maxRecDepth 50000 in
set_option maxHeartbeats 12800000 in
theorem rone10_any (x : Sx) (d : Int) (w : World) (hp : x.p.length ≤ 100000) : Calls Tryz.prog 37 #[sxA x, .int .i64 d] w fun e w' => e = .returned (.int .i64 (errX x d)) ∧ Below w.heap.size w w' := by
  obtain ⟨k, c, n, s, p, f, t, o⟩ := x
  obtain ⟨W0, hW0⟩ : ∃ W0, W0 = w.alloc (.cells #[.int .i64 k, .int .i64 c, .int .i64 n, .string (str s), .string (str p), .int .i64 f, .int .i64 t, .int .i64 o] 38) := ⟨_, rfl⟩
  have hb0 : Below w.heap.size w W0 := by rw [hW0]; exact below_b1 _ _
  have hx0 : W0.heap[w.heap.size]? = some (.cells #[.int .i64 k, .int .i64 c, .int .i64 n, .string (str s), .string (str p), .int .i64 f, .int .i64 t, .int .i64 o] 38 (0, 0)) := by rw [hW0]; exact World.alloc_heap_new _ _
  have HB : Hid (∀ W, Below W0.heap.size W0 W → Below w.heap.size w W ∧ W.heap[w.heap.size]? = some (.cells #[.int .i64 k, .int .i64 c, .int .i64 n, .string (str s), .string (str p), .int .i64 f, .int .i64 t, .int .i64 o] 38 (0, 0))) := Lib.hid fun W hb =>
    ⟨hb0.trans (hb.mono hb0.size), (hb.block w.heap.size (Array.getElem?_eq_some_iff.1 hx0).1).trans hx0⟩
  have CS := Lib.hid (fun W => rsymbol_any s W)
  have CC := Lib.hid (fun W => rcheck9_any p W (by simp only at hp; omega))
  have HE : Hid (∀ r, errX ⟨k, c, n, s, p, f, t, o⟩ d = r → errX ⟨k, c, n, s, p, f, t, o⟩ d = r) := Lib.hid fun r h => h
  show Calls _ _ #[.agg #[.int .i64 k, .int .i64 c, .int .i64 n, .string (str s), .string (str p), .int .i64 f, .int .i64 t, .int .i64 o], _] _ _
  have hbe := emp_dec s
  have hbn : ((str s).toList != []) = !decide (s = []) := by rw [← hbe]; rfl
  obtain ⟨S, hS⟩ : ∃ S, str s = S := ⟨_, rfl⟩
  obtain ⟨P, hP⟩ : ∃ P, str p = P := ⟨_, rfl⟩
  rw [hS] at CS HB hW0 hbe hbn ⊢
  rw [hP] at CC HB hW0 ⊢
  clear hx0 hb0 hp hS hP
  by_cases k1 : k < 1
  · have r1 : ¬ k = 1 := by omega
    have r2 : ¬ k = 2 := by omega
    have r3 : ¬ k = 3 := by omega
    have r4 : ¬ k = 4 := by omega
    have HW := Lib.hid (HE.out (6) (by unfold errX kindX fldX isSpB; simp [r1, r2, r3, r4]))
    have a0 : decide (k < 1) = true := decide_eq_true (by omega)
    clear HE k1 r1 r2 r3 r4
    go_enter Tryz.func37, Tryz.ntmps37
    go_wp2_with fail
    rw [← hW0]
    go_ret
    exact ⟨ret_int HW.out.symm, (HB.out W0 (Below.refl _ _)).1⟩
  by_cases k4 : 4 < k
  · have r1 : ¬ k = 1 := by omega
    have r2 : ¬ k = 2 := by omega
    have r3 : ¬ k = 3 := by omega
    have r4 : ¬ k = 4 := by omega
    have HW := Lib.hid (HE.out (6) (by unfold errX kindX fldX isSpB; simp [r1, r2, r3, r4]))
    have a0 : decide (k < 1) = false := decide_eq_false (by omega)
    have a1 : decide ((4 : Int) < k) = true := decide_eq_true (by omega)
    clear HE k1 k4 r1 r2 r3 r4
    go_enter Tryz.func37, Tryz.ntmps37
    go_wp2_with fail
    rw [← hW0]
    go_ret
    exact ⟨ret_int HW.out.symm, (HB.out W0 (Below.refl _ _)).1⟩
  have hk : k = 1 ∨ k = 2 ∨ k = 3 ∨ k = 4 := by omega
  clear k1 k4
  rcases hk with rfl | rfl | rfl | rfl
  · by_cases c0 : c < 0
    · have r1 : ¬ c = 0 := by omega
      have r2 : ¬ 0 ≤ c := by omega
      have HW := Lib.hid (HE.out (6) (by unfold errX kindX fldX isSpB; simp [r1]))
      have a0 : decide (c < 0) = true := decide_eq_true (by omega)
      clear HE c0 r1 r2
      go_enter Tryz.func37, Tryz.ntmps37
      go_wp2_with fail
      rw [← hW0]
      go_ret
      exact ⟨ret_int HW.out.symm, (HB.out W0 (Below.refl _ _)).1⟩
    by_cases c1 : c = 0
    rotate_left
    · skip
      have HW := Lib.hid (HE.out (6) (by unfold errX kindX fldX isSpB; simp [c1]))
      have a0 : decide (c < 0) = false := decide_eq_false (by omega)
      have a1 : (c != 0) = true := bne_iff_ne.2 c1
      clear HE c0 c1
      go_enter Tryz.func37, Tryz.ntmps37
      go_wp2_with fail
      rw [← hW0]
      go_ret
      exact ⟨ret_int HW.out.symm, (HB.out W0 (Below.refl _ _)).1⟩
    subst c1
    clear c0
    by_cases s0 : s = []
    rotate_left
    · rw [decide_eq_false s0] at hbe hbn
      have HW := Lib.hid (HE.out (6) (by unfold errX kindX fldX isSpB; simp [s0]))
      clear HE s0
      go_enter Tryz.func37, Tryz.ntmps37
      go_wp2_with fail
      rw [← hW0]
      go_ret
      exact ⟨ret_int HW.out.symm, (HB.out W0 (Below.refl _ _)).1⟩
    rw [decide_eq_true s0] at hbe hbn
    by_cases d0 : 200 < d
    · skip
      have HW := Lib.hid (HE.out (3) (by unfold errX kindX fldX isSpB; simp [s0, d0]))
      have a0 : decide ((200 : Int) < d) = true := decide_eq_true (by omega)
      clear HE s0 d0
      go_enter Tryz.func37, Tryz.ntmps37
      go_wp2_with fail
      rw [← hW0]
      go_ret
      exact ⟨ret_int HW.out.symm, (HB.out W0 (Below.refl _ _)).1⟩
    by_cases z0 : chkE p = 0
    rotate_left
    · obtain ⟨z, hz⟩ : ∃ z, chkE p = z := ⟨_, rfl⟩
      rw [hz] at CC z0
      have HW := Lib.hid (HE.out (z) (by unfold errX kindX fldX isSpB; simp [s0, d0, hz, z0]))
      have a0 : decide ((200 : Int) < d) = false := decide_eq_false (by omega)
      have a1 : (z != 0) = true := bne_iff_ne.2 z0
      clear HE s0 d0 hz z0
      go_enter Tryz.func37, Tryz.ntmps37
      go_wp2_with fail
      rw [← hW0]
      have hb0 := Below.refl W0.heap.size W0
      refine (CC.out _).mono ?_
      rintro e w1 ⟨rfl, hc1⟩
      have hb1 := hc1
      obtain ⟨hB1, hx1⟩ := HB.out w1 hb1
      obtain ⟨m0, m1, m2, m3, m4, m5, m6, m7⟩ := box8_facts hx1
      go_wp2_with fail
      go_ret
      exact ⟨ret_int HW.out.symm, hB1⟩
    rw [z0] at CC
    by_cases f0 : f < 0
    · have f1 : ¬ 0 ≤ f := by omega
      have HW := Lib.hid (HE.out (6) (by unfold errX kindX fldX isSpB; simp [s0, d0, z0, f1]))
      have a0 : decide ((200 : Int) < d) = false := decide_eq_false (by omega)
      have a1 : decide (f < 0) = true := decide_eq_true (by omega)
      clear HE s0 d0 z0 f0 f1
      go_enter Tryz.func37, Tryz.ntmps37
      go_wp2_with fail
      rw [← hW0]
      have hb0 := Below.refl W0.heap.size W0
      refine (CC.out _).mono ?_
      rintro e w1 ⟨rfl, hc1⟩
      have hb1 := hc1
      obtain ⟨hB1, hx1⟩ := HB.out w1 hb1
      obtain ⟨m0, m1, m2, m3, m4, m5, m6, m7⟩ := box8_facts hx1
      go_wp2_with fail
      go_ret
      exact ⟨ret_int HW.out.symm, hB1⟩
    have f1 : 0 ≤ f := by omega
    by_cases t0 : t < f
    · have t1 : ¬ f ≤ t := by omega
      have HW := Lib.hid (HE.out (6) (by unfold errX kindX fldX isSpB; simp [s0, d0, z0, f1, t1]))
      have a0 : decide ((200 : Int) < d) = false := decide_eq_false (by omega)
      have a1 : decide (f < 0) = false := decide_eq_false (by omega)
      have a2 : decide (t < f) = true := decide_eq_true (by omega)
      clear HE s0 d0 z0 f0 f1 t0 t1
      go_enter Tryz.func37, Tryz.ntmps37
      go_wp2_with fail
      rw [← hW0]
      have hb0 := Below.refl W0.heap.size W0
      refine (CC.out _).mono ?_
      rintro e w1 ⟨rfl, hc1⟩
      have hb1 := hc1
      obtain ⟨hB1, hx1⟩ := HB.out w1 hb1
      obtain ⟨m0, m1, m2, m3, m4, m5, m6, m7⟩ := box8_facts hx1
      go_wp2_with fail
      go_ret
      exact ⟨ret_int HW.out.symm, hB1⟩
    have t1 : f ≤ t := by omega
    by_cases o0 : o < 0
    · skip
      have HW := Lib.hid (HE.out (7) (by unfold errX kindX fldX isSpB; simp [s0, d0, z0, f1, t1, o0]))
      have a0 : decide ((200 : Int) < d) = false := decide_eq_false (by omega)
      have a1 : decide (f < 0) = false := decide_eq_false (by omega)
      have a2 : decide (t < f) = false := decide_eq_false (by omega)
      have a3 : decide (o < 0) = true := decide_eq_true (by omega)
      clear HE s0 d0 z0 f0 f1 t0 t1 o0
      go_enter Tryz.func37, Tryz.ntmps37
      go_wp2_with fail
      rw [← hW0]
      have hb0 := Below.refl W0.heap.size W0
      refine (CC.out _).mono ?_
      rintro e w1 ⟨rfl, hc1⟩
      have hb1 := hc1
      obtain ⟨hB1, hx1⟩ := HB.out w1 hb1
      obtain ⟨m0, m1, m2, m3, m4, m5, m6, m7⟩ := box8_facts hx1
      go_wp2_with fail
      go_ret
      exact ⟨ret_int HW.out.symm, hB1⟩
    · skip
      have HW := Lib.hid (HE.out (0) (by unfold errX kindX fldX isSpB; simp [s0, d0, z0, f1, t1, o0]))
      have a0 : decide ((200 : Int) < d) = false := decide_eq_false (by omega)
      have a1 : decide (f < 0) = false := decide_eq_false (by omega)
      have a2 : decide (t < f) = false := decide_eq_false (by omega)
      have a3 : decide (o < 0) = false := decide_eq_false (by omega)
      clear HE s0 d0 z0 f0 f1 t0 t1 o0
      go_enter Tryz.func37, Tryz.ntmps37
      go_wp2_with fail
      rw [← hW0]
      have hb0 := Below.refl W0.heap.size W0
      refine (CC.out _).mono ?_
      rintro e w1 ⟨rfl, hc1⟩
      have hb1 := hc1
      obtain ⟨hB1, hx1⟩ := HB.out w1 hb1
      obtain ⟨m0, m1, m2, m3, m4, m5, m6, m7⟩ := box8_facts hx1
      go_wp2_with fail
      go_ret
      exact ⟨ret_int HW.out.symm, hB1⟩
  · by_cases c0 : c < 0
    · have r1 : ¬ c = 0 := by omega
      have r2 : ¬ 0 ≤ c := by omega
      have HW := Lib.hid (HE.out (6) (by unfold errX kindX fldX isSpB; simp [r1]))
      have a0 : decide (c < 0) = true := decide_eq_true (by omega)
      clear HE c0 r1 r2
      go_enter Tryz.func37, Tryz.ntmps37
      go_wp2_with fail
      rw [← hW0]
      go_ret
      exact ⟨ret_int HW.out.symm, (HB.out W0 (Below.refl _ _)).1⟩
    by_cases c1 : c = 0
    rotate_left
    · skip
      have HW := Lib.hid (HE.out (6) (by unfold errX kindX fldX isSpB; simp [c1]))
      have a0 : decide (c < 0) = false := decide_eq_false (by omega)
      have a1 : (c != 0) = true := bne_iff_ne.2 c1
      clear HE c0 c1
      go_enter Tryz.func37, Tryz.ntmps37
      go_wp2_with fail
      rw [← hW0]
      go_ret
      exact ⟨ret_int HW.out.symm, (HB.out W0 (Below.refl _ _)).1⟩
    subst c1
    clear c0
    by_cases s0 : s = []
    rotate_left
    · rw [decide_eq_false s0] at hbe hbn
      have HW := Lib.hid (HE.out (6) (by unfold errX kindX fldX isSpB; simp [s0]))
      clear HE s0
      go_enter Tryz.func37, Tryz.ntmps37
      go_wp2_with fail
      rw [← hW0]
      go_ret
      exact ⟨ret_int HW.out.symm, (HB.out W0 (Below.refl _ _)).1⟩
    rw [decide_eq_true s0] at hbe hbn
    by_cases d0 : 200 < d
    · skip
      have HW := Lib.hid (HE.out (3) (by unfold errX kindX fldX isSpB; simp [s0, d0]))
      have a0 : decide ((200 : Int) < d) = true := decide_eq_true (by omega)
      clear HE s0 d0
      go_enter Tryz.func37, Tryz.ntmps37
      go_wp2_with fail
      rw [← hW0]
      go_ret
      exact ⟨ret_int HW.out.symm, (HB.out W0 (Below.refl _ _)).1⟩
    by_cases n2 : n ≠ 0 ∧ n ≠ 1
    · obtain ⟨n3, n4⟩ := n2
      have HW := Lib.hid (HE.out (7) (by unfold errX kindX fldX isSpB; simp [s0, d0, n3, n4]))
      have a0 : decide ((200 : Int) < d) = false := decide_eq_false (by omega)
      have a1 : (n != 0) = true := bne_iff_ne.2 n3
      have a2 : (n != 1) = true := bne_iff_ne.2 n4
      clear HE s0 d0 n3 n4
      go_enter Tryz.func37, Tryz.ntmps37
      go_wp2_with fail
      rw [← hW0]
      go_ret
      exact ⟨ret_int HW.out.symm, (HB.out W0 (Below.refl _ _)).1⟩
    have n5 : n = 0 ∨ n = 1 := by omega
    clear n2
    rcases n5 with rfl | rfl
    · skip
      by_cases z0 : chkE p = 0
      rotate_left
      · obtain ⟨z, hz⟩ : ∃ z, chkE p = z := ⟨_, rfl⟩
        rw [hz] at CC z0
        have HW := Lib.hid (HE.out (z) (by unfold errX kindX fldX isSpB; simp [s0, d0, hz, z0]))
        have a0 : decide ((200 : Int) < d) = false := decide_eq_false (by omega)
        have a1 : (z != 0) = true := bne_iff_ne.2 z0
        clear HE s0 d0 hz z0
        go_enter Tryz.func37, Tryz.ntmps37
        go_wp2_with fail
        rw [← hW0]
        have hb0 := Below.refl W0.heap.size W0
        refine (CC.out _).mono ?_
        rintro e w1 ⟨rfl, hc1⟩
        have hb1 := hc1
        obtain ⟨hB1, hx1⟩ := HB.out w1 hb1
        obtain ⟨m0, m1, m2, m3, m4, m5, m6, m7⟩ := box8_facts hx1
        go_wp2_with fail
        go_ret
        exact ⟨ret_int HW.out.symm, hB1⟩
      rw [z0] at CC
      by_cases f0 : f < 0
      · have f1 : ¬ 0 ≤ f := by omega
        have HW := Lib.hid (HE.out (6) (by unfold errX kindX fldX isSpB; simp [s0, d0, z0, f1]))
        have a0 : decide ((200 : Int) < d) = false := decide_eq_false (by omega)
        have a1 : decide (f < 0) = true := decide_eq_true (by omega)
        clear HE s0 d0 z0 f0 f1
        go_enter Tryz.func37, Tryz.ntmps37
        go_wp2_with fail
        rw [← hW0]
        have hb0 := Below.refl W0.heap.size W0
        refine (CC.out _).mono ?_
        rintro e w1 ⟨rfl, hc1⟩
        have hb1 := hc1
        obtain ⟨hB1, hx1⟩ := HB.out w1 hb1
        obtain ⟨m0, m1, m2, m3, m4, m5, m6, m7⟩ := box8_facts hx1
        go_wp2_with fail
        go_ret
        exact ⟨ret_int HW.out.symm, hB1⟩
      have f1 : 0 ≤ f := by omega
      by_cases t0 : t < f
      · have t1 : ¬ f ≤ t := by omega
        have HW := Lib.hid (HE.out (6) (by unfold errX kindX fldX isSpB; simp [s0, d0, z0, f1, t1]))
        have a0 : decide ((200 : Int) < d) = false := decide_eq_false (by omega)
        have a1 : decide (f < 0) = false := decide_eq_false (by omega)
        have a2 : decide (t < f) = true := decide_eq_true (by omega)
        clear HE s0 d0 z0 f0 f1 t0 t1
        go_enter Tryz.func37, Tryz.ntmps37
        go_wp2_with fail
        rw [← hW0]
        have hb0 := Below.refl W0.heap.size W0
        refine (CC.out _).mono ?_
        rintro e w1 ⟨rfl, hc1⟩
        have hb1 := hc1
        obtain ⟨hB1, hx1⟩ := HB.out w1 hb1
        obtain ⟨m0, m1, m2, m3, m4, m5, m6, m7⟩ := box8_facts hx1
        go_wp2_with fail
        go_ret
        exact ⟨ret_int HW.out.symm, hB1⟩
      have t1 : f ≤ t := by omega
      by_cases o0 : o < 0
      · skip
        have HW := Lib.hid (HE.out (7) (by unfold errX kindX fldX isSpB; simp [s0, d0, z0, f1, t1, o0]))
        have a0 : decide ((200 : Int) < d) = false := decide_eq_false (by omega)
        have a1 : decide (f < 0) = false := decide_eq_false (by omega)
        have a2 : decide (t < f) = false := decide_eq_false (by omega)
        have a3 : decide (o < 0) = true := decide_eq_true (by omega)
        clear HE s0 d0 z0 f0 f1 t0 t1 o0
        go_enter Tryz.func37, Tryz.ntmps37
        go_wp2_with fail
        rw [← hW0]
        have hb0 := Below.refl W0.heap.size W0
        refine (CC.out _).mono ?_
        rintro e w1 ⟨rfl, hc1⟩
        have hb1 := hc1
        obtain ⟨hB1, hx1⟩ := HB.out w1 hb1
        obtain ⟨m0, m1, m2, m3, m4, m5, m6, m7⟩ := box8_facts hx1
        go_wp2_with fail
        go_ret
        exact ⟨ret_int HW.out.symm, hB1⟩
      · skip
        have HW := Lib.hid (HE.out (0) (by unfold errX kindX fldX isSpB; simp [s0, d0, z0, f1, t1, o0]))
        have a0 : decide ((200 : Int) < d) = false := decide_eq_false (by omega)
        have a1 : decide (f < 0) = false := decide_eq_false (by omega)
        have a2 : decide (t < f) = false := decide_eq_false (by omega)
        have a3 : decide (o < 0) = false := decide_eq_false (by omega)
        clear HE s0 d0 z0 f0 f1 t0 t1 o0
        go_enter Tryz.func37, Tryz.ntmps37
        go_wp2_with fail
        rw [← hW0]
        have hb0 := Below.refl W0.heap.size W0
        refine (CC.out _).mono ?_
        rintro e w1 ⟨rfl, hc1⟩
        have hb1 := hc1
        obtain ⟨hB1, hx1⟩ := HB.out w1 hb1
        obtain ⟨m0, m1, m2, m3, m4, m5, m6, m7⟩ := box8_facts hx1
        go_wp2_with fail
        go_ret
        exact ⟨ret_int HW.out.symm, hB1⟩
    · skip
      by_cases z0 : chkE p = 0
      rotate_left
      · obtain ⟨z, hz⟩ : ∃ z, chkE p = z := ⟨_, rfl⟩
        rw [hz] at CC z0
        have HW := Lib.hid (HE.out (z) (by unfold errX kindX fldX isSpB; simp [s0, d0, hz, z0]))
        have a0 : decide ((200 : Int) < d) = false := decide_eq_false (by omega)
        have a1 : (z != 0) = true := bne_iff_ne.2 z0
        clear HE s0 d0 hz z0
        go_enter Tryz.func37, Tryz.ntmps37
        go_wp2_with fail
        rw [← hW0]
        have hb0 := Below.refl W0.heap.size W0
        refine (CC.out _).mono ?_
        rintro e w1 ⟨rfl, hc1⟩
        have hb1 := hc1
        obtain ⟨hB1, hx1⟩ := HB.out w1 hb1
        obtain ⟨m0, m1, m2, m3, m4, m5, m6, m7⟩ := box8_facts hx1
        go_wp2_with fail
        go_ret
        exact ⟨ret_int HW.out.symm, hB1⟩
      rw [z0] at CC
      by_cases f0 : f < 0
      · have f1 : ¬ 0 ≤ f := by omega
        have HW := Lib.hid (HE.out (6) (by unfold errX kindX fldX isSpB; simp [s0, d0, z0, f1]))
        have a0 : decide ((200 : Int) < d) = false := decide_eq_false (by omega)
        have a1 : decide (f < 0) = true := decide_eq_true (by omega)
        clear HE s0 d0 z0 f0 f1
        go_enter Tryz.func37, Tryz.ntmps37
        go_wp2_with fail
        rw [← hW0]
        have hb0 := Below.refl W0.heap.size W0
        refine (CC.out _).mono ?_
        rintro e w1 ⟨rfl, hc1⟩
        have hb1 := hc1
        obtain ⟨hB1, hx1⟩ := HB.out w1 hb1
        obtain ⟨m0, m1, m2, m3, m4, m5, m6, m7⟩ := box8_facts hx1
        go_wp2_with fail
        go_ret
        exact ⟨ret_int HW.out.symm, hB1⟩
      have f1 : 0 ≤ f := by omega
      by_cases t0 : t < f
      · have t1 : ¬ f ≤ t := by omega
        have HW := Lib.hid (HE.out (6) (by unfold errX kindX fldX isSpB; simp [s0, d0, z0, f1, t1]))
        have a0 : decide ((200 : Int) < d) = false := decide_eq_false (by omega)
        have a1 : decide (f < 0) = false := decide_eq_false (by omega)
        have a2 : decide (t < f) = true := decide_eq_true (by omega)
        clear HE s0 d0 z0 f0 f1 t0 t1
        go_enter Tryz.func37, Tryz.ntmps37
        go_wp2_with fail
        rw [← hW0]
        have hb0 := Below.refl W0.heap.size W0
        refine (CC.out _).mono ?_
        rintro e w1 ⟨rfl, hc1⟩
        have hb1 := hc1
        obtain ⟨hB1, hx1⟩ := HB.out w1 hb1
        obtain ⟨m0, m1, m2, m3, m4, m5, m6, m7⟩ := box8_facts hx1
        go_wp2_with fail
        go_ret
        exact ⟨ret_int HW.out.symm, hB1⟩
      have t1 : f ≤ t := by omega
      by_cases o0 : o < 0
      · skip
        have HW := Lib.hid (HE.out (7) (by unfold errX kindX fldX isSpB; simp [s0, d0, z0, f1, t1, o0]))
        have a0 : decide ((200 : Int) < d) = false := decide_eq_false (by omega)
        have a1 : decide (f < 0) = false := decide_eq_false (by omega)
        have a2 : decide (t < f) = false := decide_eq_false (by omega)
        have a3 : decide (o < 0) = true := decide_eq_true (by omega)
        clear HE s0 d0 z0 f0 f1 t0 t1 o0
        go_enter Tryz.func37, Tryz.ntmps37
        go_wp2_with fail
        rw [← hW0]
        have hb0 := Below.refl W0.heap.size W0
        refine (CC.out _).mono ?_
        rintro e w1 ⟨rfl, hc1⟩
        have hb1 := hc1
        obtain ⟨hB1, hx1⟩ := HB.out w1 hb1
        obtain ⟨m0, m1, m2, m3, m4, m5, m6, m7⟩ := box8_facts hx1
        go_wp2_with fail
        go_ret
        exact ⟨ret_int HW.out.symm, hB1⟩
      · skip
        have HW := Lib.hid (HE.out (0) (by unfold errX kindX fldX isSpB; simp [s0, d0, z0, f1, t1, o0]))
        have a0 : decide ((200 : Int) < d) = false := decide_eq_false (by omega)
        have a1 : decide (f < 0) = false := decide_eq_false (by omega)
        have a2 : decide (t < f) = false := decide_eq_false (by omega)
        have a3 : decide (o < 0) = false := decide_eq_false (by omega)
        clear HE s0 d0 z0 f0 f1 t0 t1 o0
        go_enter Tryz.func37, Tryz.ntmps37
        go_wp2_with fail
        rw [← hW0]
        have hb0 := Below.refl W0.heap.size W0
        refine (CC.out _).mono ?_
        rintro e w1 ⟨rfl, hc1⟩
        have hb1 := hc1
        obtain ⟨hB1, hx1⟩ := HB.out w1 hb1
        obtain ⟨m0, m1, m2, m3, m4, m5, m6, m7⟩ := box8_facts hx1
        go_wp2_with fail
        go_ret
        exact ⟨ret_int HW.out.symm, hB1⟩
  · by_cases c0 : c < 0
    · have r1 : ¬ c = 0 := by omega
      have r2 : ¬ 0 ≤ c := by omega
      have HW := Lib.hid (HE.out (6) (by unfold errX kindX fldX isSpB; simp [r1]))
      have a0 : decide (c < 0) = true := decide_eq_true (by omega)
      clear HE c0 r1 r2
      go_enter Tryz.func37, Tryz.ntmps37
      go_wp2_with fail
      rw [← hW0]
      go_ret
      exact ⟨ret_int HW.out.symm, (HB.out W0 (Below.refl _ _)).1⟩
    by_cases c1 : c = 0
    rotate_left
    · skip
      have HW := Lib.hid (HE.out (6) (by unfold errX kindX fldX isSpB; simp [c1]))
      have a0 : decide (c < 0) = false := decide_eq_false (by omega)
      have a1 : (c != 0) = true := bne_iff_ne.2 c1
      clear HE c0 c1
      go_enter Tryz.func37, Tryz.ntmps37
      go_wp2_with fail
      rw [← hW0]
      go_ret
      exact ⟨ret_int HW.out.symm, (HB.out W0 (Below.refl _ _)).1⟩
    subst c1
    clear c0
    by_cases n0 : n = 0
    rotate_left
    · skip
      have HW := Lib.hid (HE.out (6) (by unfold errX kindX fldX isSpB; simp [n0]))
      have a0 : (n != 0) = true := bne_iff_ne.2 n0
      clear HE n0
      go_enter Tryz.func37, Tryz.ntmps37
      go_wp2_with fail
      rw [← hW0]
      go_ret
      exact ⟨ret_int HW.out.symm, (HB.out W0 (Below.refl _ _)).1⟩
    subst n0
    by_cases d0 : 200 < d
    · skip
      have HW := Lib.hid (HE.out (3) (by unfold errX kindX fldX isSpB; simp [d0]))
      have a0 : decide ((200 : Int) < d) = true := decide_eq_true (by omega)
      clear HE d0
      go_enter Tryz.func37, Tryz.ntmps37
      go_wp2_with fail
      rw [← hW0]
      go_ret
      exact ⟨ret_int HW.out.symm, (HB.out W0 (Below.refl _ _)).1⟩
    by_cases y0 : symS s = true
    rotate_left
    · rw [Bool.not_eq_true] at y0
      rw [y0] at CS
      have HW := Lib.hid (HE.out (6) (by unfold errX kindX fldX isSpB; simp [d0, y0]))
      have a0 : decide ((200 : Int) < d) = false := decide_eq_false (by omega)
      clear HE d0 y0
      go_enter Tryz.func37, Tryz.ntmps37
      go_wp2_with fail
      rw [← hW0]
      have hb0 := Below.refl W0.heap.size W0
      refine (CS.out _).mono ?_
      rintro e w1 ⟨rfl, hc1⟩
      have hb1 := hc1
      obtain ⟨hB1, hx1⟩ := HB.out w1 hb1
      obtain ⟨m0, m1, m2, m3, m4, m5, m6, m7⟩ := box8_facts hx1
      go_wp2_with fail
      go_ret
      exact ⟨ret_int HW.out.symm, hB1⟩
    rw [y0] at CS
    by_cases z0 : chkE p = 0
    rotate_left
    · obtain ⟨z, hz⟩ : ∃ z, chkE p = z := ⟨_, rfl⟩
      rw [hz] at CC z0
      have HW := Lib.hid (HE.out (z) (by unfold errX kindX fldX isSpB; simp [d0, y0, hz, z0]))
      have a0 : decide ((200 : Int) < d) = false := decide_eq_false (by omega)
      have a1 : (z != 0) = true := bne_iff_ne.2 z0
      clear HE d0 y0 hz z0
      go_enter Tryz.func37, Tryz.ntmps37
      go_wp2_with fail
      rw [← hW0]
      have hb0 := Below.refl W0.heap.size W0
      refine (CS.out _).mono ?_
      rintro e w1 ⟨rfl, hc1⟩
      have hb1 := hc1
      obtain ⟨hB1, hx1⟩ := HB.out w1 hb1
      obtain ⟨m0, m1, m2, m3, m4, m5, m6, m7⟩ := box8_facts hx1
      go_wp2_with fail
      refine (CC.out _).mono ?_
      rintro e w2 ⟨rfl, hc2⟩
      have hb2 := hb1.trans (hc2.mono hb1.size)
      clear m0 m1 m2 m3 m4 m5 m6 m7
      obtain ⟨hB2, hx2⟩ := HB.out w2 hb2
      obtain ⟨m0, m1, m2, m3, m4, m5, m6, m7⟩ := box8_facts hx2
      go_wp2_with fail
      go_ret
      exact ⟨ret_int HW.out.symm, hB2⟩
    rw [z0] at CC
    by_cases f0 : f < 0
    · have f1 : ¬ 0 ≤ f := by omega
      have HW := Lib.hid (HE.out (6) (by unfold errX kindX fldX isSpB; simp [d0, y0, z0, f1]))
      have a0 : decide ((200 : Int) < d) = false := decide_eq_false (by omega)
      have a1 : decide (f < 0) = true := decide_eq_true (by omega)
      clear HE d0 y0 z0 f0 f1
      go_enter Tryz.func37, Tryz.ntmps37
      go_wp2_with fail
      rw [← hW0]
      have hb0 := Below.refl W0.heap.size W0
      refine (CS.out _).mono ?_
      rintro e w1 ⟨rfl, hc1⟩
      have hb1 := hc1
      obtain ⟨hB1, hx1⟩ := HB.out w1 hb1
      obtain ⟨m0, m1, m2, m3, m4, m5, m6, m7⟩ := box8_facts hx1
      go_wp2_with fail
      refine (CC.out _).mono ?_
      rintro e w2 ⟨rfl, hc2⟩
      have hb2 := hb1.trans (hc2.mono hb1.size)
      clear m0 m1 m2 m3 m4 m5 m6 m7
      obtain ⟨hB2, hx2⟩ := HB.out w2 hb2
      obtain ⟨m0, m1, m2, m3, m4, m5, m6, m7⟩ := box8_facts hx2
      go_wp2_with fail
      go_ret
      exact ⟨ret_int HW.out.symm, hB2⟩
    have f1 : 0 ≤ f := by omega
    by_cases t0 : t < f
    · have t1 : ¬ f ≤ t := by omega
      have HW := Lib.hid (HE.out (6) (by unfold errX kindX fldX isSpB; simp [d0, y0, z0, f1, t1]))
      have a0 : decide ((200 : Int) < d) = false := decide_eq_false (by omega)
      have a1 : decide (f < 0) = false := decide_eq_false (by omega)
      have a2 : decide (t < f) = true := decide_eq_true (by omega)
      clear HE d0 y0 z0 f0 f1 t0 t1
      go_enter Tryz.func37, Tryz.ntmps37
      go_wp2_with fail
      rw [← hW0]
      have hb0 := Below.refl W0.heap.size W0
      refine (CS.out _).mono ?_
      rintro e w1 ⟨rfl, hc1⟩
      have hb1 := hc1
      obtain ⟨hB1, hx1⟩ := HB.out w1 hb1
      obtain ⟨m0, m1, m2, m3, m4, m5, m6, m7⟩ := box8_facts hx1
      go_wp2_with fail
      refine (CC.out _).mono ?_
      rintro e w2 ⟨rfl, hc2⟩
      have hb2 := hb1.trans (hc2.mono hb1.size)
      clear m0 m1 m2 m3 m4 m5 m6 m7
      obtain ⟨hB2, hx2⟩ := HB.out w2 hb2
      obtain ⟨m0, m1, m2, m3, m4, m5, m6, m7⟩ := box8_facts hx2
      go_wp2_with fail
      go_ret
      exact ⟨ret_int HW.out.symm, hB2⟩
    have t1 : f ≤ t := by omega
    by_cases o0 : o < 0
    · skip
      have HW := Lib.hid (HE.out (7) (by unfold errX kindX fldX isSpB; simp [d0, y0, z0, f1, t1, o0]))
      have a0 : decide ((200 : Int) < d) = false := decide_eq_false (by omega)
      have a1 : decide (f < 0) = false := decide_eq_false (by omega)
      have a2 : decide (t < f) = false := decide_eq_false (by omega)
      have a3 : decide (o < 0) = true := decide_eq_true (by omega)
      clear HE d0 y0 z0 f0 f1 t0 t1 o0
      go_enter Tryz.func37, Tryz.ntmps37
      go_wp2_with fail
      rw [← hW0]
      have hb0 := Below.refl W0.heap.size W0
      refine (CS.out _).mono ?_
      rintro e w1 ⟨rfl, hc1⟩
      have hb1 := hc1
      obtain ⟨hB1, hx1⟩ := HB.out w1 hb1
      obtain ⟨m0, m1, m2, m3, m4, m5, m6, m7⟩ := box8_facts hx1
      go_wp2_with fail
      refine (CC.out _).mono ?_
      rintro e w2 ⟨rfl, hc2⟩
      have hb2 := hb1.trans (hc2.mono hb1.size)
      clear m0 m1 m2 m3 m4 m5 m6 m7
      obtain ⟨hB2, hx2⟩ := HB.out w2 hb2
      obtain ⟨m0, m1, m2, m3, m4, m5, m6, m7⟩ := box8_facts hx2
      go_wp2_with fail
      go_ret
      exact ⟨ret_int HW.out.symm, hB2⟩
    · skip
      have HW := Lib.hid (HE.out (0) (by unfold errX kindX fldX isSpB; simp [d0, y0, z0, f1, t1, o0]))
      have a0 : decide ((200 : Int) < d) = false := decide_eq_false (by omega)
      have a1 : decide (f < 0) = false := decide_eq_false (by omega)
      have a2 : decide (t < f) = false := decide_eq_false (by omega)
      have a3 : decide (o < 0) = false := decide_eq_false (by omega)
      clear HE d0 y0 z0 f0 f1 t0 t1 o0
      go_enter Tryz.func37, Tryz.ntmps37
      go_wp2_with fail
      rw [← hW0]
      have hb0 := Below.refl W0.heap.size W0
      refine (CS.out _).mono ?_
      rintro e w1 ⟨rfl, hc1⟩
      have hb1 := hc1
      obtain ⟨hB1, hx1⟩ := HB.out w1 hb1
      obtain ⟨m0, m1, m2, m3, m4, m5, m6, m7⟩ := box8_facts hx1
      go_wp2_with fail
      refine (CC.out _).mono ?_
      rintro e w2 ⟨rfl, hc2⟩
      have hb2 := hb1.trans (hc2.mono hb1.size)
      clear m0 m1 m2 m3 m4 m5 m6 m7
      obtain ⟨hB2, hx2⟩ := HB.out w2 hb2
      obtain ⟨m0, m1, m2, m3, m4, m5, m6, m7⟩ := box8_facts hx2
      go_wp2_with fail
      go_ret
      exact ⟨ret_int HW.out.symm, hB2⟩
  · by_cases c0 : c < 0
    · have r1 : ¬ c = 0 := by omega
      have r2 : ¬ 0 ≤ c := by omega
      have HW := Lib.hid (HE.out (6) (by unfold errX kindX fldX isSpB; simp [r2]))
      have a0 : decide (c < 0) = true := decide_eq_true (by omega)
      clear HE c0 r1 r2
      go_enter Tryz.func37, Tryz.ntmps37
      go_wp2_with fail
      rw [← hW0]
      go_ret
      exact ⟨ret_int HW.out.symm, (HB.out W0 (Below.refl _ _)).1⟩
    have c1 : 0 ≤ c := by omega
    by_cases s0 : s = []
    rotate_left
    · rw [decide_eq_false s0] at hbe hbn
      have HW := Lib.hid (HE.out (6) (by unfold errX kindX fldX isSpB; simp [c1, s0]))
      have a0 : decide (c < 0) = false := decide_eq_false (by omega)
      clear HE c0 c1 s0
      go_enter Tryz.func37, Tryz.ntmps37
      go_wp2_with fail
      rw [← hW0]
      go_ret
      exact ⟨ret_int HW.out.symm, (HB.out W0 (Below.refl _ _)).1⟩
    rw [decide_eq_true s0] at hbe hbn
    by_cases n0 : n = 0
    rotate_left
    · skip
      have HW := Lib.hid (HE.out (6) (by unfold errX kindX fldX isSpB; simp [c1, s0, n0]))
      have a0 : decide (c < 0) = false := decide_eq_false (by omega)
      have a1 : (n != 0) = true := bne_iff_ne.2 n0
      clear HE c0 c1 s0 n0
      go_enter Tryz.func37, Tryz.ntmps37
      go_wp2_with fail
      rw [← hW0]
      go_ret
      exact ⟨ret_int HW.out.symm, (HB.out W0 (Below.refl _ _)).1⟩
    subst n0
    by_cases d0 : 200 < d
    · skip
      have HW := Lib.hid (HE.out (3) (by unfold errX kindX fldX isSpB; simp [c1, s0, d0]))
      have a0 : decide (c < 0) = false := decide_eq_false (by omega)
      have a1 : decide ((200 : Int) < d) = true := decide_eq_true (by omega)
      clear HE c0 c1 s0 d0
      go_enter Tryz.func37, Tryz.ntmps37
      go_wp2_with fail
      rw [← hW0]
      go_ret
      exact ⟨ret_int HW.out.symm, (HB.out W0 (Below.refl _ _)).1⟩
    by_cases z0 : chkE p = 0
    rotate_left
    · obtain ⟨z, hz⟩ : ∃ z, chkE p = z := ⟨_, rfl⟩
      rw [hz] at CC z0
      have HW := Lib.hid (HE.out (z) (by unfold errX kindX fldX isSpB; simp [c1, s0, d0, hz, z0]))
      have a0 : decide (c < 0) = false := decide_eq_false (by omega)
      have a1 : decide ((200 : Int) < d) = false := decide_eq_false (by omega)
      have a2 : (z != 0) = true := bne_iff_ne.2 z0
      clear HE c0 c1 s0 d0 hz z0
      go_enter Tryz.func37, Tryz.ntmps37
      go_wp2_with fail
      rw [← hW0]
      have hb0 := Below.refl W0.heap.size W0
      refine (CC.out _).mono ?_
      rintro e w1 ⟨rfl, hc1⟩
      have hb1 := hc1
      obtain ⟨hB1, hx1⟩ := HB.out w1 hb1
      obtain ⟨m0, m1, m2, m3, m4, m5, m6, m7⟩ := box8_facts hx1
      go_wp2_with fail
      go_ret
      exact ⟨ret_int HW.out.symm, hB1⟩
    rw [z0] at CC
    by_cases f0 : f < 0
    · have f1 : ¬ 0 ≤ f := by omega
      have HW := Lib.hid (HE.out (6) (by unfold errX kindX fldX isSpB; simp [c1, s0, d0, z0, f1]))
      have a0 : decide (c < 0) = false := decide_eq_false (by omega)
      have a1 : decide ((200 : Int) < d) = false := decide_eq_false (by omega)
      have a2 : decide (f < 0) = true := decide_eq_true (by omega)
      clear HE c0 c1 s0 d0 z0 f0 f1
      go_enter Tryz.func37, Tryz.ntmps37
      go_wp2_with fail
      rw [← hW0]
      have hb0 := Below.refl W0.heap.size W0
      refine (CC.out _).mono ?_
      rintro e w1 ⟨rfl, hc1⟩
      have hb1 := hc1
      obtain ⟨hB1, hx1⟩ := HB.out w1 hb1
      obtain ⟨m0, m1, m2, m3, m4, m5, m6, m7⟩ := box8_facts hx1
      go_wp2_with fail
      go_ret
      exact ⟨ret_int HW.out.symm, hB1⟩
    have f1 : 0 ≤ f := by omega
    by_cases t0 : t < f
    · have t1 : ¬ f ≤ t := by omega
      have HW := Lib.hid (HE.out (6) (by unfold errX kindX fldX isSpB; simp [c1, s0, d0, z0, f1, t1]))
      have a0 : decide (c < 0) = false := decide_eq_false (by omega)
      have a1 : decide ((200 : Int) < d) = false := decide_eq_false (by omega)
      have a2 : decide (f < 0) = false := decide_eq_false (by omega)
      have a3 : decide (t < f) = true := decide_eq_true (by omega)
      clear HE c0 c1 s0 d0 z0 f0 f1 t0 t1
      go_enter Tryz.func37, Tryz.ntmps37
      go_wp2_with fail
      rw [← hW0]
      have hb0 := Below.refl W0.heap.size W0
      refine (CC.out _).mono ?_
      rintro e w1 ⟨rfl, hc1⟩
      have hb1 := hc1
      obtain ⟨hB1, hx1⟩ := HB.out w1 hb1
      obtain ⟨m0, m1, m2, m3, m4, m5, m6, m7⟩ := box8_facts hx1
      go_wp2_with fail
      go_ret
      exact ⟨ret_int HW.out.symm, hB1⟩
    have t1 : f ≤ t := by omega
    by_cases o0 : o < 0
    · skip
      have HW := Lib.hid (HE.out (7) (by unfold errX kindX fldX isSpB; simp [c1, s0, d0, z0, f1, t1, o0]))
      have a0 : decide (c < 0) = false := decide_eq_false (by omega)
      have a1 : decide ((200 : Int) < d) = false := decide_eq_false (by omega)
      have a2 : decide (f < 0) = false := decide_eq_false (by omega)
      have a3 : decide (t < f) = false := decide_eq_false (by omega)
      have a4 : decide (o < 0) = true := decide_eq_true (by omega)
      clear HE c0 c1 s0 d0 z0 f0 f1 t0 t1 o0
      go_enter Tryz.func37, Tryz.ntmps37
      go_wp2_with fail
      rw [← hW0]
      have hb0 := Below.refl W0.heap.size W0
      refine (CC.out _).mono ?_
      rintro e w1 ⟨rfl, hc1⟩
      have hb1 := hc1
      obtain ⟨hB1, hx1⟩ := HB.out w1 hb1
      obtain ⟨m0, m1, m2, m3, m4, m5, m6, m7⟩ := box8_facts hx1
      go_wp2_with fail
      go_ret
      exact ⟨ret_int HW.out.symm, hB1⟩
    · skip
      have HW := Lib.hid (HE.out (0) (by unfold errX kindX fldX isSpB; simp [c1, s0, d0, z0, f1, t1, o0]))
      have a0 : decide (c < 0) = false := decide_eq_false (by omega)
      have a1 : decide ((200 : Int) < d) = false := decide_eq_false (by omega)
      have a2 : decide (f < 0) = false := decide_eq_false (by omega)
      have a3 : decide (t < f) = false := decide_eq_false (by omega)
      have a4 : decide (o < 0) = false := decide_eq_false (by omega)
      clear HE c0 c1 s0 d0 z0 f0 f1 t0 t1 o0
      go_enter Tryz.func37, Tryz.ntmps37
      go_wp2_with fail
      rw [← hW0]
      have hb0 := Below.refl W0.heap.size W0
      refine (CC.out _).mono ?_
      rintro e w1 ⟨rfl, hc1⟩
      have hb1 := hc1
      obtain ⟨hB1, hx1⟩ := HB.out w1 hb1
      obtain ⟨m0, m1, m2, m3, m4, m5, m6, m7⟩ := box8_facts hx1
      go_wp2_with fail
      go_ret
      exact ⟨ret_int HW.out.symm, hB1⟩
end Go.Proofs.YtdiinlmeoifgjaaGreatDoor

/- The reference of layer 10: Check. -/
namespace Go.Proofs.YtdiinlmeoifgjaaGreatDoor
open Go.RowKit Go.PlainAid

theorem popZ_all {st : List Nat} (h : popZ st = []) : ∀ a ∈ st, a = 0 := by
  induction st with
  | nil => intro a ha; cases ha
  | cons x r ih =>
    by_cases hx : x = 0
    · subst hx
      rw [popZ_zero] at h
      intro a ha
      rcases List.mem_cons.1 ha with rfl | ha
      · rfl
      · exact ih h a ha
    · rw [popZ_pos _ hx] at h; cases h
theorem popZ_all0 {st : List Nat} (h : ∀ a ∈ st, a = 0) : popZ st = [] := by
  induction st with
  | nil => rfl
  | cons x r ih =>
    rw [h x (by simp), popZ_zero]; exact ih fun a ha => h a (by simp [ha])
theorem emp_row (B : Nat) (W : World) (h : B ≤ W.heap.size) : (W.alloc (.cells #[] 3)).ownsRow B 3 1 (.slice (some ⟨W.heap.size, 0, none⟩) 0 0) 0 [] :=
  ⟨rfl, .inr ⟨W.heap.size, 0, #[], rfl, h, World.alloc_heap_new _ _, Nat.le_refl _, by unfold maxLen; omega, rfl, rfl⟩⟩
theorem emp_C (W : World) (x : Value) : ((W.drew.alloc (.cells #[x] 3)).alloc (.cells #[] 3)).ownsRow W.heap.size 3 1 (.slice (some ⟨W.heap.size + 1, 0, none⟩) 0 0) 0 [] := by
  have := emp_row W.heap.size (W.drew.alloc (.cells #[x] 3)) (by rw [World.size_alloc]; exact Nat.le_succ _)
  rw [World.size_alloc] at this; exact this
theorem own_at {v : Value} {n B : Nat} (h : v.ownBlock = some n) (hB : B ≤ n) : ∀ k, v.ownBlock = some k → B ≤ k := fun k hk => by rw [h] at hk; cases hk; exact hB
theorem stV_ones (st : List Nat) : ∀ u ∈ stV st, u.oneCell' = true := by
  intro u hu; unfold stV at hu; obtain ⟨q, _, rfl⟩ := List.mem_map.1 hu; rfl
theorem stV_lenA (st : List Nat) : (stV st).length = st.length := by unfold stV; simp
theorem stV_at {st : List Nat} {i v : Nat} (h : st.reverse[i]? = some v) : (stV st)[i]? = some (.int .i64 (v : Int)) := by unfold stV; rw [List.getElem?_map, h]; rfl
theorem box_kept {Wz w5 : World} {n ne : Nat} {x : Value} {t : TypeId} {v : Value} (hb : Wz.heap[n]? = some (.cells #[x] t (0, 0))) (hg : Wz.grownBy w5 v.ownBlock) (hv : v.ownBlock = some ne) (hne : n ≠ ne) :
    ∀ (jj : Nat) (u : Value), [x][jj]? = some u → w5.cell? ((⟨n, 0, none⟩ : Addr).add jj) = some u := by
  have h2 := (hg.block n (Array.getElem?_eq_some_iff.1 hb).1 (by rw [hv]; intro e; exact hne (Option.some.inj e))).trans hb
  intro jj u hj
  cases jj with
  | zero => cases hj; simp [World.cell?, Addr.add, h2]
  | succ jj => simp at hj
theorem box_B (W : World) (x : Value) : ((W.drew.alloc (.cells #[] 3)).alloc (.cells #[x] 3)).heap[W.heap.size + 1]? = some (.cells #[x] 3 (0, 0)) := by
  have := World.alloc_heap_new (W.drew.alloc (.cells #[] 3)) (.cells #[x] 3)
  rw [World.size_alloc] at this; exact this
theorem box_C (W : World) (x : Value) : ((W.drew.alloc (.cells #[x] 3)).alloc (.cells #[] 3)).heap[W.heap.size]? = some (.cells #[x] 3 (0, 0)) :=
  (Below.heap_alloc _ _ _ (by rw [World.size_alloc]; exact Nat.lt_succ_self _)).trans (World.alloc_heap_new W.drew _)
set_option maxRecDepth 50000 in
set_option maxHeartbeats 6400000 in
theorem rchk10_go (g off n cc : Nat) (l : List Sx) (w : World) (h : XsAt w (.slice (some ⟨g, off, none⟩) n cc) l) (hn : l.length = n) (h0 : 0 < n) (hl : n ≤ 2000) (hs : SmX l) (hi : InX l) :
    Calls Tryz.prog 28 #[.slice (some ⟨g, off, none⟩) n cc] w fun e w' => e = .returned (.tuple #[.int .i64 (chkX l).1, .int .i64 (chkX l).2]) ∧ Below w.heap.size w w' := by
  have HT : Hid (chkX l = chkG [1] 0 l) := Lib.hid (by
    unfold chkX
    rw [if_neg (by intro e; rw [e] at hn; simp at hn; omega), if_neg (by omega)])
  have HV := Lib.hid h
  have HN := Lib.hid hn
  have HI := Lib.hid hi
  have CR : Hid (∀ x ∈ l, ∀ d W, Calls Tryz.prog 37 #[sxA x, .int .i64 d] W fun e w' => e = .returned (.int .i64 (errX x d)) ∧ Below W.heap.size W w') := Lib.hid fun x hx d W => rone10_any x d W (hs x hx).2
  have hd1 : ((n : Int) == 0) = false := beq_eq_false_iff_ne.2 (by omega)
  have hd2 : decide ((2000 : Int) < (n : Int)) = false := decide_eq_false (by omega)
  have HO0 : Hid ((w.alloc (.cells #[.int .i64 1] 3)).ownsRow w.heap.size 3 1 (.slice (some ⟨w.heap.size, 0, none⟩) 1 1) 1 (stV [1])) := Lib.hid (own_mk w (stV [1]) _ 1 rfl (by decide))
  obtain ⟨R, hR⟩ : ∃ R, chkX l = R := ⟨_, rfl⟩
  rw [hR] at HT ⊢
  clear h hn hs hi hR
  go_enter Tryz.func28, Tryz.ntmps28
  go_wp2_with fail
  -- MARK1
  go_loopw [4, 5] (fun x4 x5 wr => ∃ (k m : Nat) (op : List Nat) (a : Option Addr) (cp : Nat), x4 = .slice a m cp ∧ x5 = .int .i64 k ∧ k ≤ n ∧ Hid (op.length = m) ∧ m ≤ k + 1 ∧ Hid (StB op) ∧ Hid (CkSt l k (popZ op)) ∧ Hid (wr.ownsRow w.heap.size 3 1 (.slice a m cp) m (stV op)) ∧ Below w.heap.size w wr) (fun _ x5 _ => n - (intOf x5).toNat)
  case atStart => exact ⟨0, 1, [1], _, _, rfl, rfl, Nat.zero_le _, Lib.hid rfl, by omega, Lib.hid (by intro a h; have := List.mem_singleton.1 h; omega), Lib.hid (ckSt_start _), HO0, (Below.refl _ w).alloc (Nat.le_refl _) _⟩
  case round =>
    obtain ⟨k, m, op, a, cp, rfl, rfl, hk, HM, hmk, HQB, HA, HO, hb⟩ := hrel
    have hcap := own_capR HO.out
    by_cases hlt : k < n
    · obtain ⟨x, hx⟩ : ∃ x, l[k]? = some x := ⟨_, List.getElem?_eq_getElem (by rw [HN.out]; exact hlt)⟩
      have HX := Lib.hid hx
      have hk0 : (0 : Int) ≤ (k : Int) := Int.natCast_nonneg _
      have hk1 : (k : Int) < (n : Int) := by omega
      clear hx
      go_wp2_with fail
      -- MARK2
      go_loopw [4] (fun x4 w7 => ∃ (m2 : Nat) (op2 : List Nat) (a2 : Option Addr) (c2 : Nat), x4 = .slice a2 m2 c2 ∧ Hid (op2.length = m2) ∧ m2 ≤ m ∧ Hid (popZ op2 = popZ op) ∧ Hid (StB op2) ∧ Hid (w7.ownsRow w.heap.size 3 1 (.slice a2 m2 c2) m2 (stV op2)) ∧ Below w.heap.size w w7) (fun x4 _ => sliceLen x4)
      case atStart => exact ⟨m, op, _, _, rfl, HM, Nat.le_refl _, Lib.hid rfl, HQB, HO, hb⟩
      case round =>
        obtain ⟨m2, op2, a2, c2, rfl, HM2, hm2, HP2, HQ2, HO7, hb7⟩ := hrel
        have hcap2 := own_capR HO7.out
        cases m2 with
        | zero =>
          have hst2 : op2 = [] := List.length_eq_zero_iff.1 HM2.out
          have HE : Hid (R = ((k : Int), 6)) := Lib.hid (by
            have hA := HA.out
            rw [← HP2.out, hst2] at hA
            rw [HT.out, ckSt_over hA HX.out])
          clear hst2
          go_wp2_with fail
          -- MARK3
          go_ret2
          exact ⟨by rw [HE.out]; rfl, hb7⟩
        | succ j =>
          obtain ⟨q, r, hst2⟩ : ∃ q2 r2, op2 = q2 :: r2 := by
            cases op2 with
            | nil => have := HM2.out; simp at this
            | cons q2 r2 => exact ⟨_, _, rfl⟩
          subst hst2
          have hrj : r.length = j := by have := HM2.out; simpa using this
          rcases own_formR HO7.out with ⟨_, h00⟩ | ⟨gs, cc2, hv2, hgs, hgs2⟩
          · omega
          obtain ⟨rfl, _, rfl⟩ := Value.slice.inj hv2
          clear hv2
          have d0 : wr.cell? ⟨gs, j, none⟩ = some (.int .i64 (q : Int)) := own_cell HO7.out (by rw [← hrj]; exact stV_top q r)
          have hj0 : (0 : Int) ≤ (j : Int) := Int.natCast_nonneg _
          have hj1 : (j : Int) < (j : Int) + 1 := by omega
          have hj2 : (j : Int) ≤ (c2 : Int) := by omega
          by_cases hz : q = 0
          · subst hz
            have HO8 : Hid (wr.ownsRow w.heap.size 3 1 (.slice (some ⟨gs, 0, none⟩) j c2) j (stV r)) := Lib.hid (by
              have h1 := own_cutR HO7.out (m := j) (by omega)
              rw [← hrj, stV_cut, hrj] at h1; exact h1)
            have HP3 : Hid (popZ r = popZ op) := Lib.hid (by rw [← HP2.out, popZ_zero])
            have HM3 := Lib.hid hrj
            have HQ3 : Hid (StB r) := Lib.hid fun a ha => HQ2.out a (by simp [ha])
            clear hrj HO7 HP2 HM2
            go_wp2_with fail
            -- MARK3c
            go_roundw
            case rel => exact ⟨j, r, _, _, rfl, HM3, by omega, HP3, HQ3, HO8, hb7⟩
            case measure => simp [sliceLen]
          · have hz2 : ((q : Int) == 0) = false := beq_eq_false_iff_ne.2 (by omega)
            have HST : Hid (popZ op = q :: r) := Lib.hid (by rw [← HP2.out, popZ_pos _ hz])
            have hmem := List.mem_of_getElem? HX.out
            have CRx := Lib.hid (CR.out x hmem (j : Int))
            have hEx : ((popZ op).length : Int) - 1 = (j : Int) := by rw [HST.out, List.length_cons, hrj]; omega
            have HBad : Hid (errX x (j : Int) ≠ 0 → R = ((k : Int), errX x (j : Int))) := Lib.hid fun he => by
              rw [HT.out, ckSt_bad HA.out HX.out (by rw [HST.out]; simp) (by rw [hEx]; exact he), hEx]
            have HGood : Hid (errX x (j : Int) = 0 → CkSt l (k + 1) (pushN x.c.toNat (q :: r)) ∧ 0 ≤ x.c) := Lib.hid fun he => by
              have := ckSt_step HA.out HX.out (by rw [HST.out]; simp) (by rw [hEx]; exact he)
              rw [HST.out] at this
              exact ⟨this, kindX_c (okX_of he).1⟩
            have hxc := HI.out x hmem
            have HNd := Lib.hid (fun W (hW : Below w.heap.size w W) => (HV.out.below hW (Nat.le_refl _)).node HX.out)
            obtain ⟨ee, hee⟩ : ∃ ee, errX x (j : Int) = ee := ⟨_, rfl⟩
            rw [hee] at CRx HBad HGood
            obtain ⟨y0, y1, y2, y3, y4, y5, y6, y7⟩ := x
            simp only at HNd HGood hxc
            have CRy : Hid (∀ W, Calls Tryz.prog 37 #[.agg #[.int .i64 y0, .int .i64 y1, .int .i64 y2, .string (str y3), .string (str y4), .int .i64 y5, .int .i64 y6, .int .i64 y7], .int .i64 (j : Int)] W fun e w' => e = .returned (.int .i64 ee) ∧ Below W.heap.size W w') := Lib.hid fun W => CRx.out W
            obtain ⟨S, hS⟩ : ∃ S, str y3 = S := ⟨_, rfl⟩
            obtain ⟨P, hP⟩ : ∃ S, str y4 = S := ⟨_, rfl⟩
            rw [hS, hP] at CRy HNd
            clear hmem hEx hee hS hP CRx CR HX
            obtain ⟨g1, o1, hg1, _, c0, c1, c2', c3, c4, c5, c6, c7⟩ := HNd.out _ hb7
            cases hg1
            by_cases he : ee = 0
            · subst he
              obtain ⟨HA2, hc0⟩ := HGood.out rfl
              obtain ⟨y1, rfl⟩ : ∃ y : Nat, y1 = (y : Int) := ⟨y1.toNat, by omega⟩
              have HA3 := Lib.hid HA2
              have hq1 : 0 < q := by omega
              clear HBad HGood HA2 hc0 hz
              go_wp2_with fail
              refine (CRy.out _).mono ?_
              rintro e w1 ⟨rfl, hb1⟩
              clear c0 c1 c2' c3 c4 c5 c6 c7
              have hbW1 := hb7.trans (hb1.mono hb7.size)
              have HO3 := Lib.hid (own_below HO7.out hb1)
              have t0 : w1.cell? ⟨gs, j, none⟩ = some (.int .i64 (q : Int)) := (hb1.cell (p := ⟨gs, j, none⟩) hgs2).trans d0
              have t1 : w1.frozen? ⟨gs, j, none⟩ = false := HO3.out.frozenAt j
              have HO4 : Hid ((w1.setCell ⟨gs, j, none⟩ (.int .i64 ((q : Int) - 1))).ownsRow w.heap.size 3 1 (.slice (some ⟨gs, 0, none⟩) (j + 1) c2) (j + 1) (stV ((q - 1) :: r))) := Lib.hid (by
                have h1 := (HO3.out.stored j (.int .i64 ((q : Int) - 1))).1
                have hqq : ((q - 1 : Nat) : Int) = (q : Int) - 1 := by omega
                rw [← hrj, ← hqq, stV_set, hrj, hqq] at h1; exact h1)
              have hb4 : Below w.heap.size w (w1.setCell ⟨gs, j, none⟩ (.int .i64 ((q : Int) - 1))) := hbW1.setCell hgs _
              have hqb := HQ2.out q (by simp)
              have hwq : wrap64 ((q : Int) - 1) = (q : Int) - 1 := (by unfold wrap64; omega)
              clear hqb d0
              go_upto_region 17 with (fail)
              -- MARK4
              obtain ⟨W4, hW4⟩ : ∃ W4, W4 = w1.setCell ⟨gs, j, none⟩ (.int .i64 ((q : Int) - 1)) := ⟨_, rfl⟩
              rw [← hW4] at HO4 hb4 ⊢
              clear hW4 t0 t1 hwq hbW1 HO3 hb1 HO7 hgs2
              obtain ⟨g1, o1, hg1, _, _, e1, _⟩ := HNd.out W4 hb4
              cases hg1
              obtain ⟨i0, hi, hz0, hz1, hz2⟩ := info_parts2 infoSk
              have hsz4 := hb4.size
              have hgl := HO4.out.lt gs rfl
              have HK1 : Hid (∀ W, Below W4.heap.size W4 W → W.cell? ⟨g, off + k * 8 + 1, none⟩ = some (.int .i64 (y1 : Int))) := Lib.hid fun W hW => by
                obtain ⟨g1, o1, hg1, _, _, e1, _⟩ := HNd.out W (hb4.trans (hW.mono hb4.size))
                cases hg1; exact e1
              have HLn : Hid ((stV ((q - 1) :: r)).length = (j + 1) * 1) := Lib.hid (by rw [stV_lenA, List.length_cons, hrj]; omega)
              have HOn := Lib.hid (stV_ones ((q - 1) :: r))
              have HCo : Hid (∀ W, Below W4.heap.size W4 W → ∀ (jj : Nat) (u : Value), (stV ((q - 1) :: r))[jj]? = some u → W.cell? ((⟨gs, 0, none⟩ : Addr).add jj) = some u) := Lib.hid fun W hW jj u hu => by
                rw [Go.WideShapes.add_plain]
                have := HO4.out.cells (g := gs) rfl jj u hu
                rw [Go.WideShapes.add_plain] at this
                exact (hW.cell (p := ⟨gs, 0 + jj, none⟩) hgl.2).trans this
              have HXX : Hid (stV ((q - 1) :: r) ++ [.int .i64 (y1 : Int)] = stV (y1 :: (q - 1) :: r)) := Lib.hid (stV_cons _ _).symm
              have bA : Below W4.heap.size W4 (W4.drew.alloc (.cells #[] 3)) := (Below.refl _ W4).drew.alloc (Nat.le_refl _) _
              have bB : Below W4.heap.size W4 ((W4.drew.alloc (.cells #[] 3)).alloc (.cells #[.int .i64 (y1 : Int)] 3)) := bA.alloc bA.size _
              have bC : Below W4.heap.size W4 ((W4.drew.alloc (.cells #[.int .i64 (y1 : Int)] 3)).alloc (.cells #[] 3)) := ((Below.refl _ W4).drew.alloc (Nat.le_refl _) _).alloc (by rw [World.size_alloc]; exact Nat.le_succ _) _
              have HbA := Lib.hid bA
              have HbB := Lib.hid bB
              have HbC := Lib.hid bC
              have hmk3 : j + 2 ≤ 3000 := by omega
              have HA5 : Hid (CkSt l (k + 1) (popZ (y1 :: (q - 1) :: r))) := Lib.hid (by have := HA3.out; rw [Int.toNat_natCast] at this; exact this)
              have HQ5 : Hid (StB (y1 :: (q - 1) :: r)) := Lib.hid fun z hz => by
                rcases List.mem_cons.1 hz with rfl | hz
                · simpa using hxc
                · rcases List.mem_cons.1 hz with rfl | hz
                  · have := HQ2.out q (by simp); omega
                  · exact HQ2.out z (by simp [hz])
              have HL5 : Hid ((y1 :: (q - 1) :: r).length = j + 1 + 1) := Lib.hid (by simp [hrj])
              have bD : Below W4.heap.size W4 W4.drew := (Below.refl _ W4).drew
              have bX : Below W4.heap.size W4 (W4.drew.alloc (.cells #[.int .i64 (y1 : Int)] 3)) := bD.alloc (Nat.le_refl _) _
              clear hgl hxc e1
              go_region_held3 (fun w' => w'.cell? ⟨g, off + k * 8 + 1, none⟩ = some (.int .i64 (y1 : Int))) (first | exact HK1.out _ (by assumption) | go_keep) (first
                | (refine step_append_own rfl _ _ 68 rfl W4.heap.size 3 i0 (.int .i64 0) 1 8 Tryz.underlying68 hi hz0 hz1 hz2 rfl (by decide) _ _ _ rfl (emp_row W4.heap.size W4.drew (Nat.le_refl _)) ⟨gs, 0, none⟩ (j + 1) c2 (stV ((q - 1) :: r)) rfl HLn.out (HCo.out _ HbA.out) HOn.out (by unfold maxLen; omega) (by omega) HbA.out.size ?_; intro v5 w5 hown5 hgrow5 _; rw [Nat.zero_add, List.nil_append] at hown5; obtain ⟨b5, cb5, rfl⟩ := own_lenR hown5; have hb5 : Below W4.heap.size W4 w5 := HbA.out.grown hgrow5 HbA.out.size (own_at rfl (Nat.le_refl _)); have bY := hb5.alloc hb5.size (.cells #[.int .i64 (y1 : Int)] 3))
                | (refine step_append_own rfl _ _ 68 rfl W4.heap.size 3 i0 (.int .i64 0) 1 8 Tryz.underlying68 hi hz0 hz1 hz2 rfl (by decide) _ _ _ rfl ((emp_row W4.heap.size W4.drew (Nat.le_refl _)).alloc _) ⟨gs, 0, none⟩ (j + 1) c2 (stV ((q - 1) :: r)) rfl HLn.out (HCo.out _ HbB.out) HOn.out (by unfold maxLen; omega) (by omega) HbB.out.size ?_; intro v5 w5 hown5 hgrow5 _; rw [Nat.zero_add, List.nil_append] at hown5; obtain ⟨b5, cb5, rfl⟩ := own_lenR hown5; have hb5 : Below W4.heap.size W4 w5 := HbB.out.grown hgrow5 HbB.out.size (own_at rfl (Nat.le_refl _)); have HN70 := Lib.hid (box_kept (box_B W4 (.int .i64 (y1 : Int))) hgrow5 rfl (by exact Nat.succ_ne_self _)))
                | (refine step_append_own rfl _ _ 68 rfl W4.heap.size 3 i0 (.int .i64 0) 1 8 Tryz.underlying68 hi hz0 hz1 hz2 rfl (by decide) _ _ _ rfl (emp_C W4 (.int .i64 (y1 : Int))) ⟨gs, 0, none⟩ (j + 1) c2 (stV ((q - 1) :: r)) rfl HLn.out (HCo.out _ HbC.out) HOn.out (by unfold maxLen; omega) (by omega) HbC.out.size ?_; intro v5 w5 hown5 hgrow5 _; rw [Nat.zero_add, List.nil_append] at hown5; obtain ⟨b5, cb5, rfl⟩ := own_lenR hown5; have hb5 : Below W4.heap.size W4 w5 := HbC.out.grown hgrow5 HbC.out.size (own_at rfl (Nat.le_succ _)); have HN70 := Lib.hid (box_kept (box_C W4 (.int .i64 (y1 : Int))) hgrow5 rfl (by exact (Nat.succ_ne_self _).symm)))
                | (refine step_append_own rfl _ _ 68 rfl W4.heap.size 3 i0 (.int .i64 0) 1 8 Tryz.underlying68 hi hz0 hz1 hz2 rfl (by decide) _ _ _ rfl (hown5.alloc _) ⟨w5.heap.size, 0, none⟩ 1 1 [.int .i64 (y1 : Int)] rfl rfl (new_cells w5 [.int .i64 (y1 : Int)] _) (by simp [Value.oneCell']) (by unfold maxLen; omega) (by omega) (hb5.alloc hb5.size _).size ?_; intro v6 w6 hown6 hgrow6 _; obtain ⟨b6, cb6, rfl⟩ := own_lenR hown6; have hb6 : Below W4.heap.size W4 w6 := (hb5.alloc hb5.size _).grown hgrow6 (by rw [World.size_alloc]; have := hb5.size; omega) (fun kk hk2 => (hown5.lt kk hk2).1))
                | (refine step_append_own rfl _ _ 68 rfl W4.heap.size 3 i0 (.int .i64 0) 1 8 Tryz.underlying68 hi hz0 hz1 hz2 rfl (by decide) _ _ _ rfl hown5 _ 1 1 [.int .i64 (y1 : Int)] rfl rfl HN70.out (by simp [Value.oneCell']) (by unfold maxLen; omega) (by omega) hb5.size ?_; intro v6 w6 hown6 hgrow6 _; obtain ⟨b6, cb6, rfl⟩ := own_lenR hown6; have hb6 : Below W4.heap.size W4 w6 := hb5.grown hgrow6 hb5.size (fun kk hk2 => (hown5.lt kk hk2).1)))
              all_goals go_wp2
              -- MARK5
              all_goals exact ⟨⟨k + 1, j + 1 + 1, y1 :: (q - 1) :: r, _, _, rfl, by go_num, by omega, HL5, by omega, HQ5, HA5, Lib.hid (own_mono (by rw [← HXX.out]; exact hown6) hsz4), hb4.trans (hb6.mono hb4.size)⟩, by simp [intOf]; omega⟩
            · have HE := Lib.hid (HBad.out he)
              have hne : (ee != 0) = true := bne_iff_ne.2 he
              clear he HBad HGood
              go_wp2_with fail
              refine (CRy.out _).mono ?_
              rintro e w1 ⟨rfl, hb1⟩
              have hbW1 := hb7.trans (hb1.mono hb7.size)
              go_wp2_with fail
              -- MARK5
              go_ret2
              exact ⟨by rw [HE.out]; rfl, hbW1⟩
    · obtain rfl : k = n := by omega
      have HE := Lib.hid (ckSt_end HA.out (by rw [HN.out]; exact Nat.le_refl _))
      go_wp2_with fail
      -- MARK6
      go_loopw [7] (fun x7 w9 => ∃ i : Nat, i ≤ m ∧ x7 = .int .i64 i ∧ w9 = wr ∧ Hid (∀ j : Nat, j < i → op.reverse[j]? = some 0)) (fun x7 _ => m - (intOf x7).toNat)
      case atStart => exact ⟨0, Nat.zero_le _, rfl, rfl, Lib.hid fun j hj => absurd hj (Nat.not_lt_zero _)⟩
      case round =>
        obtain ⟨i, him, rfl, rfl, HZ⟩ := hrel
        by_cases hlt2 : i < m
        · obtain ⟨v, hv⟩ : ∃ v, op.reverse[i]? = some v := ⟨_, List.getElem?_eq_getElem (by rw [List.length_reverse, HM.out]; exact hlt2)⟩
          rcases own_formR HO.out with ⟨_, h00⟩ | ⟨gs, cc2, hv2, hgs, hgs2⟩
          · omega
          obtain ⟨rfl, _, rfl⟩ := Value.slice.inj hv2
          clear hv2
          have d0 := own_cell HO.out (stV_at hv)
          have hi0 : (0 : Int) ≤ (i : Int) := Int.natCast_nonneg _
          have hi1 : (i : Int) < (m : Int) := by omega
          by_cases hv0 : v = 0
          · subst hv0
            have HZ2 : Hid (∀ j : Nat, j < i + 1 → op.reverse[j]? = some 0) := Lib.hid fun j hj => by
              by_cases hji : j < i
              · exact HZ.out j hji
              · obtain rfl : j = i := by omega
                exact hv
            clear hv
            go_wp2_with fail
            exact ⟨⟨i + 1, by omega, by go_num, trivial, HZ2⟩, by simp [intOf]; omega⟩
          · have hdv : 0 < v := by omega
            have HV2 : Hid (R = ((k : Int), 6)) := Lib.hid (by
              rw [HT.out, HE.out, if_neg]
              intro e
              exact hv0 (popZ_all e v (List.mem_reverse.1 (List.mem_of_getElem? hv))))
            clear hv hv0
            go_wp2_with fail
            go_ret2
            exact ⟨by rw [HV2.out]; rfl, hb⟩
        · obtain rfl : i = m := by omega
          have HV2 : Hid (R = (0, 0)) := Lib.hid (by
            rw [HT.out, HE.out, if_pos]
            refine popZ_all0 fun a ha => ?_
            obtain ⟨j, hj, e⟩ := List.getElem_of_mem (List.mem_reverse.2 ha)
            have h1 := HZ.out j (by rw [List.length_reverse, HM.out] at hj; exact hj)
            rw [List.getElem?_eq_getElem hj, e] at h1
            exact Option.some.inj h1)
          go_wp2_with fail
          go_ret2
          exact ⟨by rw [HV2.out]; rfl, hb⟩
-- MARK9
end Go.Proofs.YtdiinlmeoifgjaaGreatDoor

/- The law StxChecks. (Written by tools/gen_yck.py.) -/
namespace Go.Proofs.YtdiinlmeoifgjaaGreatDoor
open Go.RowKit Go.PlainAid

theorem rck_short (c : Nat) (a : Option Addr) (w : World) : Calls Tryz.prog 28 #[.slice a 0 c] w fun e w' => e = .returned (.tuple #[.int .i64 0, .int .i64 6]) ∧ Below w.heap.size w w' := by
  go_enter Tryz.func28, Tryz.ntmps28
  go_wp2_with fail
  go_ret2
  exact ⟨rfl, Below.refl _ _⟩
theorem rck_long (n c : Nat) (a : Option Addr) (w : World) (hn : 2000 < n) : Calls Tryz.prog 28 #[.slice a n c] w fun e w' => e = .returned (.tuple #[.int .i64 0, .int .i64 3]) ∧ Below w.heap.size w w' := by
  have hd1 : ((n : Int) == 0) = false := beq_eq_false_iff_ne.2 (by omega)
  have hd2 : decide ((2000 : Int) < (n : Int)) = true := decide_eq_true (by omega)
  go_enter Tryz.func28, Tryz.ntmps28
  go_wp2_with fail
  go_ret2
  exact ⟨rfl, Below.refl _ _⟩
theorem rCheck10_any (v : Value) (l : List Sx) (w : World) (h : XsAt w v l) (hs : SmX l) (hi : InX l) :
    Calls Tryz.prog 28 #[v] w fun e w' => e = .returned (.tuple #[.int .i64 (chkX l).1, .int .i64 (chkX l).2]) ∧ Below w.heap.size w w' := by
  obtain ⟨a, c, rfl, hc⟩ := h.slice
  by_cases h0 : l = []
  · subst h0; exact rck_short c a w
  · by_cases hl : 2000 < l.length
    · have : chkX l = (0, 3) := by unfold chkX; rw [if_neg h0, if_pos hl]
      rw [this]; exact rck_long _ c a w hl
    · have hp : 0 < l.length := List.length_pos_iff.2 h0
      have h' := h
      obtain ⟨a', n', c', e, hn, hcc, hx⟩ := h
      obtain ⟨rfl, rfl, rfl⟩ := Value.slice.inj e
      rcases hx with rfl | ⟨g, off, rfl, _, _⟩
      · exact absurd rfl h0
      · exact rchk10_go g off _ _ l w h' rfl hp (by omega) hs hi
-- MARKL
end Go.Proofs.YtdiinlmeoifgjaaGreatDoor
