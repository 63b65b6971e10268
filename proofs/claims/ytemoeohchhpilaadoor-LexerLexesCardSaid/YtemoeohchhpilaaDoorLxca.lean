/- LexerLexes: the reference's first, a part. -/
import Derived.Test.YtemoeohchhpilaaDoorLxcl
namespace Go.Proofs.YtemoeohchhpilaaDoor
open Go.RowKit Go.PlainAid

set_option maxRecDepth 50000 in
set_option maxHeartbeats 6400000 in
theorem rfirst_a (v : Value) (l : List UInt8) (m : Nat) (w : World) (h : ArgAt w v (l.map bc)) (hl : l.length ≤ 1000000) (hm : m < l.length) (hM : clsL (l.drop m) ≠ 5 ∧ isWc (clsL (l.drop m)) = false) :
    Calls Tryd.prog 19 #[v, .int .i64 (m : Int)] w fun e w' => e = .returned (rfV m (l.drop m)) ∧ Below w.heap.size w w' := by
  have hr := h.row
  have HC := Lib.hid (fun W (hW : Below w.heap.size w W) => rclass_at v l m W (h.below hW (Nat.le_refl _)) hl)
  have HW := Lib.hid (fun (i : Nat) (hi : i ≤ l.length) W (hW : Below w.heap.size w W) => rword_any v l i W (h.below hW (Nat.le_refl _)) hl hi)
  obtain ⟨a, n, c, rfl, hn, hcap, _⟩ := h
  rw [List.length_map] at hn
  have HCell : Hid (∀ (j : Nat) (u : UInt8), l[j]? = some u → ∃ g off, g < w.heap.size ∧ a = some ⟨g, off, none⟩ ∧ ∀ W, Below w.heap.size w W → W.cell? ⟨g, off + j, none⟩ = some (.int .u8 (u.toNat : Int))) := Lib.hid fun j u hj => by
    rcases hr with ⟨a', c', e, hnil⟩ | ⟨g, off, n', cap, e, hn', hg, hcl⟩
    · have : l = [] := List.map_eq_nil_iff.1 hnil
      rw [this] at hj; cases hj
    · obtain ⟨rfl, _, _⟩ := Value.slice.inj e
      refine ⟨g, off, hg, rfl, fun W hW => (hW.cell (p := ⟨g, off + j, none⟩) hg).trans (hcl j (bc u) ?_)⟩
      rw [List.getElem?_map, hj]; rfl
  have HROW := Lib.hid (fun W (hW : Below w.heap.size w W) => RowAt.below hr hW (Nat.le_refl _))
  have HNE : Hid (l.drop m ≠ []) := Lib.hid (drop_ne hm)
  have HN := Lib.hid hn
  rw [← hn] at hm hl
  obtain ⟨cl, hcl⟩ : ∃ cl, clsL (l.drop m) = cl := ⟨_, rfl⟩
  obtain ⟨wd, hwd⟩ : ∃ wd, (dec (l.drop m)).2.1 = wd := ⟨_, rfl⟩
  have hw4 : m + wd ≤ n := by have := wd_le (l.drop m); rw [List.length_drop, hwd, ← HN.out] at this; omega
  rw [hcl, hwd] at HC
  rw [hcl] at hM
  have HCL := Lib.hid hcl
  have HWD := Lib.hid hwd
  have HTC := Lib.hid (tok_cls HNE.out)
  clear hr hn hcl hwd
  obtain ⟨W0, hW0⟩ : ∃ W0, W0 = (w.alloc (.cells #[.int .i64 0, .int .i64 0, .int .i64 0, .int .i64 0, .string ⟨#[]⟩] 33)).alloc (.cells #[.int .i64 0, .int .i64 0] 27) := ⟨_, rfl⟩
  have hsz : W0.heap.size = w.heap.size + 2 := by rw [hW0]; simp
  have hB0 : Below w.heap.size w W0 := by rw [hW0]; exact (below_b1 _ _).alloc (by simp) _
  have b1 : W0.heap[w.heap.size]? = some (.cells #[.int .i64 0, .int .i64 0, .int .i64 0, .int .i64 0, .string ⟨#[]⟩] 33 (0, 0)) := by
    rw [hW0]; exact (Below.heap_alloc _ _ _ (by simp only [World.size_alloc]; omega)).trans (World.alloc_heap_new _ _)
  have b2 : W0.heap[w.heap.size + 1]? = some (.cells #[.int .i64 0, .int .i64 0] 27 (0, 0)) := by
    rw [hW0]; have := World.alloc_heap_new (w.alloc (.cells #[.int .i64 0, .int .i64 0, .int .i64 0, .int .i64 0, .string ⟨#[]⟩] 33)) (.cells #[.int .i64 0, .int .i64 0] 27); rwa [World.size_alloc] at this
  have HB1 := Lib.hid b1
  have HB2 := Lib.hid b2
  have HB0 := Lib.hid hB0
  have HZ := Lib.hid hsz
  clear b1 b2 hB0 hsz
  go_enter Tryd.func19, Tryd.ntmps19
  go_wp2_with fail
  -- MARK0
  rw [← hW0]
  refine (HC.out W0 HB0.out).mono ?_
  rintro e w1 ⟨rfl, hb1⟩
  clear hW0
  have x1 := (hb1.block w.heap.size (by rw [HZ.out]; omega)).trans HB1.out
  have x2 := (hb1.block (w.heap.size + 1) (by rw [HZ.out]; omega)).trans HB2.out
  have hx3 : w.heap.size + 1 < w1.heap.size := by have := hb1.size; rw [HZ.out] at this; omega
  have x4 := HB0.out.trans (hb1.mono (by rw [HZ.out]; omega))
  have HX1 := Lib.hid x1
  have HX2 := Lib.hid x2
  have HX3 := Lib.hid hx3
  have HX4 := Lib.hid x4
  clear x1 x2 hx3 x4 hb1
  -- MARK1
  go_upto_region 4 with (fail)
  -- MARK2
  obtain ⟨P, hP⟩ : ∃ P, w1.heap.size = P := ⟨_, rfl⟩
  have HF : Hid (F4 w ((w1.alloc (.cells #[.int .i64 (m : Int), .int .i64 ((m : Int) + (wd : Int))] 27)).alloc (.cells #[.int .i64 0, .int .i64 (m : Int), .int .i64 ((m : Int) + (wd : Int)), .int .i64 0, .string ⟨#[]⟩] 33)) P (m : Int) ((m : Int) + (wd : Int)) 0 (m : Int) ((m : Int) + (wd : Int)) 0 []) := Lib.hid (by
    obtain ⟨y1, y2, y3⟩ := two_newF (W := w1) hP #[.int .i64 (m : Int), .int .i64 ((m : Int) + (wd : Int))] #[.int .i64 0, .int .i64 (m : Int), .int .i64 ((m : Int) + (wd : Int)), .int .i64 0, .string ⟨#[]⟩] 27 33
    have hx3 := HX3.out
    rw [hP] at hx3
    exact ⟨(y3.block _ (by omega)).trans HX1.out, (y3.block _ (by omega)).trans HX2.out, y1, y2, hx3, HX4.out.trans (y3.mono (by omega))⟩)
  obtain ⟨W, hW⟩ : ∃ X, X = ((w1.alloc (.cells #[.int .i64 (m : Int), .int .i64 ((m : Int) + (wd : Int))] 27)).alloc (.cells #[.int .i64 0, .int .i64 (m : Int), .int .i64 ((m : Int) + (wd : Int)), .int .i64 0, .string ⟨#[]⟩] 33)) := ⟨_, rfl⟩
  rw [← hW] at HF ⊢
  rw [hP]
  clear hW hP HX1 HX2 HX3 HX4 HB0 HB1 HB2 HZ HC
  obtain ⟨⟨⟨a0, a1, a2, a3, a4⟩, a5, a6, a7, a8, a9⟩, ⟨q0, q1, q2, q3⟩, ⟨p0, p1, p2, p3⟩, ⟨t0, t1, t2, t3, t4⟩, t5, t6, t7, t8, t9⟩ := HF.out.facts
  obtain ⟨n1, n2, n3, n4, n5, n6, n7, n8, n9, n10, n11, n12⟩ := HF.out.nes
  -- MARK3
  by_cases h0 : cl = 0
  · subst h0
    have HV : Hid (rfV m (l.drop m) = .tuple #[tokA (0, 0, 0, 0, []), .agg #[.int .i64 (m : Int), .int .i64 ((m : Int) + 1)], .int .i64 6]) := Lib.hid (by
      rcases HTC.out with ⟨_, _, e1, e2⟩ | ⟨e0, _⟩
      · rw [rfV_no (m := m) e1 (by rw [e2]) (by decide)]; push_cast; rfl
      · exact absurd HCL.out (cls_ne0 e0))
    go_wp2_with fail
    -- MARKA
    (try simp only [Exit.inBlock, Exit.then])
    refine bodyPost_ret (results_boxTS rfl _ _ w.heap.size (w.heap.size + 1) _ _ _ _ _ _ _ _ _ rfl rfl ((two_other (W := five _ _ _ _ _ _ _) (by omega) _ _).trans (set_five _ _ _ _ _ HF.out.a)) (set_both _ _ ((five_other (by omega) _ _ _ _ _).trans HF.out.b))) rfl ?_
    exact ⟨by rw [HV.out]; (try push_cast); rfl, (below_two (below_five HF.out.o (Nat.le_refl _) _ _ _ _ _) (by omega))⟩
  have HOK : Hid (clsP (l.drop m) = (cl, wd)) := Lib.hid (by
    rcases HTC.out with ⟨_, e1, _⟩ | ⟨_, e1⟩
    · rw [HCL.out] at e1; exact absurd e1 h0
    · rw [e1, HCL.out, HWD.out])
  have e0 : ((cl : Int) == 0) = false := beq_eq_false_iff_ne.2 h0
  clear HTC h0
  by_cases h2 : cl = 2
  · subst h2
    obtain ⟨t, ht, hw1⟩ := head_open (L := l.drop m) (by rw [HOK.out])
    obtain rfl : wd = 1 := by rw [HOK.out] at hw1; exact hw1
    rcases ht with ht | ht
    · obtain ⟨e1, e2⟩ := tok_40 t
      have HV : Hid (rfV m (l.drop m) = .tuple #[tokA (1, (m : Int), ((m : Int) + 1), 1, []), .agg #[.int .i64 0, .int .i64 0], .int .i64 0]) := Lib.hid (by rw [ht, rfV_ok (m := m) e1 e2]; push_cast; rfl)
      have hu : l[m]? = some 40 := by
        have := congrArg List.head? ht
        rw [List.head?_drop] at this; exact this
      obtain ⟨g, off, hgl, rfl, hcell⟩ := HCell.out m 40 hu
      have hgP : g ≠ P + 1 := by have := HF.out.p; omega
      have c0 : W.cell? ⟨g, off + m, none⟩ = some (.int .u8 40) := hcell W HF.out.o
      clear ht hw1 e1 e2 hu hcell
      go_upto_region 14 with (fail)
      -- MARKB40
      clear c0
      have HW2 := Lib.hid ((HF.out.k0 1).k3 1)
      obtain ⟨W2, hW2⟩ : ∃ X, X = (W.setCell ⟨P + 1, 0, none⟩ (.int .i64 1)).setCell ⟨P + 1, 3, none⟩ (.int .i64 1) := ⟨_, rfl⟩
      rw [← hW2] at HW2 ⊢
      clear hW2
      clear a0 a1 a2 a3 a4 a5 a6 a7 a8 a9 q0 q1 q2 q3 p0 p1 p2 p3 t0 t1 t2 t3 t4 t5 t6 t7 t8 t9
      obtain ⟨⟨⟨a0, a1, a2, a3, a4⟩, a5, a6, a7, a8, a9⟩, ⟨q0, q1, q2, q3⟩, ⟨p0, p1, p2, p3⟩, ⟨t0, t1, t2, t3, t4⟩, t5, t6, t7, t8, t9⟩ := HW2.out.facts
      go_wp2_with fail
      -- MARKC40
      (try simp only [Exit.inBlock, Exit.then])
      refine bodyPost_ret (results_boxTS rfl _ _ w.heap.size (w.heap.size + 1) _ _ _ _ _ _ _ _ _ rfl rfl ((two_other (W := five _ _ _ _ _ _ _) (by omega) _ _).trans (set_five _ _ _ _ _ HW2.out.a)) (set_both _ _ ((five_other (by omega) _ _ _ _ _).trans HW2.out.b))) rfl ?_
      exact ⟨by rw [HV.out]; (try push_cast); rfl, (below_two (below_five HW2.out.o (Nat.le_refl _) _ _ _ _ _) (by omega))⟩
    · obtain ⟨e1, e2⟩ := tok_91 t
      have HV : Hid (rfV m (l.drop m) = .tuple #[tokA (1, (m : Int), ((m : Int) + 1), 2, []), .agg #[.int .i64 0, .int .i64 0], .int .i64 0]) := Lib.hid (by rw [ht, rfV_ok (m := m) e1 e2]; push_cast; rfl)
      have hu : l[m]? = some 91 := by
        have := congrArg List.head? ht
        rw [List.head?_drop] at this; exact this
      obtain ⟨g, off, hgl, rfl, hcell⟩ := HCell.out m 91 hu
      have hgP : g ≠ P + 1 := by have := HF.out.p; omega
      have c0 : W.cell? ⟨g, off + m, none⟩ = some (.int .u8 91) := hcell W HF.out.o
      clear ht hw1 e1 e2 hu hcell
      go_upto_region 14 with (fail)
      -- MARKB91
      clear c0
      have HW2 := Lib.hid (((HF.out.k0 1).k3 1).k3 2)
      obtain ⟨W2, hW2⟩ : ∃ X, X = ((W.setCell ⟨P + 1, 0, none⟩ (.int .i64 1)).setCell ⟨P + 1, 3, none⟩ (.int .i64 1)).setCell ⟨P + 1, 3, none⟩ (.int .i64 2) := ⟨_, rfl⟩
      rw [← hW2] at HW2 ⊢
      clear hW2
      clear a0 a1 a2 a3 a4 a5 a6 a7 a8 a9 q0 q1 q2 q3 p0 p1 p2 p3 t0 t1 t2 t3 t4 t5 t6 t7 t8 t9
      obtain ⟨⟨⟨a0, a1, a2, a3, a4⟩, a5, a6, a7, a8, a9⟩, ⟨q0, q1, q2, q3⟩, ⟨p0, p1, p2, p3⟩, ⟨t0, t1, t2, t3, t4⟩, t5, t6, t7, t8, t9⟩ := HW2.out.facts
      go_wp2_with fail
      -- MARKC91
      (try simp only [Exit.inBlock, Exit.then])
      refine bodyPost_ret (results_boxTS rfl _ _ w.heap.size (w.heap.size + 1) _ _ _ _ _ _ _ _ _ rfl rfl ((two_other (W := five _ _ _ _ _ _ _) (by omega) _ _).trans (set_five _ _ _ _ _ HW2.out.a)) (set_both _ _ ((five_other (by omega) _ _ _ _ _).trans HW2.out.b))) rfl ?_
      exact ⟨by rw [HV.out]; (try push_cast); rfl, (below_two (below_five HW2.out.o (Nat.le_refl _) _ _ _ _ _) (by omega))⟩
  have e2 : ((cl : Int) == 2) = false := beq_eq_false_iff_ne.2 h2
  by_cases h3 : cl = 3
  · subst h3
    obtain ⟨t, ht, hw1⟩ := head_close (L := l.drop m) (by rw [HOK.out])
    obtain rfl : wd = 1 := by rw [HOK.out] at hw1; exact hw1
    rcases ht with ht | ht
    · obtain ⟨e1, e2⟩ := tok_41 t
      have HV : Hid (rfV m (l.drop m) = .tuple #[tokA (2, (m : Int), ((m : Int) + 1), 1, []), .agg #[.int .i64 0, .int .i64 0], .int .i64 0]) := Lib.hid (by rw [ht, rfV_ok (m := m) e1 e2]; push_cast; rfl)
      have hu : l[m]? = some 41 := by
        have := congrArg List.head? ht
        rw [List.head?_drop] at this; exact this
      obtain ⟨g, off, hgl, rfl, hcell⟩ := HCell.out m 41 hu
      have hgP : g ≠ P + 1 := by have := HF.out.p; omega
      have c0 : W.cell? ⟨g, off + m, none⟩ = some (.int .u8 41) := hcell W HF.out.o
      clear ht hw1 e1 e2 hu hcell
      go_upto_region 14 with (fail)
      -- MARKB41
      clear c0
      have HW2 := Lib.hid (((HF.out.k0 1).k3 1).k0 2)
      obtain ⟨W2, hW2⟩ : ∃ X, X = ((W.setCell ⟨P + 1, 0, none⟩ (.int .i64 1)).setCell ⟨P + 1, 3, none⟩ (.int .i64 1)).setCell ⟨P + 1, 0, none⟩ (.int .i64 2) := ⟨_, rfl⟩
      rw [← hW2] at HW2 ⊢
      clear hW2
      clear a0 a1 a2 a3 a4 a5 a6 a7 a8 a9 q0 q1 q2 q3 p0 p1 p2 p3 t0 t1 t2 t3 t4 t5 t6 t7 t8 t9
      obtain ⟨⟨⟨a0, a1, a2, a3, a4⟩, a5, a6, a7, a8, a9⟩, ⟨q0, q1, q2, q3⟩, ⟨p0, p1, p2, p3⟩, ⟨t0, t1, t2, t3, t4⟩, t5, t6, t7, t8, t9⟩ := HW2.out.facts
      go_wp2_with fail
      -- MARKC41
      (try simp only [Exit.inBlock, Exit.then])
      refine bodyPost_ret (results_boxTS rfl _ _ w.heap.size (w.heap.size + 1) _ _ _ _ _ _ _ _ _ rfl rfl ((two_other (W := five _ _ _ _ _ _ _) (by omega) _ _).trans (set_five _ _ _ _ _ HW2.out.a)) (set_both _ _ ((five_other (by omega) _ _ _ _ _).trans HW2.out.b))) rfl ?_
      exact ⟨by rw [HV.out]; (try push_cast); rfl, (below_two (below_five HW2.out.o (Nat.le_refl _) _ _ _ _ _) (by omega))⟩
    · obtain ⟨e1, e2⟩ := tok_93 t
      have HV : Hid (rfV m (l.drop m) = .tuple #[tokA (2, (m : Int), ((m : Int) + 1), 2, []), .agg #[.int .i64 0, .int .i64 0], .int .i64 0]) := Lib.hid (by rw [ht, rfV_ok (m := m) e1 e2]; push_cast; rfl)
      have hu : l[m]? = some 93 := by
        have := congrArg List.head? ht
        rw [List.head?_drop] at this; exact this
      obtain ⟨g, off, hgl, rfl, hcell⟩ := HCell.out m 93 hu
      have hgP : g ≠ P + 1 := by have := HF.out.p; omega
      have c0 : W.cell? ⟨g, off + m, none⟩ = some (.int .u8 93) := hcell W HF.out.o
      clear ht hw1 e1 e2 hu hcell
      go_upto_region 14 with (fail)
      -- MARKB93
      clear c0
      have HW2 := Lib.hid ((((HF.out.k0 1).k3 1).k0 2).k3 2)
      obtain ⟨W2, hW2⟩ : ∃ X, X = (((W.setCell ⟨P + 1, 0, none⟩ (.int .i64 1)).setCell ⟨P + 1, 3, none⟩ (.int .i64 1)).setCell ⟨P + 1, 0, none⟩ (.int .i64 2)).setCell ⟨P + 1, 3, none⟩ (.int .i64 2) := ⟨_, rfl⟩
      rw [← hW2] at HW2 ⊢
      clear hW2
      clear a0 a1 a2 a3 a4 a5 a6 a7 a8 a9 q0 q1 q2 q3 p0 p1 p2 p3 t0 t1 t2 t3 t4 t5 t6 t7 t8 t9
      obtain ⟨⟨⟨a0, a1, a2, a3, a4⟩, a5, a6, a7, a8, a9⟩, ⟨q0, q1, q2, q3⟩, ⟨p0, p1, p2, p3⟩, ⟨t0, t1, t2, t3, t4⟩, t5, t6, t7, t8, t9⟩ := HW2.out.facts
      go_wp2_with fail
      -- MARKC93
      (try simp only [Exit.inBlock, Exit.then])
      refine bodyPost_ret (results_boxTS rfl _ _ w.heap.size (w.heap.size + 1) _ _ _ _ _ _ _ _ _ rfl rfl ((two_other (W := five _ _ _ _ _ _ _) (by omega) _ _).trans (set_five _ _ _ _ _ HW2.out.a)) (set_both _ _ ((five_other (by omega) _ _ _ _ _).trans HW2.out.b))) rfl ?_
      exact ⟨by rw [HV.out]; (try push_cast); rfl, (below_two (below_five HW2.out.o (Nat.le_refl _) _ _ _ _ _) (by omega))⟩
  have e3 : ((cl : Int) == 3) = false := beq_eq_false_iff_ne.2 h3
  by_cases h4 : cl = 4
  · subst h4
    obtain ⟨t, ht, hw1⟩ := head_quote (L := l.drop m) (by rw [HOK.out])
    obtain rfl : wd = 1 := by rw [HOK.out] at hw1; exact hw1
    obtain ⟨e1, e2⟩ := tok_39 t
    have HV : Hid (rfV m (l.drop m) = .tuple #[tokA (3, (m : Int), ((m : Int) + 1), 0, []), .agg #[.int .i64 0, .int .i64 0], .int .i64 0]) := Lib.hid (by rw [ht, rfV_ok (m := m) e1 e2]; push_cast; rfl)
    clear ht hw1 e1 e2
    go_upto_region 17 with (fail)
    have HW2 := Lib.hid (HF.out.k0 3)
    obtain ⟨W2, hW2⟩ : ∃ X, X = W.setCell ⟨P + 1, 0, none⟩ (.int .i64 3) := ⟨_, rfl⟩
    rw [← hW2] at HW2 ⊢
    clear hW2
    clear a0 a1 a2 a3 a4 a5 a6 a7 a8 a9 q0 q1 q2 q3 p0 p1 p2 p3 t0 t1 t2 t3 t4 t5 t6 t7 t8 t9
    obtain ⟨⟨⟨a0, a1, a2, a3, a4⟩, a5, a6, a7, a8, a9⟩, ⟨q0, q1, q2, q3⟩, ⟨p0, p1, p2, p3⟩, ⟨t0, t1, t2, t3, t4⟩, t5, t6, t7, t8, t9⟩ := HW2.out.facts
    go_wp2_with fail
    -- MARKD
    (try simp only [Exit.inBlock, Exit.then])
    refine bodyPost_ret (results_boxTS rfl _ _ w.heap.size (w.heap.size + 1) _ _ _ _ _ _ _ _ _ rfl rfl ((two_other (W := five _ _ _ _ _ _ _) (by omega) _ _).trans (set_five _ _ _ _ _ HW2.out.a)) (set_both _ _ ((five_other (by omega) _ _ _ _ _).trans HW2.out.b))) rfl ?_
    exact ⟨by rw [HV.out]; (try push_cast); rfl, (below_two (below_five HW2.out.o (Nat.le_refl _) _ _ _ _ _) (by omega))⟩
  have e4 : ((cl : Int) == 4) = false := beq_eq_false_iff_ne.2 h4
  by_cases h5 : cl = 5
  · exact absurd h5 (by exact hM.1)
  have e5 : ((cl : Int) == 5) = false := beq_eq_false_iff_ne.2 h5
  by_cases hwc : isWc cl = true
  · exact absurd hwc (by rw [hM.2]; decide)
  have hn3 : ¬ (cl = 9 ∨ cl = 7 ∨ cl = 8) := fun h => hwc (isWc_iff.2 h)
  have e9 : ((cl : Int) == 9) = false := beq_eq_false_iff_ne.2 (fun h => hn3 (.inl h))
  have e7 : ((cl : Int) == 7) = false := beq_eq_false_iff_ne.2 (fun h => hn3 (.inr (.inl h)))
  have e8 : ((cl : Int) == 8) = false := beq_eq_false_iff_ne.2 (fun h => hn3 (.inr (.inr h)))
  have HV : Hid (rfV m (l.drop m) = .tuple #[tokA (0, 0, 0, 0, []), .agg #[.int .i64 (m : Int), .int .i64 ((m : Int) + (wd : Int))], .int .i64 6]) := Lib.hid (by
    obtain ⟨t1, t2⟩ := tok_other HNE.out (by rw [HOK.out]; exact Bool.eq_false_iff.2 hwc) (by rw [HOK.out]; exact h2) (by rw [HOK.out]; exact h3) (by rw [HOK.out]; exact h4) (by rw [HOK.out]; exact h5)
    rw [HOK.out] at t1
    rw [rfV_no (m := m) t1 (by rw [t2]) (by decide)]; push_cast; rfl)
  clear hn3 hwc h2 h3 h4 h5
  go_upto_region 46 with (fail)
  go_region
  go_wp2_with fail
  -- MARKU
  (try simp only [Exit.inBlock, Exit.then])
  refine bodyPost_ret (results_boxTSd rfl _ _ w.heap.size (w.heap.size + 1) _ _ _ _ _ _ _ _ _ rfl rfl ((two_other (W := five _ _ _ _ _ _ _) (by omega) _ _).trans (set_five _ _ _ _ _ HF.out.a)) (set_both _ _ ((five_other (by omega) _ _ _ _ _).trans HF.out.b))) rfl ?_
  exact ⟨by rw [HV.out]; (try push_cast); rfl, ((below_two (below_five HF.out.o (Nat.le_refl _) _ _ _ _ _) (by omega))).drew⟩

set_option maxRecDepth 50000 in
set_option maxHeartbeats 6400000 in
theorem rfirst_9 (v : Value) (l : List UInt8) (m : Nat) (w : World) (h : ArgAt w v (l.map bc)) (hl : l.length ≤ 1000000) (hm : m < l.length) (hM : clsL (l.drop m) = 9) :
    Calls Tryd.prog 19 #[v, .int .i64 (m : Int)] w fun e w' => e = .returned (rfV m (l.drop m)) ∧ Below w.heap.size w w' := by
  have hr := h.row
  have HC := Lib.hid (fun W (hW : Below w.heap.size w W) => rclass_at v l m W (h.below hW (Nat.le_refl _)) hl)
  have HW := Lib.hid (fun (i : Nat) (hi : i ≤ l.length) W (hW : Below w.heap.size w W) => rword_any v l i W (h.below hW (Nat.le_refl _)) hl hi)
  obtain ⟨a, n, c, rfl, hn, hcap, _⟩ := h
  rw [List.length_map] at hn
  have HCell : Hid (∀ (j : Nat) (u : UInt8), l[j]? = some u → ∃ g off, g < w.heap.size ∧ a = some ⟨g, off, none⟩ ∧ ∀ W, Below w.heap.size w W → W.cell? ⟨g, off + j, none⟩ = some (.int .u8 (u.toNat : Int))) := Lib.hid fun j u hj => by
    rcases hr with ⟨a', c', e, hnil⟩ | ⟨g, off, n', cap, e, hn', hg, hcl⟩
    · have : l = [] := List.map_eq_nil_iff.1 hnil
      rw [this] at hj; cases hj
    · obtain ⟨rfl, _, _⟩ := Value.slice.inj e
      refine ⟨g, off, hg, rfl, fun W hW => (hW.cell (p := ⟨g, off + j, none⟩) hg).trans (hcl j (bc u) ?_)⟩
      rw [List.getElem?_map, hj]; rfl
  have HROW := Lib.hid (fun W (hW : Below w.heap.size w W) => RowAt.below hr hW (Nat.le_refl _))
  have HNE : Hid (l.drop m ≠ []) := Lib.hid (drop_ne hm)
  have HN := Lib.hid hn
  rw [← hn] at hm hl
  obtain ⟨cl, hcl⟩ : ∃ cl, clsL (l.drop m) = cl := ⟨_, rfl⟩
  obtain ⟨wd, hwd⟩ : ∃ wd, (dec (l.drop m)).2.1 = wd := ⟨_, rfl⟩
  have hw4 : m + wd ≤ n := by have := wd_le (l.drop m); rw [List.length_drop, hwd, ← HN.out] at this; omega
  rw [hcl, hwd] at HC
  rw [hcl] at hM
  have HCL := Lib.hid hcl
  have HWD := Lib.hid hwd
  have HTC := Lib.hid (tok_cls HNE.out)
  clear hr hn hcl hwd
  subst hM
  obtain ⟨W0, hW0⟩ : ∃ W0, W0 = (w.alloc (.cells #[.int .i64 0, .int .i64 0, .int .i64 0, .int .i64 0, .string ⟨#[]⟩] 33)).alloc (.cells #[.int .i64 0, .int .i64 0] 27) := ⟨_, rfl⟩
  have hsz : W0.heap.size = w.heap.size + 2 := by rw [hW0]; simp
  have hB0 : Below w.heap.size w W0 := by rw [hW0]; exact (below_b1 _ _).alloc (by simp) _
  have b1 : W0.heap[w.heap.size]? = some (.cells #[.int .i64 0, .int .i64 0, .int .i64 0, .int .i64 0, .string ⟨#[]⟩] 33 (0, 0)) := by
    rw [hW0]; exact (Below.heap_alloc _ _ _ (by simp only [World.size_alloc]; omega)).trans (World.alloc_heap_new _ _)
  have b2 : W0.heap[w.heap.size + 1]? = some (.cells #[.int .i64 0, .int .i64 0] 27 (0, 0)) := by
    rw [hW0]; have := World.alloc_heap_new (w.alloc (.cells #[.int .i64 0, .int .i64 0, .int .i64 0, .int .i64 0, .string ⟨#[]⟩] 33)) (.cells #[.int .i64 0, .int .i64 0] 27); rwa [World.size_alloc] at this
  have HB1 := Lib.hid b1
  have HB2 := Lib.hid b2
  have HB0 := Lib.hid hB0
  have HZ := Lib.hid hsz
  clear b1 b2 hB0 hsz
  go_enter Tryd.func19, Tryd.ntmps19
  go_wp2_with fail
  -- MARK0
  rw [← hW0]
  refine (HC.out W0 HB0.out).mono ?_
  rintro e w1 ⟨rfl, hb1⟩
  clear hW0
  have x1 := (hb1.block w.heap.size (by rw [HZ.out]; omega)).trans HB1.out
  have x2 := (hb1.block (w.heap.size + 1) (by rw [HZ.out]; omega)).trans HB2.out
  have hx3 : w.heap.size + 1 < w1.heap.size := by have := hb1.size; rw [HZ.out] at this; omega
  have x4 := HB0.out.trans (hb1.mono (by rw [HZ.out]; omega))
  have HX1 := Lib.hid x1
  have HX2 := Lib.hid x2
  have HX3 := Lib.hid hx3
  have HX4 := Lib.hid x4
  clear x1 x2 hx3 x4 hb1
  -- MARK1
  go_upto_region 4 with (fail)
  -- MARK2
  obtain ⟨P, hP⟩ : ∃ P, w1.heap.size = P := ⟨_, rfl⟩
  have HF : Hid (F4 w ((w1.alloc (.cells #[.int .i64 (m : Int), .int .i64 ((m : Int) + (wd : Int))] 27)).alloc (.cells #[.int .i64 0, .int .i64 (m : Int), .int .i64 ((m : Int) + (wd : Int)), .int .i64 0, .string ⟨#[]⟩] 33)) P (m : Int) ((m : Int) + (wd : Int)) 0 (m : Int) ((m : Int) + (wd : Int)) 0 []) := Lib.hid (by
    obtain ⟨y1, y2, y3⟩ := two_newF (W := w1) hP #[.int .i64 (m : Int), .int .i64 ((m : Int) + (wd : Int))] #[.int .i64 0, .int .i64 (m : Int), .int .i64 ((m : Int) + (wd : Int)), .int .i64 0, .string ⟨#[]⟩] 27 33
    have hx3 := HX3.out
    rw [hP] at hx3
    exact ⟨(y3.block _ (by omega)).trans HX1.out, (y3.block _ (by omega)).trans HX2.out, y1, y2, hx3, HX4.out.trans (y3.mono (by omega))⟩)
  obtain ⟨W, hW⟩ : ∃ X, X = ((w1.alloc (.cells #[.int .i64 (m : Int), .int .i64 ((m : Int) + (wd : Int))] 27)).alloc (.cells #[.int .i64 0, .int .i64 (m : Int), .int .i64 ((m : Int) + (wd : Int)), .int .i64 0, .string ⟨#[]⟩] 33)) := ⟨_, rfl⟩
  rw [← hW] at HF ⊢
  rw [hP]
  clear hW hP HX1 HX2 HX3 HX4 HB0 HB1 HB2 HZ HC
  obtain ⟨⟨⟨a0, a1, a2, a3, a4⟩, a5, a6, a7, a8, a9⟩, ⟨q0, q1, q2, q3⟩, ⟨p0, p1, p2, p3⟩, ⟨t0, t1, t2, t3, t4⟩, t5, t6, t7, t8, t9⟩ := HF.out.facts
  obtain ⟨n1, n2, n3, n4, n5, n6, n7, n8, n9, n10, n11, n12⟩ := HF.out.nes
  -- MARK3
  by_cases h0 : (9 : Int) = 0
  · exact absurd h0 (by decide)
  have HOK : Hid (clsP (l.drop m) = ((9 : Int), wd)) := Lib.hid (by
    rcases HTC.out with ⟨_, e1, _⟩ | ⟨_, e1⟩
    · rw [HCL.out] at e1; exact absurd e1 h0
    · rw [e1, HCL.out, HWD.out])
  have e0 : ((9 : Int) == 0) = false := beq_eq_false_iff_ne.2 h0
  clear HTC h0
  by_cases h2 : (9 : Int) = 2
  · exact absurd h2 (by decide)
  have e2 : ((9 : Int) == 2) = false := beq_eq_false_iff_ne.2 h2
  by_cases h3 : (9 : Int) = 3
  · exact absurd h3 (by decide)
  have e3 : ((9 : Int) == 3) = false := beq_eq_false_iff_ne.2 h3
  by_cases h4 : (9 : Int) = 4
  · exact absurd h4 (by decide)
  have e4 : ((9 : Int) == 4) = false := beq_eq_false_iff_ne.2 h4
  by_cases h5 : (9 : Int) = 5
  · exact absurd h5 (by decide)
  have e5 : ((9 : Int) == 5) = false := beq_eq_false_iff_ne.2 h5
  by_cases hwc : isWc (9 : Int) = true
  · obtain ⟨e1, e6, _⟩ := tok_word (L := l.drop m) (by rw [HOK.out]; exact hwc)
    have CW := HW.out m (by rw [← HN.out]; omega)
    have hwl : m + wordN (l.drop m) ≤ n := by
      have := runN_le isWr (l.drop m)
      rw [List.length_drop, ← HN.out] at this
      unfold wordN; omega
    obtain ⟨q, hq⟩ : ∃ q, m + wordN (l.drop m) = q := ⟨_, rfl⟩
    have hmq : m ≤ q := by omega
    have hseg : (l.drop m).take (wordN (l.drop m)) = seg l m q := by unfold seg; rw [show q - m = wordN (l.drop m) by omega]
    rw [hseg] at e6
    rw [← e1] at hq
    have HRV : Hid (∀ k n s e, wordT (seg l m q) = (k, n, s, e) → rfV m (l.drop m) = if e = 0 then .tuple #[tokA (k, (m : Int), (q : Int), n, s), .agg #[.int .i64 0, .int .i64 0], .int .i64 0] else .tuple #[tokA (0, 0, 0, 0, []), .agg #[.int .i64 (m : Int), .int .i64 (q : Int)], .int .i64 e]) := Lib.hid (by
      intro k n s e he
      by_cases h : e = 0
      · subst h; rw [rfV_ok (m := m) rfl (e6.trans he), if_pos rfl, hq]
      · rw [rfV_no (m := m) rfl (by rw [e6, he]) h, if_neg h, hq])
    rw [e1] at hq
    rw [hq] at CW hwl
    have hxl : (seg l m q).length = q - m := by unfold seg; rw [List.length_take, List.length_drop, ← HN.out]; omega
    have HCV := Lib.hid (fun W2 (hW2 : Below w.heap.size w W2) => conv_seg (HROW.out W2 hW2) hmq hwl hcap)
    obtain ⟨x, hx⟩ : ∃ x, seg l m q = x := ⟨_, rfl⟩
    rw [hx] at HRV HCV hxl
    rw [if_neg (show c ≠ m by omega)] at HCV
    have HCW := Lib.hid CW
    obtain ⟨z, hz⟩ : ∃ z, x.length = z := ⟨_, rfl⟩
    have hsz : (str x).size = z := by rw [str_size, hz]
    have HCI := Lib.hid (fun W => risInt_any x W (by omega))
    have CT := fun W => rInteger_any x W (by omega)
    have HWc := word_case x
    unfold rintV at CT
    obtain ⟨y, hy⟩ : ∃ y, (intE x).1 = y := ⟨_, rfl⟩
    obtain ⟨er, her⟩ : ∃ er, (intE x).2 = er := ⟨_, rfl⟩
    rw [hy, her, hz] at HWc
    rw [hy, her] at CT
    obtain ⟨ib, hib⟩ : ∃ b, intB x = b := ⟨_, rfl⟩
    rw [hib] at HCI HWc
    have HCT := Lib.hid CT
    have hq0 : (0 : Int) ≤ (m : Int) := Int.natCast_nonneg _
    have hq1 : (m : Int) ≤ (q : Int) := by omega
    have hq2 : (q : Int) ≤ (c : Int) := by omega
    clear CT CW e1 e6 hwl hseg hq hx hxl hib hy her hz hwc
    all_goals
      go_upto_region 33 with (fail)
      go_wp2_with fail
      -- MARKN
      refine (HCW.out W HF.out.o).mono ?_
      rintro e w2 ⟨rfl, hb2⟩
      have HF2 := Lib.hid (HF.out.on hb2)
      clear hb2
      clear a0 a1 a2 a3 a4 a5 a6 a7 a8 a9 q0 q1 q2 q3 p0 p1 p2 p3 t0 t1 t2 t3 t4 t5 t6 t7 t8 t9
      obtain ⟨⟨⟨a0, a1, a2, a3, a4⟩, a5, a6, a7, a8, a9⟩, ⟨q0, q1, q2, q3⟩, ⟨p0, p1, p2, p3⟩, ⟨t0, t1, t2, t3, t4⟩, t5, t6, t7, t8, t9⟩ := HF2.out.facts
      go_upto_region 34 with (fail)
      have HW3 := Lib.hid (HF2.out.s1 (q : Int))
      obtain ⟨W3, hW3⟩ : ∃ X, X = w2.setCell ⟨P, 1, none⟩ (.int .i64 (q : Int)) := ⟨_, rfl⟩
      rw [← hW3] at HW3 ⊢
      clear hW3
      clear a0 a1 a2 a3 a4 a5 a6 a7 a8 a9 q0 q1 q2 q3 p0 p1 p2 p3 t0 t1 t2 t3 t4 t5 t6 t7 t8 t9
      obtain ⟨⟨⟨a0, a1, a2, a3, a4⟩, a5, a6, a7, a8, a9⟩, ⟨q0, q1, q2, q3⟩, ⟨p0, p1, p2, p3⟩, ⟨t0, t1, t2, t3, t4⟩, t5, t6, t7, t8, t9⟩ := HW3.out.facts
      have cv := HCV.out W3 HW3.out.o
      go_upto_region 36 with (fail)
      -- MARKO
      clear cv
      have HW4 := Lib.hid ((HW3.out.k1 (m : Int)).k2 (q : Int))
      obtain ⟨W4, hW4⟩ : ∃ X, X = (W3.setCell ⟨P + 1, 1, none⟩ (.int .i64 (m : Int))).setCell ⟨P + 1, 2, none⟩ (.int .i64 (q : Int)) := ⟨_, rfl⟩
      rw [← hW4] at HW4 ⊢
      clear hW4
      clear a0 a1 a2 a3 a4 a5 a6 a7 a8 a9 q0 q1 q2 q3 p0 p1 p2 p3 t0 t1 t2 t3 t4 t5 t6 t7 t8 t9
      obtain ⟨⟨⟨a0, a1, a2, a3, a4⟩, a5, a6, a7, a8, a9⟩, ⟨q0, q1, q2, q3⟩, ⟨p0, p1, p2, p3⟩, ⟨t0, t1, t2, t3, t4⟩, t5, t6, t7, t8, t9⟩ := HW4.out.facts
      go_wp2_with fail
      refine (HCI.out W4).mono ?_
      rintro e w5 ⟨rfl, rfl⟩
      -- MARKP
      rcases HWc with ⟨rfl, rfl, hwt⟩ | ⟨rfl, rfl, hwt⟩ | ⟨rfl, h24, hwt⟩ | ⟨rfl, h24, hwt⟩
      · have HV : Hid (rfV m (l.drop m) = .tuple #[tokA (5, (m : Int), (q : Int), y, []), .agg #[.int .i64 0, .int .i64 0], .int .i64 0]) := Lib.hid (by rw [HRV.out _ _ _ _ hwt, if_pos rfl])
        go_wp2_with fail
        refine (HCT.out W4).mono ?_
        rintro e w5 ⟨rfl, rfl⟩
        go_upto_region 41 with (fail)
        have HW5 := Lib.hid ((HW4.out.k0 5).k3 y)
        obtain ⟨W5, hW5⟩ : ∃ X, X = (W4.setCell ⟨P + 1, 0, none⟩ (.int .i64 5)).setCell ⟨P + 1, 3, none⟩ (.int .i64 y) := ⟨_, rfl⟩
        rw [← hW5] at HW5 ⊢
        clear hW5
        clear a0 a1 a2 a3 a4 a5 a6 a7 a8 a9 q0 q1 q2 q3 p0 p1 p2 p3 t0 t1 t2 t3 t4 t5 t6 t7 t8 t9
        obtain ⟨⟨⟨a0, a1, a2, a3, a4⟩, a5, a6, a7, a8, a9⟩, ⟨q0, q1, q2, q3⟩, ⟨p0, p1, p2, p3⟩, ⟨t0, t1, t2, t3, t4⟩, t5, t6, t7, t8, t9⟩ := HW5.out.facts
        go_wp2_with fail
        -- MARKQ
        (try simp only [Exit.inBlock, Exit.then])
        refine bodyPost_ret (results_boxTS rfl _ _ w.heap.size (w.heap.size + 1) _ _ _ _ _ _ _ _ _ rfl rfl ((two_other (W := five _ _ _ _ _ _ _) (by omega) _ _).trans (set_five _ _ _ _ _ HW5.out.a)) (set_both _ _ ((five_other (by omega) _ _ _ _ _).trans HW5.out.b))) rfl ?_
        exact ⟨by rw [HV.out]; (try push_cast); rfl, (below_two (below_five HW5.out.o (Nat.le_refl _) _ _ _ _ _) (by omega))⟩
      · have HV : Hid (rfV m (l.drop m) = .tuple #[tokA (0, 0, 0, 0, []), .agg #[.int .i64 (m : Int), .int .i64 (q : Int)], .int .i64 7]) := Lib.hid (by rw [HRV.out _ _ _ _ hwt, if_neg (by decide)])
        go_wp2_with fail
        refine (HCT.out W4).mono ?_
        rintro e w5 ⟨rfl, rfl⟩
        go_upto_region 39 with (fail)
        go_region
        go_wp2_with fail
        -- MARKR
        (try simp only [Exit.inBlock, Exit.then])
        refine bodyPost_ret (results_boxTSd rfl _ _ w.heap.size (w.heap.size + 1) _ _ _ _ _ _ _ _ _ rfl rfl ((two_other (W := five _ _ _ _ _ _ _) (by omega) _ _).trans (set_five _ _ _ _ _ HW4.out.a)) (set_both _ _ ((five_other (by omega) _ _ _ _ _).trans HW4.out.b))) rfl ?_
        exact ⟨by rw [HV.out]; (try push_cast); rfl, ((below_two (below_five HW4.out.o (Nat.le_refl _) _ _ _ _ _) (by omega))).drew⟩
      · have HV : Hid (rfV m (l.drop m) = .tuple #[tokA (0, 0, 0, 0, []), .agg #[.int .i64 (m : Int), .int .i64 (q : Int)], .int .i64 3]) := Lib.hid (by rw [HRV.out _ _ _ _ hwt, if_neg (by decide)])
        have d24 : decide ((24 : Int) < (z : Int)) = true := decide_eq_true (by omega)
        go_upto_region 43 with (fail)
        go_region
        go_wp2_with fail
        -- MARKS
        (try simp only [Exit.inBlock, Exit.then])
        refine bodyPost_ret (results_boxTSd rfl _ _ w.heap.size (w.heap.size + 1) _ _ _ _ _ _ _ _ _ rfl rfl ((two_other (W := five _ _ _ _ _ _ _) (by omega) _ _).trans (set_five _ _ _ _ _ HW4.out.a)) (set_both _ _ ((five_other (by omega) _ _ _ _ _).trans HW4.out.b))) rfl ?_
        exact ⟨by rw [HV.out]; (try push_cast); rfl, ((below_two (below_five HW4.out.o (Nat.le_refl _) _ _ _ _ _) (by omega))).drew⟩
      · have HV : Hid (rfV m (l.drop m) = .tuple #[tokA (7, (m : Int), (q : Int), 0, x), .agg #[.int .i64 0, .int .i64 0], .int .i64 0]) := Lib.hid (by rw [HRV.out _ _ _ _ hwt, if_pos rfl])
        have d24 : decide ((24 : Int) < (z : Int)) = false := decide_eq_false (by omega)
        go_upto_region 45 with (fail)
        have HW5 := Lib.hid ((HW4.out.k0 7).k4 x)
        obtain ⟨W5, hW5⟩ : ∃ X, X = (W4.setCell ⟨P + 1, 0, none⟩ (.int .i64 7)).setCell ⟨P + 1, 4, none⟩ (.string (str x)) := ⟨_, rfl⟩
        rw [← hW5] at HW5 ⊢
        clear hW5
        clear a0 a1 a2 a3 a4 a5 a6 a7 a8 a9 q0 q1 q2 q3 p0 p1 p2 p3 t0 t1 t2 t3 t4 t5 t6 t7 t8 t9
        obtain ⟨⟨⟨a0, a1, a2, a3, a4⟩, a5, a6, a7, a8, a9⟩, ⟨q0, q1, q2, q3⟩, ⟨p0, p1, p2, p3⟩, ⟨t0, t1, t2, t3, t4⟩, t5, t6, t7, t8, t9⟩ := HW5.out.facts
        go_wp2_with fail
        -- MARKT
        (try simp only [Exit.inBlock, Exit.then])
        refine bodyPost_ret (results_boxTS rfl _ _ w.heap.size (w.heap.size + 1) _ _ _ _ _ _ _ _ _ rfl rfl ((two_other (W := five _ _ _ _ _ _ _) (by omega) _ _).trans (set_five _ _ _ _ _ HW5.out.a)) (set_both _ _ ((five_other (by omega) _ _ _ _ _).trans HW5.out.b))) rfl ?_
        exact ⟨by rw [HV.out]; (try push_cast); rfl, (below_two (below_five HW5.out.o (Nat.le_refl _) _ _ _ _ _) (by omega))⟩
  exact absurd (by decide) hwc
end Go.Proofs.YtemoeohchhpilaaDoor
