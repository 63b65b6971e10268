/- LexerLexes: the reference's first, a part. -/
import Derived.Test.YtemoeohchhpilaaDoorLxcl
namespace Go.Proofs.YtemoeohchhpilaaDoor
open Go.RowKit Go.PlainAid

set_option maxRecDepth 50000 in
set_option maxHeartbeats 6400000 in
theorem rfirst_h (v : Value) (l : List UInt8) (m : Nat) (w : World) (h : ArgAt w v (l.map bc)) (hl : l.length ≤ 1000000) (hm : m < l.length) (hM : clsL (l.drop m) = 5) :
    Calls Tryd.prog 19 #[v, .int .i64 (m : Int)] w fun e w' => e = .returned (rfV m (l.drop m)) ∧ Below w.heap.size w w' := by
  have hr := h.row
  have HC := Lib.hid (fun W (hW : Below w.heap.size w W) => rclass_at v l m W (h.below hW (Nat.le_refl _)) hl)
  have HW := Lib.hid (fun (i : Nat) (hi : i ≤ l.length) W (hW : Below w.heap.size w W) => rword_any v l i W (h.below hW (Nat.le_refl _)) hl hi)
  obtain ⟨a, n, c, rfl, hn, hcap, _⟩ := h
  rw [List.length_map] at hn
  have HCell : Hid (∀ (j : Nat) (u : UInt8), l[j]? = some u → ∃ g off, g < w.heap.size ∧ a = some ⟨g, off, none⟩ ∧ ∀ W, Below w.heap.size w W → W.cell? ⟨g, off + j, none⟩ = some (.int .u8 (u.toNat : Int))) := Lib.hid fun j u hj => by
    rcases hr with ⟨a', c', e, hnil⟩ | ⟨g, off, n', cap, e, hn', hg, hcl⟩
    · have : l = [] := List.map_eq_nil_iff.1 hnil
      rw [this] at hj; cases hj
    · obtain ⟨rfl, _, _⟩ := Value.slice.inj e
      refine ⟨g, off, hg, rfl, fun W hW => (hW.cell (p := ⟨g, off + j, none⟩) hg).trans (hcl j (bc u) ?_)⟩
      rw [List.getElem?_map, hj]; rfl
  have HROW := Lib.hid (fun W (hW : Below w.heap.size w W) => RowAt.below hr hW (Nat.le_refl _))
  have HNE : Hid (l.drop m ≠ []) := Lib.hid (drop_ne hm)
  have HN := Lib.hid hn
  rw [← hn] at hm hl
  obtain ⟨cl, hcl⟩ : ∃ cl, clsL (l.drop m) = cl := ⟨_, rfl⟩
  obtain ⟨wd, hwd⟩ : ∃ wd, (dec (l.drop m)).2.1 = wd := ⟨_, rfl⟩
  have hw4 : m + wd ≤ n := by have := wd_le (l.drop m); rw [List.length_drop, hwd, ← HN.out] at this; omega
  rw [hcl, hwd] at HC
  rw [hcl] at hM
  have HCL := Lib.hid hcl
  have HWD := Lib.hid hwd
  have HTC := Lib.hid (tok_cls HNE.out)
  clear hr hn hcl hwd
  subst hM
  obtain ⟨W0, hW0⟩ : ∃ W0, W0 = (w.alloc (.cells #[.int .i64 0, .int .i64 0, .int .i64 0, .int .i64 0, .string ⟨#[]⟩] 33)).alloc (.cells #[.int .i64 0, .int .i64 0] 27) := ⟨_, rfl⟩
  have hsz : W0.heap.size = w.heap.size + 2 := by rw [hW0]; simp
  have hB0 : Below w.heap.size w W0 := by rw [hW0]; exact (below_b1 _ _).alloc (by simp) _
  have b1 : W0.heap[w.heap.size]? = some (.cells #[.int .i64 0, .int .i64 0, .int .i64 0, .int .i64 0, .string ⟨#[]⟩] 33 (0, 0)) := by
    rw [hW0]; exact (Below.heap_alloc _ _ _ (by simp only [World.size_alloc]; omega)).trans (World.alloc_heap_new _ _)
  have b2 : W0.heap[w.heap.size + 1]? = some (.cells #[.int .i64 0, .int .i64 0] 27 (0, 0)) := by
    rw [hW0]; have := World.alloc_heap_new (w.alloc (.cells #[.int .i64 0, .int .i64 0, .int .i64 0, .int .i64 0, .string ⟨#[]⟩] 33)) (.cells #[.int .i64 0, .int .i64 0] 27); rwa [World.size_alloc] at this
  have HB1 := Lib.hid b1
  have HB2 := Lib.hid b2
  have HB0 := Lib.hid hB0
  have HZ := Lib.hid hsz
  clear b1 b2 hB0 hsz
  go_enter Tryd.func19, Tryd.ntmps19
  go_wp2_with fail
  -- MARK0
  rw [← hW0]
  refine (HC.out W0 HB0.out).mono ?_
  rintro e w1 ⟨rfl, hb1⟩
  clear hW0
  have x1 := (hb1.block w.heap.size (by rw [HZ.out]; omega)).trans HB1.out
  have x2 := (hb1.block (w.heap.size + 1) (by rw [HZ.out]; omega)).trans HB2.out
  have hx3 : w.heap.size + 1 < w1.heap.size := by have := hb1.size; rw [HZ.out] at this; omega
  have x4 := HB0.out.trans (hb1.mono (by rw [HZ.out]; omega))
  have HX1 := Lib.hid x1
  have HX2 := Lib.hid x2
  have HX3 := Lib.hid hx3
  have HX4 := Lib.hid x4
  clear x1 x2 hx3 x4 hb1
  -- MARK1
  go_upto_region 4 with (fail)
  -- MARK2
  obtain ⟨P, hP⟩ : ∃ P, w1.heap.size = P := ⟨_, rfl⟩
  have HF : Hid (F4 w ((w1.alloc (.cells #[.int .i64 (m : Int), .int .i64 ((m : Int) + (wd : Int))] 27)).alloc (.cells #[.int .i64 0, .int .i64 (m : Int), .int .i64 ((m : Int) + (wd : Int)), .int .i64 0, .string ⟨#[]⟩] 33)) P (m : Int) ((m : Int) + (wd : Int)) 0 (m : Int) ((m : Int) + (wd : Int)) 0 []) := Lib.hid (by
    obtain ⟨y1, y2, y3⟩ := two_newF (W := w1) hP #[.int .i64 (m : Int), .int .i64 ((m : Int) + (wd : Int))] #[.int .i64 0, .int .i64 (m : Int), .int .i64 ((m : Int) + (wd : Int)), .int .i64 0, .string ⟨#[]⟩] 27 33
    have hx3 := HX3.out
    rw [hP] at hx3
    exact ⟨(y3.block _ (by omega)).trans HX1.out, (y3.block _ (by omega)).trans HX2.out, y1, y2, hx3, HX4.out.trans (y3.mono (by omega))⟩)
  obtain ⟨W, hW⟩ : ∃ X, X = ((w1.alloc (.cells #[.int .i64 (m : Int), .int .i64 ((m : Int) + (wd : Int))] 27)).alloc (.cells #[.int .i64 0, .int .i64 (m : Int), .int .i64 ((m : Int) + (wd : Int)), .int .i64 0, .string ⟨#[]⟩] 33)) := ⟨_, rfl⟩
  rw [← hW] at HF ⊢
  rw [hP]
  clear hW hP HX1 HX2 HX3 HX4 HB0 HB1 HB2 HZ HC
  obtain ⟨⟨⟨a0, a1, a2, a3, a4⟩, a5, a6, a7, a8, a9⟩, ⟨q0, q1, q2, q3⟩, ⟨p0, p1, p2, p3⟩, ⟨t0, t1, t2, t3, t4⟩, t5, t6, t7, t8, t9⟩ := HF.out.facts
  obtain ⟨n1, n2, n3, n4, n5, n6, n7, n8, n9, n10, n11, n12⟩ := HF.out.nes
  -- MARK3
  by_cases h0 : (5 : Int) = 0
  · exact absurd h0 (by decide)
  have HOK : Hid (clsP (l.drop m) = ((5 : Int), wd)) := Lib.hid (by
    rcases HTC.out with ⟨_, e1, _⟩ | ⟨_, e1⟩
    · rw [HCL.out] at e1; exact absurd e1 h0
    · rw [e1, HCL.out, HWD.out])
  have e0 : ((5 : Int) == 0) = false := beq_eq_false_iff_ne.2 h0
  clear HTC h0
  by_cases h2 : (5 : Int) = 2
  · exact absurd h2 (by decide)
  have e2 : ((5 : Int) == 2) = false := beq_eq_false_iff_ne.2 h2
  by_cases h3 : (5 : Int) = 3
  · exact absurd h3 (by decide)
  have e3 : ((5 : Int) == 3) = false := beq_eq_false_iff_ne.2 h3
  by_cases h4 : (5 : Int) = 4
  · exact absurd h4 (by decide)
  have e4 : ((5 : Int) == 4) = false := beq_eq_false_iff_ne.2 h4
  by_cases h5 : (5 : Int) = 5
  · clear h5
    obtain ⟨t, ht, hw1⟩ := head_hash (L := l.drop m) (by rw [HOK.out])
    obtain rfl : wd = 1 := by rw [HOK.out] at hw1; exact hw1
    have htl : l.drop (m + 1) = t := by rw [← List.drop_drop, ht]; rfl
    have hm0 : (0 : Int) ≤ (m : Int) + 1 := by omega
    by_cases h59 : t.head? = some 59
    · obtain ⟨t2, rfl⟩ : ∃ t2, t = 59 :: t2 := by
        cases t with
        | nil => cases h59
        | cons u r => exact ⟨r, by rw [List.head?_cons] at h59; rw [Option.some.inj h59]⟩
      obtain ⟨e1, e2⟩ := tok_skip t2
      have HV : Hid (rfV m (l.drop m) = .tuple #[tokA (4, (m : Int), ((m : Int) + 2), 0, []), .agg #[.int .i64 0, .int .i64 0], .int .i64 0]) := Lib.hid (by rw [ht, rfV_ok (m := m) e1 e2]; push_cast; rfl)
      have hu : l[m + 1]? = some 59 := by
        have := congrArg List.head? htl
        rw [List.head?_drop] at this; exact this
      have hmn : m + 1 < n := by have := (List.getElem?_eq_some_iff.1 hu).1; rw [← HN.out] at this; exact this
      have hd1 : (m : Int) + 1 < (n : Int) := by omega
      obtain ⟨g, off, hgl, rfl, hcell⟩ := HCell.out (m + 1) 59 hu
      have c0 : W.cell? ⟨g, off + (m + 1), none⟩ = some (.int .u8 59) := hcell W HF.out.o
      clear ht htl hw1 e1 e2 h59 hu hcell
      go_upto_region 21 with (fail)
      -- MARKE
      clear c0
      have HW2 := Lib.hid ((HF.out.k0 4).k2 ((m : Int) + 2))
      obtain ⟨W2, hW2⟩ : ∃ X, X = (W.setCell ⟨P + 1, 0, none⟩ (.int .i64 4)).setCell ⟨P + 1, 2, none⟩ (.int .i64 ((m : Int) + 2)) := ⟨_, rfl⟩
      rw [← hW2] at HW2 ⊢
      clear hW2
      clear a0 a1 a2 a3 a4 a5 a6 a7 a8 a9 q0 q1 q2 q3 p0 p1 p2 p3 t0 t1 t2 t3 t4 t5 t6 t7 t8 t9
      obtain ⟨⟨⟨a0, a1, a2, a3, a4⟩, a5, a6, a7, a8, a9⟩, ⟨q0, q1, q2, q3⟩, ⟨p0, p1, p2, p3⟩, ⟨t0, t1, t2, t3, t4⟩, t5, t6, t7, t8, t9⟩ := HW2.out.facts
      go_wp2_with fail
      -- MARKF
      (try simp only [Exit.inBlock, Exit.then])
      refine bodyPost_ret (results_boxTS rfl _ _ w.heap.size (w.heap.size + 1) _ _ _ _ _ _ _ _ _ rfl rfl ((two_other (W := five _ _ _ _ _ _ _) (by omega) _ _).trans (set_five _ _ _ _ _ HW2.out.a)) (set_both _ _ ((five_other (by omega) _ _ _ _ _).trans HW2.out.b))) rfl ?_
      exact ⟨by rw [HV.out]; (try push_cast); rfl, (below_two (below_five HW2.out.o (Nat.le_refl _) _ _ _ _ _) (by omega))⟩
    · obtain ⟨e1, e2⟩ := tok_hash h59
      have CW := HW.out (m + 1) (by rw [← HN.out]; omega)
      rw [htl] at CW
      have hwl : m + 1 + wordN t ≤ n := by
        have := runN_le isWr t
        have h2 := congrArg List.length htl
        rw [List.length_drop, ← HN.out] at h2
        unfold wordN; omega
      obtain ⟨q, hq⟩ : ∃ q, m + 1 + wordN t = q := ⟨_, rfl⟩
      rw [hq] at CW hwl
      have hqm : m < q := by omega
      have hseg : seg l m q = 35 :: t.take (wordN t) := by
        unfold seg; rw [ht, show q - m = wordN t + 1 by omega, List.take_succ_cons]
      rw [← hseg] at e2
      obtain ⟨x, hx⟩ : ∃ x, seg l m q = x := ⟨_, rfl⟩
      rw [hx] at e2 hseg
      have HRV : Hid (∀ k n s e, tokT (35 :: t) = (k, n, s, e) → rfV m (l.drop m) = if e = 0 then .tuple #[tokA (k, (m : Int), (q : Int), n, s), .agg #[.int .i64 0, .int .i64 0], .int .i64 0] else .tuple #[tokA (0, 0, 0, 0, []), .agg #[.int .i64 (m : Int), .int .i64 (q : Int)], .int .i64 e]) := Lib.hid (by
        intro k n s e he
        have hmq : ((m + (1 + wordN t) : Nat) : Int) = (q : Int) := by rw [← hq]; push_cast; omega
        by_cases h : e = 0
        · subst h; rw [ht, rfV_ok (m := m) e1 he, if_pos rfl, hmq]
        · rw [ht, rfV_no (m := m) e1 (by rw [he]) h, if_neg h, hmq])
      have HE2 := Lib.hid e2
      have HCV := Lib.hid (fun W2 (hW2 : Below w.heap.size w W2) => conv_seg (HROW.out W2 hW2) (Nat.le_of_lt hqm) hwl hcap)
      rw [hx, if_neg (show c ≠ m by omega)] at HCV
      have HCW := Lib.hid CW
      have hgd : decide ((m : Int) + 1 < (n : Int)) = false ∨ (∃ u, (u == (59 : Int)) = false ∧ (m : Int) + 1 < (n : Int) ∧ ∃ g off, g < w.heap.size ∧ a = some ⟨g, off, none⟩ ∧ W.cell? ⟨g, off + (m + 1), none⟩ = some (.int .u8 u)) := by
        by_cases hmn : m + 1 < n
        · right
          obtain ⟨u, hu⟩ : ∃ u, l[m + 1]? = some u := ⟨_, List.getElem?_eq_getElem (by rw [← HN.out]; exact hmn)⟩
          obtain ⟨g, off, hgl, ha, hcell⟩ := HCell.out (m + 1) u hu
          refine ⟨(u.toNat : Int), beq_eq_false_iff_ne.2 (fun e => h59 ?_), by omega, g, off, hgl, ha, hcell W HF.out.o⟩
          have := congrArg List.head? htl
          rw [List.head?_drop, hu] at this
          rw [← this]; exact congrArg some (UInt8.toNat_inj.1 (by show u.toNat = 59; omega))
        · left; exact decide_eq_false (by omega)
      have hq0 : (0 : Int) ≤ (m : Int) := Int.natCast_nonneg _
      have hq1 : (m : Int) ≤ (q : Int) := by omega
      have hq2 : (q : Int) ≤ (c : Int) := by omega
      have hcs : x = [35, 116] ∨ (x ≠ [35, 116] ∧ x = [35, 102]) ∨ (x ≠ [35, 116] ∧ x ≠ [35, 102]) := by
        by_cases h1 : x = [35, 116]
        · exact .inl h1
        · by_cases h2 : x = [35, 102]
          · exact .inr (.inl ⟨h1, h2⟩)
          · exact .inr (.inr ⟨h1, h2⟩)
      clear ht htl hw1 e1 e2 h59 hwl hq hseg hx CW
      rcases hgd with hgd | ⟨u, hu, hgd, g, off, hgl, rfl, c0⟩
      all_goals
        go_upto_region 22 with (fail)
        go_wp2_with fail
        -- MARKG
        (try clear c0)
        refine (HCW.out W HF.out.o).mono ?_
        rintro e w2 ⟨rfl, hb2⟩
        have HF2 := Lib.hid (HF.out.on hb2)
        clear hb2
        clear a0 a1 a2 a3 a4 a5 a6 a7 a8 a9 q0 q1 q2 q3 p0 p1 p2 p3 t0 t1 t2 t3 t4 t5 t6 t7 t8 t9
        obtain ⟨⟨⟨a0, a1, a2, a3, a4⟩, a5, a6, a7, a8, a9⟩, ⟨q0, q1, q2, q3⟩, ⟨p0, p1, p2, p3⟩, ⟨t0, t1, t2, t3, t4⟩, t5, t6, t7, t8, t9⟩ := HF2.out.facts
        go_upto_region 23 with (fail)
        -- MARKH
        have HW3 := Lib.hid (HF2.out.s1 (q : Int))
        obtain ⟨W3, hW3⟩ : ∃ X, X = w2.setCell ⟨P, 1, none⟩ (.int .i64 (q : Int)) := ⟨_, rfl⟩
        rw [← hW3] at HW3 ⊢
        clear hW3
        clear a0 a1 a2 a3 a4 a5 a6 a7 a8 a9 q0 q1 q2 q3 p0 p1 p2 p3 t0 t1 t2 t3 t4 t5 t6 t7 t8 t9
        obtain ⟨⟨⟨a0, a1, a2, a3, a4⟩, a5, a6, a7, a8, a9⟩, ⟨q0, q1, q2, q3⟩, ⟨p0, p1, p2, p3⟩, ⟨t0, t1, t2, t3, t4⟩, t5, t6, t7, t8, t9⟩ := HW3.out.facts
        go_region
        -- MARKI
        have HW4 := Lib.hid ((((HW3.out.k0 6).k1 (m : Int)).k2 (q : Int)).drew)
        obtain ⟨W4, hW4⟩ : ∃ X, X = (((W3.setCell ⟨P + 1, 0, none⟩ (.int .i64 6)).setCell ⟨P + 1, 1, none⟩ (.int .i64 (m : Int))).setCell ⟨P + 1, 2, none⟩ (.int .i64 (q : Int))).drew := ⟨_, rfl⟩
        rw [← hW4] at HW4 ⊢
        clear hW4
        clear a0 a1 a2 a3 a4 a5 a6 a7 a8 a9 q0 q1 q2 q3 p0 p1 p2 p3 t0 t1 t2 t3 t4 t5 t6 t7 t8 t9
        obtain ⟨⟨⟨a0, a1, a2, a3, a4⟩, a5, a6, a7, a8, a9⟩, ⟨q0, q1, q2, q3⟩, ⟨p0, p1, p2, p3⟩, ⟨t0, t1, t2, t3, t4⟩, t5, t6, t7, t8, t9⟩ := HW4.out.facts
        have cv := HCV.out W4 HW4.out.o
        (try simp only [Option.map_some, Go.WideShapes.add_plain] at cv)
        rcases hcs with hc | ⟨hc, hc2⟩ | ⟨hc, hc2⟩
        · have HV : Hid (rfV m (l.drop m) = .tuple #[tokA (6, (m : Int), (q : Int), 1, []), .agg #[.int .i64 0, .int .i64 0], .int .i64 0]) := Lib.hid (by rw [HRV.out 6 1 [] 0 (by rw [HE2.out, if_pos hc]), if_pos rfl])
          have E1 : ((str x).toList == [35, 116]) = true := by rw [emp_str, hc]; rfl
          clear hc
          go_upto_region 26 with (fail)
          -- MARKJ
          clear cv
          have HW5 := Lib.hid (HW4.out.k3 1)
          obtain ⟨W5, hW5⟩ : ∃ X, X = W4.setCell ⟨P + 1, 3, none⟩ (.int .i64 1) := ⟨_, rfl⟩
          rw [← hW5] at HW5 ⊢
          clear hW5
          clear a0 a1 a2 a3 a4 a5 a6 a7 a8 a9 q0 q1 q2 q3 p0 p1 p2 p3 t0 t1 t2 t3 t4 t5 t6 t7 t8 t9
          obtain ⟨⟨⟨a0, a1, a2, a3, a4⟩, a5, a6, a7, a8, a9⟩, ⟨q0, q1, q2, q3⟩, ⟨p0, p1, p2, p3⟩, ⟨t0, t1, t2, t3, t4⟩, t5, t6, t7, t8, t9⟩ := HW5.out.facts
          go_wp2_with fail
          -- MARKK
          (try simp only [Exit.inBlock, Exit.then])
          refine bodyPost_ret (results_boxTS rfl _ _ w.heap.size (w.heap.size + 1) _ _ _ _ _ _ _ _ _ rfl rfl ((two_other (W := five _ _ _ _ _ _ _) (by omega) _ _).trans (set_five _ _ _ _ _ HW5.out.a)) (set_both _ _ ((five_other (by omega) _ _ _ _ _).trans HW5.out.b))) rfl ?_
          exact ⟨by rw [HV.out]; (try push_cast); rfl, (below_two (below_five HW5.out.o (Nat.le_refl _) _ _ _ _ _) (by omega))⟩
        · have HV : Hid (rfV m (l.drop m) = .tuple #[tokA (6, (m : Int), (q : Int), 0, []), .agg #[.int .i64 0, .int .i64 0], .int .i64 0]) := Lib.hid (by rw [HRV.out 6 0 [] 0 (by rw [HE2.out, if_neg hc, if_pos hc2]), if_pos rfl])
          have E1 : ((str x).toList == [35, 116]) = false := by rw [emp_str]; exact beq_eq_false_iff_ne.2 hc
          have E2 : ((str x).toList == [35, 102]) = true := by rw [emp_str, hc2]; rfl
          clear hc hc2
          go_wp2_with fail
          -- MARKL
          (try simp only [Exit.inBlock, Exit.then])
          refine bodyPost_ret (results_boxTS rfl _ _ w.heap.size (w.heap.size + 1) _ _ _ _ _ _ _ _ _ rfl rfl ((two_other (W := five _ _ _ _ _ _ _) (by omega) _ _).trans (set_five _ _ _ _ _ HW4.out.a)) (set_both _ _ ((five_other (by omega) _ _ _ _ _).trans HW4.out.b))) rfl ?_
          exact ⟨by rw [HV.out]; (try push_cast); rfl, (below_two (below_five HW4.out.o (Nat.le_refl _) _ _ _ _ _) (by omega))⟩
        · have HV : Hid (rfV m (l.drop m) = .tuple #[tokA (0, 0, 0, 0, []), .agg #[.int .i64 (m : Int), .int .i64 (q : Int)], .int .i64 6]) := Lib.hid (by rw [HRV.out 0 0 [] 6 (by rw [HE2.out, if_neg hc, if_neg hc2]), if_neg (by decide)])
          have E1 : ((str x).toList == [35, 116]) = false := by rw [emp_str]; exact beq_eq_false_iff_ne.2 hc
          have E2 : ((str x).toList == [35, 102]) = false := by rw [emp_str]; exact beq_eq_false_iff_ne.2 hc2
          clear hc hc2
          go_upto_region 29 with (fail)
          clear cv
          go_region
          -- MARKM
          go_wp2_with fail
          (try simp only [Exit.inBlock, Exit.then])
          refine bodyPost_ret (results_boxTSd rfl _ _ w.heap.size (w.heap.size + 1) _ _ _ _ _ _ _ _ _ rfl rfl ((two_other (W := five _ _ _ _ _ _ _) (by omega) _ _).trans (set_five _ _ _ _ _ HW4.out.a)) (set_both _ _ ((five_other (by omega) _ _ _ _ _).trans HW4.out.b))) rfl ?_
          exact ⟨by rw [HV.out]; (try push_cast); rfl, ((below_two (below_five HW4.out.o (Nat.le_refl _) _ _ _ _ _) (by omega))).drew⟩
  exact absurd rfl h5
end Go.Proofs.YtemoeohchhpilaaDoor
