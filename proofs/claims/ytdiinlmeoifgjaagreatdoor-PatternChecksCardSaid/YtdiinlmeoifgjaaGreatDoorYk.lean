/- The small functions on one node of syntax. -/
import Derived.Test.YtdiinlmeoifgjaaGreatDoorYc
namespace Go.Proofs.YtdiinlmeoifgjaaGreatDoor
open Go.RowKit Go.PlainAid

theorem emp_dec (s : List UInt8) : ((str s).toList == []) = decide (s = []) := by
  rw [ByteArray.toList_eq]; show (s == []) = _; cases s <;> simp
theorem dec_eqz (c : Int) : (c == 0) = decide (c = 0) := rfl
set_option maxRecDepth 50000 in
set_option maxHeartbeats 3200000 in
theorem kind_any (x : Sx) (w : World) : Calls Tryz.prog 55 #[sxA x] w fun e w' => e = .returned (.bool (kindX x)) ∧ Below w.heap.size w w' := by
  obtain ⟨k, c, n, s, p, f, t, o⟩ := x
  have hbe := emp_dec s
  obtain ⟨be, hbe2⟩ : ∃ b, decide (s = []) = b := ⟨_, rfl⟩
  obtain ⟨bc, hbc⟩ : ∃ b, (c == 0) = b := ⟨_, rfl⟩
  obtain ⟨bn, hbn⟩ : ∃ b, (n == 0) = b := ⟨_, rfl⟩
  obtain ⟨bg, hbg⟩ : ∃ b, decide (0 ≤ c) = b := ⟨_, rfl⟩
  have HV : Hid (∀ r, (if k = 1 ∨ k = 2 then (bc && be) else if k = 3 then (bc && bn) else if k = 4 then (bg && bn && be) else false) = r → kindX ⟨k, c, n, s, p, f, t, o⟩ = r) := Lib.hid (by
    rintro r rfl; unfold kindX; rw [← hbc, ← hbn, ← hbg, ← hbe2]; rfl)
  have hB := below_b1 w (.cells #[.int .i64 k, .int .i64 c, .int .i64 n, .string (str s), .string (str p), .int .i64 f, .int .i64 t, .int .i64 o] 38)
  show Calls _ _ #[.agg #[.int .i64 k, .int .i64 c, .int .i64 n, .string (str s), .string (str p), .int .i64 f, .int .i64 t, .int .i64 o]] _ _
  rw [hbe2] at hbe
  obtain ⟨S, hS⟩ : ∃ S, str s = S := ⟨_, rfl⟩
  rw [hS] at hbe hB ⊢
  have HB := Lib.hid hB
  clear hbe2 hS hB
  by_cases k1 : k = 1
  · subst k1
    have HW := Lib.hid (HV.out _ (if_pos (.inl rfl)))
    clear HV
    cases bc <;> cases be <;> (
      go_enter Tryz.func55, Tryz.ntmps55
      go_wp2
      go_ret
      exact ⟨ret_bool HW.out.symm, HB.out⟩)
  by_cases k2 : k = 2
  · subst k2
    have HW := Lib.hid (HV.out _ (if_pos (.inr rfl)))
    clear HV
    cases bc <;> cases be <;> (
      go_enter Tryz.func55, Tryz.ntmps55
      go_wp2
      go_ret
      exact ⟨ret_bool HW.out.symm, HB.out⟩)
  by_cases k3 : k = 3
  · subst k3
    have HW := Lib.hid (HV.out _ rfl)
    clear HV
    cases bc <;> cases bn <;> (
      go_enter Tryz.func55, Tryz.ntmps55
      go_wp2
      go_ret
      exact ⟨ret_bool HW.out.symm, HB.out⟩)
  by_cases k4 : k = 4
  · subst k4
    have HW := Lib.hid (HV.out _ rfl)
    clear HV
    cases bg <;> cases bn <;> cases be <;> (
      go_enter Tryz.func55, Tryz.ntmps55
      go_wp2
      go_ret
      exact ⟨ret_bool HW.out.symm, HB.out⟩)
  · have HW := Lib.hid (HV.out false (by rw [if_neg (by omega), if_neg k3, if_neg k4]))
    have g1 : (k == 1) = false := beq_eq_false_iff_ne.2 k1
    have g2 : (k == 2) = false := beq_eq_false_iff_ne.2 k2
    have g3 : (k == 3) = false := beq_eq_false_iff_ne.2 k3
    have g4 : (k == 4) = false := beq_eq_false_iff_ne.2 k4
    clear HV k1 k2 k3 k4
    go_enter Tryz.func55, Tryz.ntmps55
    go_wp2
    go_ret
    exact ⟨ret_bool HW.out.symm, HB.out⟩
theorem isSpan_any (f t : Int) (w : World) : Calls Tryz.prog 64 #[.agg #[.int .i64 f, .int .i64 t]] w fun e w' => e = .returned (.bool (isSpB f t)) ∧ Below w.heap.size w w' := by
  have HB := Lib.hid (below_b1 w (.cells #[.int .i64 f, .int .i64 t] 36))
  have HV : Hid (isSpB f t = (decide (0 ≤ f) && decide (f ≤ t))) := Lib.hid rfl
  obtain ⟨b1, h1⟩ : ∃ b, decide (0 ≤ f) = b := ⟨_, rfl⟩
  obtain ⟨b2, h2⟩ : ∃ b, decide (f ≤ t) = b := ⟨_, rfl⟩
  rw [h1, h2] at HV
  cases b1 <;> cases b2 <;> (
    go_enter Tryz.func64, Tryz.ntmps64
    go_wp2
    go_ret
    exact ⟨ret_bool HV.out.symm, HB.out⟩)
set_option maxRecDepth 50000 in
set_option maxHeartbeats 6400000 in
theorem flds_any (x : Sx) (w : World) (T : STabs w) (hp : x.p.length ≤ 100000) : Calls Tryz.prog 57 #[sxA x] w fun e w' => e = .returned (.int .i64 (fldX x)) ∧ Below w.heap.size w w' := by
  obtain ⟨k, c, n, s, p, f, t, o⟩ := x
  obtain ⟨W0, hW0⟩ : ∃ W0, W0 = w.alloc (.cells #[.int .i64 k, .int .i64 c, .int .i64 n, .string (str s), .string (str p), .int .i64 f, .int .i64 t, .int .i64 o] 38) := ⟨_, rfl⟩
  have hb0 : Below w.heap.size w W0 := by rw [hW0]; exact below_b1 _ _
  have hx0 : W0.heap[w.heap.size]? = some (.cells #[.int .i64 k, .int .i64 c, .int .i64 n, .string (str s), .string (str p), .int .i64 f, .int .i64 t, .int .i64 o] 38 (0, 0)) := by rw [hW0]; exact World.alloc_heap_new _ _
  have HB : Hid (∀ W, Below W0.heap.size W0 W → Below w.heap.size w W ∧ W.cell? ⟨w.heap.size, 0, none⟩ = some (.int .i64 k) ∧ W.cell? ⟨w.heap.size, 1, none⟩ = some (.int .i64 c) ∧ W.cell? ⟨w.heap.size, 2, none⟩ = some (.int .i64 n) ∧ W.cell? ⟨w.heap.size, 3, none⟩ = some (.string (str s)) ∧ W.cell? ⟨w.heap.size, 4, none⟩ = some (.string (str p)) ∧ W.cell? ⟨w.heap.size, 5, none⟩ = some (.int .i64 f) ∧ W.cell? ⟨w.heap.size, 6, none⟩ = some (.int .i64 t) ∧ W.cell? ⟨w.heap.size, 7, none⟩ = some (.int .i64 o)) := Lib.hid fun W hb => by
    have hc2 := (hb.block w.heap.size (Array.getElem?_eq_some_iff.1 hx0).1).trans hx0
    exact ⟨hb0.trans (hb.mono hb0.size), box8_facts hc2⟩
  have CS := Lib.hid (fun W (hW : Below w.heap.size w W) => symbol_any s W (T.below hW))
  have CC := Lib.hid (fun W => check_any p W (by simp only at hp; omega))
  have CP := Lib.hid (fun W => isSpan_any f t W)
  obtain ⟨z, hz⟩ : ∃ z, chkE p = z := ⟨_, rfl⟩
  obtain ⟨y, hy⟩ : ∃ y, symS s = y := ⟨_, rfl⟩
  obtain ⟨b, hb⟩ : ∃ b, isSpB f t = b := ⟨_, rfl⟩
  have HV : Hid (∀ r, (if k = 2 ∧ n ≠ 0 ∧ n ≠ 1 then 7 else if k = 3 ∧ y = false then 6 else if z ≠ 0 then z else if b = false then 6 else if o < 0 then 7 else 0) = r → fldX ⟨k, c, n, s, p, f, t, o⟩ = r) := Lib.hid (by
    rintro r rfl; unfold fldX; rw [← hz, ← hy, ← hb])
  rw [hz] at CC
  rw [hy] at CS
  rw [hb] at CP
  show Calls _ _ #[.agg #[.int .i64 k, .int .i64 c, .int .i64 n, .string (str s), .string (str p), .int .i64 f, .int .i64 t, .int .i64 o]] _ _
  obtain ⟨S, hS⟩ : ∃ S, str s = S := ⟨_, rfl⟩
  obtain ⟨P, hP⟩ : ∃ P, str p = P := ⟨_, rfl⟩
  rw [hS] at CS HB hW0 ⊢
  rw [hP] at CC HB hW0 ⊢
  clear hx0 hb0 hz hy hb T hp hS hP
  by_cases q2 : k = 2 ∧ n ≠ 0 ∧ n ≠ 1
  · have HW := Lib.hid (HV.out 7 (if_pos q2))
    obtain ⟨rfl, q3, q4⟩ := q2
    have g0 : (n != 0) = true := bne_iff_ne.2 q3
    have g1 : (n != 1) = true := bne_iff_ne.2 q4
    obtain ⟨hB, _⟩ := HB.out W0 (Below.refl _ _)
    have HBW := Lib.hid hB
    clear q3 q4 HV hB HB
    go_enter Tryz.func57, Tryz.ntmps57
    go_wp2_with fail
    rw [← hW0]
    go_ret
    exact ⟨ret_int HW.out.symm, HBW.out⟩
  by_cases q3 : k = 3 ∧ y = false
  · have HW := Lib.hid (HV.out 6 (by rw [if_neg q2, if_pos q3]))
    obtain ⟨rfl, rfl⟩ := q3
    obtain ⟨hB, _⟩ := HB.out W0 (Below.refl _ _)
    have CS0 := Lib.hid (CS.out W0 hB)
    have HBW := Lib.hid hB
    clear q2 HV hB HB
    go_enter Tryz.func57, Tryz.ntmps57
    go_wp2_with fail
    rw [← hW0]
    refine CS0.out.mono ?_
    rintro e w1 ⟨rfl, hb1⟩
    go_wp2_with fail
    go_ret
    exact ⟨ret_int HW.out.symm, HBW.out.trans (hb1.mono HBW.out.size)⟩
  have HV2 : Hid (∀ r, (if z ≠ 0 then z else if b = false then 6 else if o < 0 then 7 else 0) = r → fldX ⟨k, c, n, s, p, f, t, o⟩ = r) := Lib.hid (fun r h => HV.out r (by rw [if_neg q2, if_neg q3]; exact h))
  clear HV
  have hor : (k = 2 ∧ n = 0) ∨ (k = 2 ∧ n = 1) ∨ (k = 3 ∧ y = true) ∨ ((k == 2) = false ∧ (k == 3) = false) := by
    by_cases h2 : k = 2
    · by_cases h0 : n = 0
      · exact .inl ⟨h2, h0⟩
      · by_cases h1 : n = 1
        · exact .inr (.inl ⟨h2, h1⟩)
        · exact absurd ⟨h2, h0, h1⟩ q2
    · by_cases h3 : k = 3
      · refine .inr (.inr (.inl ⟨h3, ?_⟩))
        cases y with
        | true => rfl
        | false => exact absurd ⟨h3, rfl⟩ q3
      · exact .inr (.inr (.inr ⟨beq_eq_false_iff_ne.2 h2, beq_eq_false_iff_ne.2 h3⟩))
  have hor2 : (z ≠ 0 ∧ fldX ⟨k, c, n, s, p, f, t, o⟩ = z) ∨ (z = 0 ∧ b = false ∧ fldX ⟨k, c, n, s, p, f, t, o⟩ = 6) ∨ (z = 0 ∧ b = true ∧ decide (o < 0) = true ∧ fldX ⟨k, c, n, s, p, f, t, o⟩ = 7) ∨ (z = 0 ∧ b = true ∧ decide (o < 0) = false ∧ fldX ⟨k, c, n, s, p, f, t, o⟩ = 0) := by
    by_cases h0 : z = 0
    · cases b with
      | false => exact .inr (.inl ⟨h0, rfl, HV2.out _ (by rw [if_neg (by simpa using h0), if_pos rfl])⟩)
      | true =>
        by_cases ho : o < 0
        · exact .inr (.inr (.inl ⟨h0, rfl, decide_eq_true ho, HV2.out _ (by rw [if_neg (by simpa using h0), if_neg (by simp), if_pos ho])⟩))
        · exact .inr (.inr (.inr ⟨h0, rfl, decide_eq_false ho, HV2.out _ (by rw [if_neg (by simpa using h0), if_neg (by simp), if_neg ho])⟩))
    · exact .inl ⟨h0, HV2.out _ (if_pos h0)⟩
  clear HV2 q2 q3
  rcases hor2 with ⟨hz, hV⟩ | ⟨rfl, rfl, hV⟩ | ⟨rfl, rfl, ho, hV⟩ | ⟨rfl, rfl, ho, hV⟩
  · have HW := Lib.hid hV
    have hz1 : (z != 0) = true := bne_iff_ne.2 hz
    clear hV hz CP
    rcases hor with ⟨rfl, rfl⟩ | ⟨rfl, rfl⟩ | ⟨rfl, rfl⟩ | ⟨g2, g3⟩
    all_goals
      go_enter Tryz.func57, Tryz.ntmps57
      go_wp2_with fail
      rw [← hW0]
      first
      | (refine (CS.out W0 (HB.out W0 (Below.refl _ _)).1).mono ?_; rintro e w1 ⟨rfl, hb1⟩; obtain ⟨hB, c0, c1, c2, c3, c4, c5, c6, c7⟩ := HB.out w1 hb1; go_wp2_with fail)
      | (obtain ⟨w1, hb1, hw1⟩ : ∃ w1, Below W0.heap.size W0 w1 ∧ w1 = W0 := ⟨W0, Below.refl _ _, rfl⟩; obtain ⟨hB, c0, c1, c2, c3, c4, c5, c6, c7⟩ := HB.out w1 hb1; rw [← hw1])
      refine (CC.out _).mono ?_
      rintro e w2 ⟨rfl, hb2⟩
      obtain ⟨hB2, d0, d1, d2, d3, d4, d5, d6, d7⟩ := HB.out w2 (hb1.trans (hb2.mono hb1.size))
      go_wp2_with fail
      go_ret
      exact ⟨ret_int HW.out.symm, hB2⟩
  all_goals
    have HW := Lib.hid hV
    clear hV
    rcases hor with ⟨rfl, rfl⟩ | ⟨rfl, rfl⟩ | ⟨rfl, rfl⟩ | ⟨g2, g3⟩
    all_goals
      go_enter Tryz.func57, Tryz.ntmps57
      go_wp2_with fail
      rw [← hW0]
      first
      | (refine (CS.out W0 (HB.out W0 (Below.refl _ _)).1).mono ?_; rintro e w1 ⟨rfl, hb1⟩; obtain ⟨hB, c0, c1, c2, c3, c4, c5, c6, c7⟩ := HB.out w1 hb1; go_wp2_with fail)
      | (obtain ⟨w1, hb1, hw1⟩ : ∃ w1, Below W0.heap.size W0 w1 ∧ w1 = W0 := ⟨W0, Below.refl _ _, rfl⟩; obtain ⟨hB, c0, c1, c2, c3, c4, c5, c6, c7⟩ := HB.out w1 hb1; rw [← hw1])
      refine (CC.out _).mono ?_
      rintro e w2 ⟨rfl, hb2⟩
      obtain ⟨hB2, d0, d1, d2, d3, d4, d5, d6, d7⟩ := HB.out w2 (hb1.trans (hb2.mono hb1.size))
      go_wp2_with fail
      refine (CP.out _).mono ?_
      rintro e w3 ⟨rfl, hb3⟩
      obtain ⟨hB3, d0, d1, d2, d3, d4, d5, d6, d7⟩ := HB.out w3 ((hb1.trans (hb2.mono hb1.size)).trans (hb3.mono (hb1.trans (hb2.mono hb1.size)).size))
      go_wp2_with fail
      go_ret
      exact ⟨ret_int HW.out.symm, hB3⟩
end Go.Proofs.YtdiinlmeoifgjaaGreatDoor
