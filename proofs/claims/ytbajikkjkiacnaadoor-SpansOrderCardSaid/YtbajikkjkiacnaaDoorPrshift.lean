/- Layer 3: the reference's Shift and Nest. -/
import Derived.Test.YtbajikkjkiacnaaDoorPlawN
namespace Go.Proofs.YtbajikkjkiacnaaDoor
open Go.RowKit Go.PlainAid

set_option maxRecDepth 50000 in
set_option maxHeartbeats 6400000 in
theorem rShift_any (a b c d n : Int) (w : World) : Calls Tryd.prog 24 #[.agg #[.int .i64 a, .int .i64 b], .agg #[.int .i64 c, .int .i64 d], .int .i64 n] w fun e w' => e = .returned (shiftV (shiftS (a, b) (c, d) n)) ∧ Below w.heap.size w w' := by
  obtain ⟨W0, hW0⟩ : ∃ W0, W0 = ((w.alloc (.cells #[.int .i64 a, .int .i64 b] 25)).alloc (.cells #[.int .i64 c, .int .i64 d] 25)).alloc (.cells #[.int .i64 0, .int .i64 0] 25) := ⟨_, rfl⟩
  have HT := Lib.hid fun (W : World) (h : Below W0.heap.size W0 W) => three_cells w W a b c d 0 0 25 25 25 (by subst hW0; exact h)
  have hb := Below.refl W0.heap.size W0
  cases h1 : okS (a, b)
  · have HV : Hid (shiftV (shiftS (a, b) (c, d) n) = .tuple #[.agg #[.int .i64 0, .int .i64 0], .int .i64 6]) := Lib.hid (by unfold shiftS; rw [if_pos (.inl h1)]; rfl)
    go_enter Tryd.func24, Tryd.ntmps24
    go_wp2_with (go_at_call 42; rw [← hW0]; refine (ris_any _ _ _).mono ?_; rintro e w1 ⟨rfl, hb1⟩; rw [h1]; have hb := hb.trans (hb1.mono hb.size); obtain ⟨c0, c1, c2, c3, hz, c5, hB⟩ := HT.out _ hb; obtain ⟨z0, z1, z2, z3⟩ := box_facts (n := w.heap.size + 1 + 1) hz)
    (try simp only [Exit.inBlock, Exit.then])
    refine bodyPost_ret (results_box2 rfl _ _ (w.heap.size + 1 + 1) _ _ _ rfl (set_both _ _ hz)) rfl ?_; exact ⟨(congrArg Ending.returned HV.out).symm, set_two hB (by omega)⟩
  · cases h2 : okS (c, d)
    · have HV : Hid (shiftV (shiftS (a, b) (c, d) n) = .tuple #[.agg #[.int .i64 0, .int .i64 0], .int .i64 6]) := Lib.hid (by unfold shiftS; rw [if_pos (.inr h2)]; rfl)
      go_enter Tryd.func24, Tryd.ntmps24
      go_wp2_with (go_at_call 42; (first | rw [← hW0] | skip); refine (ris_any _ _ _).mono ?_; rintro e w1 ⟨rfl, hb1⟩; (first | rw [h1] | rw [h2]); have hb := hb.trans (hb1.mono hb.size); obtain ⟨c0, c1, c2, c3, hz, c5, hB⟩ := HT.out _ hb; obtain ⟨z0, z1, z2, z3⟩ := box_facts (n := w.heap.size + 1 + 1) hz)
      (try simp only [Exit.inBlock, Exit.then])
      refine bodyPost_ret (results_box2 rfl _ _ (w.heap.size + 1 + 1) _ _ _ rfl (set_both _ _ hz)) rfl ?_; exact ⟨(congrArg Ending.returned HV.out).symm, set_two hB (by omega)⟩
    · by_cases hn : n < 0 ∨ 2305843009213693952 < n
      · have HV : Hid (shiftV (shiftS (a, b) (c, d) n) = .tuple #[.agg #[.int .i64 0, .int .i64 0], .int .i64 7]) := Lib.hid (by unfold shiftS; rw [h1, h2, if_neg (by simp), if_pos hn]; rfl)
        by_cases hn0 : n < 0
        all_goals (
          go_enter Tryd.func24, Tryd.ntmps24
          go_wp2_with (go_at_call 42; (first | rw [← hW0] | skip); refine (ris_any _ _ _).mono ?_; rintro e w1 ⟨rfl, hb1⟩; (first | rw [h1] | rw [h2]); have hb := hb.trans (hb1.mono hb.size); obtain ⟨c0, c1, c2, c3, hz, c5, hB⟩ := HT.out _ hb; obtain ⟨z0, z1, z2, z3⟩ := box_facts (n := w.heap.size + 1 + 1) hz)
          all_goals (try simp only [Exit.inBlock, Exit.then])
          all_goals first
            | (exfalso; omega)
            | (refine bodyPost_ret (results_box2 rfl _ _ (w.heap.size + 1 + 1) _ _ _ rfl (set_both _ _ hz)) rfl ?_; exact ⟨(congrArg Ending.returned HV.out).symm, set_two hB (by omega)⟩))
      · have HV : Hid (shiftV (shiftS (a, b) (c, d) n) = shiftV (if (ovS (a, b) (c, d) || (wiS (a, b) (c, d) && !wiS (c, d) (a, b))) = true then ((0, 0), 4) else if beS (a, b) (c, d) = true then ((a, b), 0)
          else if beS (c, d) (a, b) = true then ((a + (n - (d - c)), b + (n - (d - c))), 0) else ((a, b + (n - (d - c))), 0))) := Lib.hid (by unfold shiftS; rw [h1, h2, if_neg (by simp), if_neg hn])
        have HP : 0 ≤ a ∧ a ≤ b ∧ b ≤ 4611686018427387904 ∧ 0 ≤ c ∧ c ≤ d ∧ d ≤ 4611686018427387904 := by rw [okS_iff] at h1 h2; simp only at h1 h2; omega
        have hn1 : 0 ≤ n := by omega
        have hn2 : n ≤ 2305843009213693952 := by omega
        have hd1 : decide (n < 0) = false := decide_eq_false (by omega)
        have hd2 : decide (2305843009213693952 < n) = false := decide_eq_false (by omega)
        have ho : ovS (a, b) (c, d) = (!wiS (a, b) (c, d) && !wiS (c, d) (a, b) && !beS (a, b) (c, d) && !beS (c, d) (a, b)) := rfl
        rw [ho] at HV
        have HO := Lib.hid ho
        clear hn ho
        cases q1 : wiS (a, b) (c, d) <;> cases q2 : wiS (c, d) (a, b) <;> cases q3 : beS (a, b) (c, d) <;> cases q4 : beS (c, d) (a, b) <;> (
          rw [q1, q2, q3, q4] at HV HO
          simp only [Bool.not_true, Bool.not_false, Bool.and_true, Bool.and_false, Bool.or_true, Bool.or_false, Bool.false_eq_true, if_true, if_false] at HV HO
          go_enter Tryd.func24, Tryd.ntmps24
          go_wp2_with (first
            | (go_at_call 42; (first | rw [← hW0] | skip); refine (ris_any _ _ _).mono ?_; rintro e w1 ⟨rfl, hb1⟩; (first | rw [h1] | rw [h2]); have hb := hb.trans (hb1.mono hb.size); obtain ⟨c0, c1, c2, c3, hz, c5, hB⟩ := HT.out _ hb; obtain ⟨z0, z1, z2, z3⟩ := box_facts (n := w.heap.size + 1 + 1) hz)
            | (go_at_call 48; refine (roverlap_any _ _ _ _ _).mono ?_; rintro e w1 ⟨rfl, hb1⟩; rw [HO.out]; have hb := hb.trans (hb1.mono hb.size); obtain ⟨c0, c1, c2, c3, hz, c5, hB⟩ := HT.out _ hb; obtain ⟨z0, z1, z2, z3⟩ := box_facts (n := w.heap.size + 1 + 1) hz)
            | (go_at_call 45; refine (rwithin_any _ _ _ _ _).mono ?_; rintro e w1 ⟨rfl, hb1⟩; (first | rw [q1] | rw [q2]); have hb := hb.trans (hb1.mono hb.size); obtain ⟨c0, c1, c2, c3, hz, c5, hB⟩ := HT.out _ hb; obtain ⟨z0, z1, z2, z3⟩ := box_facts (n := w.heap.size + 1 + 1) hz)
            | (go_at_call 47; refine (rbefore_any _ _ _ _ _).mono ?_; rintro e w1 ⟨rfl, hb1⟩; (first | rw [q3] | rw [q4]); have hb := hb.trans (hb1.mono hb.size); obtain ⟨c0, c1, c2, c3, hz, c5, hB⟩ := HT.out _ hb; obtain ⟨z0, z1, z2, z3⟩ := box_facts (n := w.heap.size + 1 + 1) hz))
          all_goals (try simp only [Exit.inBlock, Exit.then])
          all_goals first
            | (refine bodyPost_ret (results_box2 rfl _ _ (w.heap.size + 1 + 1) _ _ _ rfl (set_both _ _ hz)) rfl ?_; exact ⟨(congrArg Ending.returned HV.out).symm, set_two hB (by omega)⟩)
            | (exfalso; omega))
end Go.Proofs.YtbajikkjkiacnaaDoor
