/- Layer 3: Shift, and the reference's. -/
import Derived.Test.YtbajikkjkiacnaaDoorPpair
namespace Go.Proofs.YtbajikkjkiacnaaDoor
open Go.RowKit Go.PlainAid

theorem results_box2 {fn : Func} {p t : Tmp} (h : fn.results = #[.cell p 25, .tmp t]) (tmps : Array Value) (W : World) (n : Nat) (x y : Value) (tt : TypeId) (hp : tmps.getD p undef = .pointer (some ⟨n, 0, none⟩)) (b : W.heap[n]? = some (.cells #[x, y] tt (0, 0))) :
    (results fn tmps).run Tryd.prog W = .ok (.tuple #[.agg #[x, y], tmps.getD t undef]) W := by
  have c0 : W.cell? ⟨n, 0, none⟩ = some x := by simp [World.cell?, b]
  have c1 : W.cell? ⟨n, 1, none⟩ = some y := by simp [World.cell?, b]
  have hp' : tmps[p]?.getD undef = .pointer (some ⟨n, 0, none⟩) := by simpa using hp
  simp [results, h, hp', go_sem, c0, c1]
def shiftV (r : Sp × Int) : Value := .tuple #[.agg #[.int .i64 r.1.1, .int .i64 r.1.2], .int .i64 r.2]

set_option maxRecDepth 50000 in
set_option maxHeartbeats 3200000 in
theorem Shift_any (a b c d n : Int) (w : World) : Calls Tryd.prog 23 #[.agg #[.int .i64 a, .int .i64 b], .agg #[.int .i64 c, .int .i64 d], .int .i64 n] w fun e w' => e = .returned (shiftV (shiftS (a, b) (c, d) n)) ∧ Below w.heap.size w w' := by
  have HC := Lib.hid fun (W : World) (n : Nat) (t : TypeId) => two_any a b c d t n W
  obtain ⟨W0, hW0⟩ : ∃ W0, W0 = ((w.alloc (.cells #[.int .i64 a, .int .i64 b] 25)).alloc (.cells #[.int .i64 c, .int .i64 d] 25)).alloc (.cells #[.int .i64 0, .int .i64 0] 25) := ⟨_, rfl⟩
  have hsz : W0.heap.size = w.heap.size + 1 + 1 + 1 := by rw [hW0]; simp
  have HT := Lib.hid fun (W : World) (h : Below W0.heap.size W0 W) => three_cells w W a b c d 0 0 25 25 25 (by subst hW0; exact h)
  rcases bad_two (a := a) (b := b) (c := c) (d := d) with ⟨h1, h2, h3⟩ | ⟨h1, k, h3, hk⟩
  · rw [h3] at HC
    by_cases hn : n < 0 ∨ 2305843009213693952 < n
    · have HV : Hid (shiftV (shiftS (a, b) (c, d) n) = .tuple #[.agg #[.int .i64 0, .int .i64 0], .int .i64 7]) := Lib.hid (by unfold shiftS; rw [h1, h2, if_neg (by simp), if_pos hn]; rfl)
      clear h1 h2 h3
      by_cases hn0 : n < 0
      all_goals (
        go_enter Tryd.func23, Tryd.ntmps23
        go_wp2_with (go_at_call 40; rw [← hW0]; refine (HC.out _ _ _ (by exact hsz)).mono ?_; rintro e w1 ⟨rfl, hb1⟩; obtain ⟨c0, c1, c2, c3, hz, c5, hB⟩ := HT.out _ hb1; obtain ⟨z0, z1, z2, z3⟩ := box_facts (n := w.heap.size + 1 + 1) hz)
        all_goals (try simp only [Exit.inBlock, Exit.then])
        all_goals first
          | (exfalso; omega)
          | (refine bodyPost_ret (results_box2 rfl _ _ (w.heap.size + 1 + 1) _ _ _ rfl (set_both _ _ hz)) rfl ?_; exact ⟨(congrArg Ending.returned HV.out).symm, set_two hB (by omega)⟩))
    · have HV : Hid (shiftV (shiftS (a, b) (c, d) n) = shiftV (if (ovS (a, b) (c, d) || (wiS (a, b) (c, d) && !wiS (c, d) (a, b))) = true then ((0, 0), 4) else if beS (a, b) (c, d) = true then ((a, b), 0)
          else if beS (c, d) (a, b) = true then ((a + (n - (d - c)), b + (n - (d - c))), 0) else ((a, b + (n - (d - c))), 0))) := Lib.hid (by unfold shiftS; rw [h1, h2, if_neg (by simp), if_neg hn])
      have HP : 0 ≤ a ∧ a ≤ b ∧ b ≤ 4611686018427387904 ∧ 0 ≤ c ∧ c ≤ d ∧ d ≤ 4611686018427387904 := by rw [okS_iff] at h1 h2; simp only at h1 h2; omega
      have hn1 : 0 ≤ n := by omega
      have hn2 : n ≤ 2305843009213693952 := by omega
      have hd1 : decide (n < 0) = false := decide_eq_false (by omega)
      have hd2 : decide (2305843009213693952 < n) = false := decide_eq_false (by omega)
      unfold ovS at HV
      clear h1 h2 h3 hn
      cases h1 : wiS (a, b) (c, d) <;> cases h2 : wiS (c, d) (a, b) <;> cases h3 : beS (a, b) (c, d) <;> cases h4 : beS (c, d) (a, b) <;> (
        rw [h1, h2, h3, h4] at HV
        simp only [Bool.not_true, Bool.not_false, Bool.and_true, Bool.and_false, Bool.or_true, Bool.or_false, Bool.false_eq_true, if_true, if_false] at HV
        go_enter Tryd.func23, Tryd.ntmps23
        go_wp2_with (first
          | (go_at_call 40; rw [← hW0]; refine (HC.out _ _ _ (by exact hsz)).mono ?_; rintro e w1 ⟨rfl, hb⟩; obtain ⟨c0, c1, c2, c3, hz, c5, hB⟩ := HT.out _ hb; obtain ⟨z0, z1, z2, z3⟩ := box_facts (n := w.heap.size + 1 + 1) hz)
          | (go_at_call 44; refine (within_any _ _ _ _ _).mono ?_; rintro e w1 ⟨rfl, hb1⟩; (first | rw [h1] | rw [h2]); have hb := hb.trans (hb1.mono hb.size); obtain ⟨c0, c1, c2, c3, hz, c5, hB⟩ := HT.out _ hb; obtain ⟨z0, z1, z2, z3⟩ := box_facts (n := w.heap.size + 1 + 1) hz)
          | (go_at_call 46; refine (before_any _ _ _ _ _).mono ?_; rintro e w1 ⟨rfl, hb1⟩; (first | rw [h3] | rw [h4]); have hb := hb.trans (hb1.mono hb.size); obtain ⟨c0, c1, c2, c3, hz, c5, hB⟩ := HT.out _ hb; obtain ⟨z0, z1, z2, z3⟩ := box_facts (n := w.heap.size + 1 + 1) hz))
        all_goals (try simp only [Exit.inBlock, Exit.then])
        all_goals first
          | (refine bodyPost_ret (results_box2 rfl _ _ (w.heap.size + 1 + 1) _ _ _ rfl (set_both _ _ hz)) rfl ?_; exact ⟨(congrArg Ending.returned HV.out).symm, set_two hB (by omega)⟩)
          | (exfalso; omega))
  · have HV : Hid (shiftV (shiftS (a, b) (c, d) n) = .tuple #[.agg #[.int .i64 0, .int .i64 0], .int .i64 6]) := Lib.hid (by unfold shiftS; rw [if_pos h1]; rfl)
    rw [h3] at HC
    clear h1 h3
    go_enter Tryd.func23, Tryd.ntmps23
    go_wp2_with (go_at_call 40; rw [← hW0]; refine (HC.out _ _ _ (by exact hsz)).mono ?_; rintro e w1 ⟨rfl, hb1⟩; obtain ⟨c0, c1, c2, c3, hz, c5, hB⟩ := HT.out _ hb1; obtain ⟨z0, z1, z2, z3⟩ := box_facts (n := w.heap.size + 1 + 1) hz)
    (try simp only [Exit.inBlock, Exit.then])
    refine bodyPost_ret (results_box2 rfl _ _ (w.heap.size + 1 + 1) _ _ _ rfl (set_both _ _ hz)) rfl ?_
    exact ⟨(congrArg Ending.returned HV.out).symm, set_two hB (by omega)⟩
end Go.Proofs.YtbajikkjkiacnaaDoor
