/- Layer 3: the reference's Meet. -/
import Derived.Test.YtbmcejaheipjjaaDoorPref3
namespace Go.Proofs.YtbmcejaheipjjaaDoor
open Go.RowKit Go.PlainAid

theorem box_alloc {W : World} {n : Nat} {c : Array Value} {t : TypeId} {fr : Nat × Nat} (o : Obj) (h : W.heap[n]? = some (.cells c t fr)) : (W.alloc o).heap[n]? = some (.cells c t fr) :=
  (Below.heap_alloc _ _ _ (Array.getElem?_eq_some_iff.1 h).1).trans h

set_option maxRecDepth 50000 in
set_option maxHeartbeats 3200000 in
theorem rMeet_any (a b c d : Int) (w : World) : Calls Tryd.prog 16 #[.agg #[.int .i64 a, .int .i64 b], .agg #[.int .i64 c, .int .i64 d]] w fun e w' => e = .returned (meetV (meetS (a, b) (c, d))) ∧ Below w.heap.size w w' := by
  obtain ⟨W0, hW0⟩ : ∃ W0, W0 = ((w.alloc (.cells #[.int .i64 a, .int .i64 b] 25)).alloc (.cells #[.int .i64 c, .int .i64 d] 25)).alloc (.cells #[.int .i64 0, .int .i64 0] 25) := ⟨_, rfl⟩
  have HT := Lib.hid fun (W : World) (h : Below W0.heap.size W0 W) => three_cells w W a b c d 0 0 25 25 25 (by subst hW0; exact h)
  have hb := Below.refl W0.heap.size W0
  by_cases hok : okS (a, b) = true ∧ okS (c, d) = true
  · obtain ⟨h1, h2⟩ := hok
    have hm : meetS (a, b) (c, d) = if max a c ≤ min b d then ((max a c, min b d), true, 0) else ((0, 0), false, 0) := by unfold meetS; rw [h1, h2, if_neg (by simp)]
    have HV1 : Hid (max a c ≤ min b d → meetV (meetS (a, b) (c, d)) = .tuple #[.agg #[.int .i64 (max a c), .int .i64 (min b d)], .bool true, .int .i64 0]) := Lib.hid (by intro h; rw [hm, if_pos h]; rfl)
    have HV2 : Hid (min b d < max a c → meetV (meetS (a, b) (c, d)) = .tuple #[.agg #[.int .i64 0, .int .i64 0], .bool false, .int .i64 0]) := Lib.hid (by intro h; rw [hm, if_neg (by omega)]; rfl)
    clear hm
    obtain ⟨mx, hmx⟩ : ∃ q, max a c = q := ⟨_, rfl⟩
    obtain ⟨mn, hmn⟩ : ∃ q, min b d = q := ⟨_, rfl⟩
    rw [hmx, hmn] at HV1 HV2
    by_cases hle : mx ≤ mn
    all_goals (
      go_enter Tryd.func16, Tryd.ntmps16
      go_wp2_with (go_at_call 42; (first | rw [← hW0] | skip); refine (ris_any _ _ _).mono ?_; rintro e w1 ⟨rfl, hb1⟩; (first | rw [h1] | rw [h2]); have hb := hb.trans (hb1.mono hb.size); obtain ⟨c0, c1, c2, c3, hz, c5, hB⟩ := HT.out _ hb; obtain ⟨z0, z1, z2, z3⟩ := box_facts (n := w.heap.size + 1 + 1) hz)
      all_goals (try simp only [Exit.inBlock, Exit.then])
      all_goals refine bodyPost_ret (results_box3 rfl _ _ (w.heap.size + 1 + 1) _ _ _ rfl (box_alloc _ (set_both _ _ hz))) rfl ?_
      all_goals first
        | exact ⟨(congrArg Ending.returned (HV1.out (by omega))).symm, (set_two hB (by omega)).alloc (by have := hB.size; simp; omega) _⟩
        | exact ⟨(congrArg Ending.returned (HV2.out (by omega))).symm, (set_two hB (by omega)).alloc (by have := hB.size; simp; omega) _⟩
        | (exfalso; omega))
  · have h0 : okS (a, b) = false ∨ okS (c, d) = false := by
      cases h1 : okS (a, b)
      · exact .inl rfl
      · cases h2 : okS (c, d)
        · exact .inr rfl
        · exact absurd ⟨h1, h2⟩ hok
    have HV : Hid (meetV (meetS (a, b) (c, d)) = meetV ((0, 0), false, 6)) := Lib.hid (by unfold meetS; rw [if_pos h0])
    clear hok
    cases h1 : okS (a, b) <;> cases h2 : okS (c, d) <;> first
      | (exfalso; rw [h1, h2] at h0; simp at h0; done)
      | (clear h0
         go_enter Tryd.func16, Tryd.ntmps16
         go_wp2_with (go_at_call 42; (first | rw [← hW0] | skip); refine (ris_any _ _ _).mono ?_; rintro e w1 ⟨rfl, hb1⟩; (first | rw [h1] | rw [h2]); have hb := hb.trans (hb1.mono hb.size); obtain ⟨c0, c1, c2, c3, hz, c5, hB⟩ := HT.out _ hb; obtain ⟨z0, z1, z2, z3⟩ := box_facts (n := w.heap.size + 1 + 1) hz)
         (try simp only [Exit.inBlock, Exit.then])
         refine bodyPost_ret (results_box3 rfl _ _ (w.heap.size + 1 + 1) _ _ _ rfl (set_both _ _ hz)) rfl ?_
         exact ⟨(congrArg Ending.returned HV.out).symm, set_two hB (by omega)⟩)
end Go.Proofs.YtbmcejaheipjjaaDoor
