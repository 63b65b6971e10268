/- Layer 3: the reference's Within, Before. -/
import Derived.Test.YtbmcejaheipjjaaDoorPlawS
namespace Go.Proofs.YtbmcejaheipjjaaDoor
open Go.RowKit Go.PlainAid

set_option maxRecDepth 50000 in
set_option maxHeartbeats 1600000 in
theorem rWithin_any (a b c d : Int) (w : World) : Calls Tryd.prog 18 #[.agg #[.int .i64 a, .int .i64 b], .agg #[.int .i64 c, .int .i64 d]] w fun e w' => e = .returned (boolV (withinS (a, b) (c, d))) ∧ Below w.heap.size w w' := by
  have HV : Hid (boolV (withinS (a, b) (c, d)) = if okS (a, b) = false ∨ okS (c, d) = false then .tuple #[.bool false, .int .i64 6] else .tuple #[.bool (wiS (a, b) (c, d)), .int .i64 0]) := Lib.hid (by unfold withinS; split <;> rfl)
  obtain ⟨W0, hW0⟩ : ∃ W0, W0 = (w.alloc (.cells #[.int .i64 a, .int .i64 b] 25)).alloc (.cells #[.int .i64 c, .int .i64 d] 25) := ⟨_, rfl⟩
  have HT : Hid (∀ W, Below W0.heap.size W0 W → W.cell? ⟨w.heap.size, 0, none⟩ = some (.int .i64 a) ∧ W.cell? ⟨w.heap.size, 1, none⟩ = some (.int .i64 b) ∧ W.cell? ⟨w.heap.size + 1, 0, none⟩ = some (.int .i64 c) ∧ W.cell? ⟨w.heap.size + 1, 1, none⟩ = some (.int .i64 d) ∧ Below w.heap.size w W) := Lib.hid fun W h => by
    subst hW0; exact two_cells w W a b c d _ _ h
  have hb := Below.refl W0.heap.size W0
  cases h1 : okS (a, b) <;> cases h2 : okS (c, d) <;> (
    rw [h1, h2] at HV
    simp only [Bool.true_eq_false, or_self, or_true, or_false, if_true, if_false] at HV
    go_enter Tryd.func18, Tryd.ntmps18
    go_wp2_with (first
      | (go_at_call 42; (first | rw [← hW0] | skip); refine (ris_any _ _ _).mono ?_; rintro e w1 ⟨rfl, hb1⟩; (first | rw [h1] | rw [h2]); have hb := hb.trans (hb1.mono hb.size); obtain ⟨c0, c1, c2, c3, hB⟩ := HT.out _ hb)
      | (go_at_call 45; refine (rwithin_any _ _ _ _ _).mono ?_; rintro e w1 ⟨rfl, hb1⟩; have hb := hb.trans (hb1.mono hb.size); obtain ⟨c0, c1, c2, c3, hB⟩ := HT.out _ hb))
    go_returns
    exact ⟨(congrArg Ending.returned HV.out).symm, hB⟩)
set_option maxRecDepth 50000 in
set_option maxHeartbeats 1600000 in
theorem rBefore_any (a b c d : Int) (w : World) : Calls Tryd.prog 20 #[.agg #[.int .i64 a, .int .i64 b], .agg #[.int .i64 c, .int .i64 d]] w fun e w' => e = .returned (boolV (beforeS (a, b) (c, d))) ∧ Below w.heap.size w w' := by
  have HV : Hid (boolV (beforeS (a, b) (c, d)) = if okS (a, b) = false ∨ okS (c, d) = false then .tuple #[.bool false, .int .i64 6] else .tuple #[.bool (beS (a, b) (c, d)), .int .i64 0]) := Lib.hid (by unfold beforeS; split <;> rfl)
  obtain ⟨W0, hW0⟩ : ∃ W0, W0 = (w.alloc (.cells #[.int .i64 a, .int .i64 b] 25)).alloc (.cells #[.int .i64 c, .int .i64 d] 25) := ⟨_, rfl⟩
  have HT : Hid (∀ W, Below W0.heap.size W0 W → W.cell? ⟨w.heap.size, 0, none⟩ = some (.int .i64 a) ∧ W.cell? ⟨w.heap.size, 1, none⟩ = some (.int .i64 b) ∧ W.cell? ⟨w.heap.size + 1, 0, none⟩ = some (.int .i64 c) ∧ W.cell? ⟨w.heap.size + 1, 1, none⟩ = some (.int .i64 d) ∧ Below w.heap.size w W) := Lib.hid fun W h => by
    subst hW0; exact two_cells w W a b c d _ _ h
  have hb := Below.refl W0.heap.size W0
  cases h1 : okS (a, b) <;> cases h2 : okS (c, d) <;> (
    rw [h1, h2] at HV
    simp only [Bool.true_eq_false, or_self, or_true, or_false, if_true, if_false] at HV
    go_enter Tryd.func20, Tryd.ntmps20
    go_wp2_with (first
      | (go_at_call 42; (first | rw [← hW0] | skip); refine (ris_any _ _ _).mono ?_; rintro e w1 ⟨rfl, hb1⟩; (first | rw [h1] | rw [h2]); have hb := hb.trans (hb1.mono hb.size); obtain ⟨c0, c1, c2, c3, hB⟩ := HT.out _ hb)
      | (go_at_call 47; refine (rbefore_any _ _ _ _ _).mono ?_; rintro e w1 ⟨rfl, hb1⟩; have hb := hb.trans (hb1.mono hb.size); obtain ⟨c0, c1, c2, c3, hB⟩ := HT.out _ hb))
    go_returns
    exact ⟨(congrArg Ending.returned HV.out).symm, hB⟩)
end Go.Proofs.YtbmcejaheipjjaaDoor
