/- Layer 3: the small functions on spans. -/
import Derived.Test.YtbajikkjkiacnaaDoorPmem
namespace Go.Proofs.YtbajikkjkiacnaaDoor
open Go.RowKit Go.PlainAid

theorem below_a1 (w : World) (o : Obj) : Below w.heap.size w (w.alloc o) := (Below.refl _ w).alloc (Nat.le_refl _) o
theorem below_a2 (w : World) (o p : Obj) : Below w.heap.size w ((w.alloc o).alloc p) := (below_a1 w o).alloc (by simp) p
/-- Two parameters that were boxed. -/
theorem two_cells (w W : World) (a b c d : Int) (t u : TypeId) (h : Below ((w.alloc (.cells #[.int .i64 a, .int .i64 b] t)).alloc (.cells #[.int .i64 c, .int .i64 d] u)).heap.size ((w.alloc (.cells #[.int .i64 a, .int .i64 b] t)).alloc (.cells #[.int .i64 c, .int .i64 d] u)) W) :
    W.cell? ⟨w.heap.size, 0, none⟩ = some (.int .i64 a) ∧ W.cell? ⟨w.heap.size, 1, none⟩ = some (.int .i64 b) ∧ W.cell? ⟨w.heap.size + 1, 0, none⟩ = some (.int .i64 c) ∧ W.cell? ⟨w.heap.size + 1, 1, none⟩ = some (.int .i64 d) ∧ Below w.heap.size w W := by
  have h1 := h.block w.heap.size (by simp only [World.size_alloc]; omega)
  have h2 := h.block (w.heap.size + 1) (by simp only [World.size_alloc]; omega)
  rw [Below.heap_alloc _ _ _ (by simp only [World.size_alloc]; omega), World.alloc_heap_new] at h1
  have e := World.alloc_heap_new (w.alloc (.cells #[.int .i64 a, .int .i64 b] t)) (.cells #[.int .i64 c, .int .i64 d] u)
  rw [World.size_alloc] at e
  rw [e] at h2
  refine ⟨?_, ?_, ?_, ?_, (below_a2 _ _ _).trans (h.mono (by simp only [World.size_alloc]; omega))⟩
  · simp [World.cell?, h1]
  · simp [World.cell?, h1]
  · simp [World.cell?, h2]
  · simp [World.cell?, h2]
theorem isSpan_any (a b : Int) (w : World) : Calls Tryd.prog 43 #[.agg #[.int .i64 a, .int .i64 b]] w fun e w' => e = .returned (.bool (isS (a, b))) ∧ Below w.heap.size w w' := by
  go_enter Tryd.func43, Tryd.ntmps43
  go_wp2
  all_goals go_ret
  all_goals exact ⟨ret_bool (by rw [Bool.eq_iff_iff]; simp [isS]; omega), by first | exact below_a1 _ _ | exact below_a2 _ _ _ | exact Below.refl _ _⟩
theorem within_any (a b c d : Int) (w : World) : Calls Tryd.prog 44 #[.agg #[.int .i64 a, .int .i64 b], .agg #[.int .i64 c, .int .i64 d]] w fun e w' => e = .returned (.bool (wiS (a, b) (c, d))) ∧ Below w.heap.size w w' := by
  go_enter Tryd.func44, Tryd.ntmps44
  go_wp2
  all_goals go_ret
  all_goals exact ⟨ret_bool (by rw [Bool.eq_iff_iff]; simp [wiS]; omega), by first | exact below_a1 _ _ | exact below_a2 _ _ _ | exact Below.refl _ _⟩
theorem before_any (a b c d : Int) (w : World) : Calls Tryd.prog 46 #[.agg #[.int .i64 a, .int .i64 b], .agg #[.int .i64 c, .int .i64 d]] w fun e w' => e = .returned (.bool (beS (a, b) (c, d))) ∧ Below w.heap.size w w' := by
  go_enter Tryd.func46, Tryd.ntmps46
  go_wp2
  all_goals go_ret
  all_goals exact ⟨ret_bool (by rw [Bool.eq_iff_iff]; simp [beS]; omega), by first | exact below_a1 _ _ | exact below_a2 _ _ _ | exact Below.refl _ _⟩
theorem ris_any (a b : Int) (w : World) : Calls Tryd.prog 42 #[.agg #[.int .i64 a, .int .i64 b]] w fun e w' => e = .returned (.bool (okS (a, b))) ∧ Below w.heap.size w w' := by
  go_enter Tryd.func42, Tryd.ntmps42
  go_wp2
  all_goals go_ret
  all_goals exact ⟨ret_bool (by rw [Bool.eq_iff_iff]; simp [okS]; omega), by first | exact below_a1 _ _ | exact below_a2 _ _ _ | exact Below.refl _ _⟩
theorem lvalid_any (a b : Int) (w : World) : Calls Tryd.prog 37 #[.agg #[.int .i64 a, .int .i64 b]] w fun e w' => e = .returned (.bool (okS (a, b))) ∧ Below w.heap.size w w' := by
  go_enter Tryd.func37, Tryd.ntmps37
  go_wp2
  all_goals go_ret
  all_goals exact ⟨ret_bool (by rw [Bool.eq_iff_iff]; simp [okS]; omega), by first | exact below_a1 _ _ | exact below_a2 _ _ _ | exact Below.refl _ _⟩
theorem rwithin_any (a b c d : Int) (w : World) : Calls Tryd.prog 45 #[.agg #[.int .i64 a, .int .i64 b], .agg #[.int .i64 c, .int .i64 d]] w fun e w' => e = .returned (.bool (wiS (a, b) (c, d))) ∧ Below w.heap.size w w' := by
  go_enter Tryd.func45, Tryd.ntmps45
  go_wp2
  all_goals go_ret
  all_goals exact ⟨ret_bool (by rw [Bool.eq_iff_iff]; simp [wiS]; omega), by first | exact below_a1 _ _ | exact below_a2 _ _ _ | exact Below.refl _ _⟩
theorem rbefore_any (a b c d : Int) (w : World) : Calls Tryd.prog 47 #[.agg #[.int .i64 a, .int .i64 b], .agg #[.int .i64 c, .int .i64 d]] w fun e w' => e = .returned (.bool (beS (a, b) (c, d))) ∧ Below w.heap.size w w' := by
  go_enter Tryd.func47, Tryd.ntmps47
  go_wp2
  all_goals go_ret
  all_goals exact ⟨ret_bool (by rw [Bool.eq_iff_iff]; simp [beS]; omega), by first | exact below_a1 _ _ | exact below_a2 _ _ _ | exact Below.refl _ _⟩
set_option maxRecDepth 50000 in
set_option maxHeartbeats 1600000 in
theorem roverlap_any (a b c d : Int) (w : World) : Calls Tryd.prog 48 #[.agg #[.int .i64 a, .int .i64 b], .agg #[.int .i64 c, .int .i64 d]] w fun e w' => e = .returned (.bool (ovS (a, b) (c, d))) ∧ Below w.heap.size w w' := by
  have HO : Hid (ovS (a, b) (c, d) = (!wiS (a, b) (c, d) && !wiS (c, d) (a, b) && !beS (a, b) (c, d) && !beS (c, d) (a, b))) := Lib.hid rfl
  obtain ⟨W0, hW0⟩ : ∃ W0, W0 = (w.alloc (.cells #[.int .i64 a, .int .i64 b] 25)).alloc (.cells #[.int .i64 c, .int .i64 d] 25) := ⟨_, rfl⟩
  have HT : Hid (∀ W, Below W0.heap.size W0 W → W.cell? ⟨w.heap.size, 0, none⟩ = some (.int .i64 a) ∧ W.cell? ⟨w.heap.size, 1, none⟩ = some (.int .i64 b) ∧ W.cell? ⟨w.heap.size + 1, 0, none⟩ = some (.int .i64 c) ∧ W.cell? ⟨w.heap.size + 1, 1, none⟩ = some (.int .i64 d) ∧ Below w.heap.size w W) := Lib.hid fun W h => by
    subst hW0; exact two_cells w W a b c d _ _ h
  have hb := Below.refl W0.heap.size W0
  cases h1 : wiS (a, b) (c, d) <;> cases h2 : wiS (c, d) (a, b) <;> cases h3 : beS (a, b) (c, d) <;> cases h4 : beS (c, d) (a, b) <;> (
    go_enter Tryd.func48, Tryd.ntmps48
    go_wp2_with (first
      | (go_at_call 45; (first | rw [← hW0] | skip); refine (rwithin_any _ _ _ _ _).mono ?_; rintro e w1 ⟨rfl, hb1⟩; (first | rw [h1] | rw [h2]); have hb := hb.trans (hb1.mono hb.size); obtain ⟨c0, c1, c2, c3, hB⟩ := HT.out _ hb)
      | (go_at_call 47; refine (rbefore_any _ _ _ _ _).mono ?_; rintro e w1 ⟨rfl, hb1⟩; (first | rw [h3] | rw [h4]); have hb := hb.trans (hb1.mono hb.size); obtain ⟨c0, c1, c2, c3, hB⟩ := HT.out _ hb))
    all_goals go_ret
    all_goals exact ⟨ret_bool (by rw [HO.out, h1, h2, h3, h4]; rfl), hB⟩)
end Go.Proofs.YtbajikkjkiacnaaDoor
