/- Layer 3: Check, Within, Before, Meet. -/
import Derived.Test.YtbajikkjkiacnaaDoorPbad
namespace Go.Proofs.YtbajikkjkiacnaaDoor
open Go.RowKit Go.PlainAid

theorem bad_two {a b c d : Int} : (okS (a, b) = true ∧ okS (c, d) = true ∧ badS [(a, b), (c, d)] = -1) ∨ ((okS (a, b) = false ∨ okS (c, d) = false) ∧ ∃ k : Nat, badS [(a, b), (c, d)] = (k : Int) ∧ k ≤ 1) := by
  cases h1 : okS (a, b)
  · exact .inr ⟨.inl rfl, 0, badS_at (fun j s h => by omega) rfl h1, by omega⟩
  · cases h2 : okS (c, d)
    · exact .inr ⟨.inr rfl, 1, badS_at (k := 1) (fun j s h hj => by
        obtain rfl : j = 0 := by omega
        obtain rfl := Option.some.inj hj; exact h1) rfl h2, by omega⟩
    · refine .inl ⟨rfl, rfl, badS_no fun j s hj => ?_⟩
      match j, hj with
      | 0, hj => obtain rfl := Option.some.inj hj; exact h1
      | 1, hj => obtain rfl := Option.some.inj hj; exact h2
      | _ + 2, hj => simp at hj
/-- firstBad of two. -/
theorem two_any (a b c d : Int) (t : TypeId) (n : Nat) (W : World) (hn : W.heap.size = n) : Calls Tryd.prog 40 #[.slice (some ⟨n, 0, none⟩) 2 2] (W.alloc (.cells #[.int .i64 a, .int .i64 b, .int .i64 c, .int .i64 d] t)) fun e w' =>
    e = .returned (.int .i64 (badS [(a, b), (c, d)])) ∧ Below W.heap.size W w' := by
  subst hn
  refine (firstBad_any _ [(a, b), (c, d)] _ (sps_new W [(a, b), (c, d)] _ _ 2 2 rfl rfl) (by simp)).mono ?_
  rintro e w1 ⟨h1, h2⟩
  exact ⟨h1, (below_a1 _ _).trans (h2.mono (by simp))⟩

theorem check_spans (n a b : Int) (w : World) : Calls Tryd.prog 21 #[.int .i64 n, .agg #[.int .i64 a, .int .i64 b]] w fun e w' => e = .returned (.int .i64 (checkS n (a, b))) ∧ Below w.heap.size w w' := by
  have HK : Hid (checkS n (a, b) = if isS (a, b) = false then 6 else if n < b then 7 else 0) := Lib.hid rfl
  cases h1 : isS (a, b) <;> (
    go_enter Tryd.func21, Tryd.ntmps21
    go_wp2_with (go_at_call 43; refine (isSpan_any _ _ _).mono ?_; rintro e w1 ⟨rfl, hb1⟩; rw [h1]; obtain ⟨c0, c1, hB⟩ := one_cells _ _ _ _ _ hb1)
    all_goals go_ret
    all_goals exact ⟨ret_int (by rw [HK.out, h1]; first | (simp; done) | (simp; omega)), hB⟩)
theorem rcheck_spans (n a b : Int) (w : World) : Calls Tryd.prog 22 #[.int .i64 n, .agg #[.int .i64 a, .int .i64 b]] w fun e w' => e = .returned (.int .i64 (checkS n (a, b))) ∧ Below w.heap.size w w' := by
  have HK : Hid (checkS n (a, b) = if isS (a, b) = false then 6 else if n < b then 7 else 0) := Lib.hid rfl
  have HI : Hid (isS (a, b) = decide (0 ≤ a ∧ a ≤ b)) := Lib.hid rfl
  go_enter Tryd.func22, Tryd.ntmps22
  go_wp2
  all_goals go_ret
  all_goals exact ⟨ret_int (by rw [HK.out, HI.out]; simp only [decide_eq_false_iff_not]; split <;> (try split) <;> omega), by first | exact below_a1 _ _ | exact Below.refl _ _⟩

def boolV (r : Bool × Int) : Value := .tuple #[.bool r.1, .int .i64 r.2]
def meetV (r : Sp × Bool × Int) : Value := .tuple #[.agg #[.int .i64 r.1.1, .int .i64 r.1.2], .bool r.2.1, .int .i64 r.2.2]

set_option maxHeartbeats 1600000 in
theorem Within_any (a b c d : Int) (w : World) : Calls Tryd.prog 17 #[.agg #[.int .i64 a, .int .i64 b], .agg #[.int .i64 c, .int .i64 d]] w fun e w' => e = .returned (boolV (withinS (a, b) (c, d))) ∧ Below w.heap.size w w' := by
  have HC := Lib.hid fun (W : World) (n : Nat) (t : TypeId) => two_any a b c d t n W
  rcases bad_two (a := a) (b := b) (c := c) (d := d) with ⟨h1, h2, h3⟩ | ⟨h1, k, h3, hk⟩
  · have HV : Hid (boolV (withinS (a, b) (c, d)) = .tuple #[.bool (wiS (a, b) (c, d)), .int .i64 0]) := Lib.hid (by unfold withinS; rw [h1, h2]; rfl)
    rw [h3] at HC
    clear h1 h2 h3
    go_enter Tryd.func17, Tryd.ntmps17
    go_wp2_with (first
      | (go_at_call 40; refine (HC.out _ _ _ (by simp)).mono ?_; rintro e w1 ⟨rfl, hb1⟩; obtain ⟨c0, c1, c2, c3, hB⟩ := two_cells _ _ _ _ _ _ _ _ hb1)
      | (go_at_call 44; refine (within_any _ _ _ _ _).mono ?_; rintro e w2 ⟨rfl, hb2⟩))
    go_ret2
    exact ⟨(congrArg Ending.returned HV.out).symm, hB.trans (hb2.mono hB.size)⟩
  · have HV : Hid (boolV (withinS (a, b) (c, d)) = .tuple #[.bool false, .int .i64 6]) := Lib.hid (by unfold withinS; rw [if_pos h1]; rfl)
    rw [h3] at HC
    clear h1 h3
    go_enter Tryd.func17, Tryd.ntmps17
    go_wp2_with (go_at_call 40; refine (HC.out _ _ _ (by simp)).mono ?_; rintro e w1 ⟨rfl, hb1⟩; obtain ⟨c0, c1, c2, c3, hB⟩ := two_cells _ _ _ _ _ _ _ _ hb1)
    go_ret2
    exact ⟨(congrArg Ending.returned HV.out).symm, hB⟩

set_option maxHeartbeats 1600000 in
theorem Before_any (a b c d : Int) (w : World) : Calls Tryd.prog 19 #[.agg #[.int .i64 a, .int .i64 b], .agg #[.int .i64 c, .int .i64 d]] w fun e w' => e = .returned (boolV (beforeS (a, b) (c, d))) ∧ Below w.heap.size w w' := by
  have HC := Lib.hid fun (W : World) (n : Nat) (t : TypeId) => two_any a b c d t n W
  rcases bad_two (a := a) (b := b) (c := c) (d := d) with ⟨h1, h2, h3⟩ | ⟨h1, k, h3, hk⟩
  · have HV : Hid (boolV (beforeS (a, b) (c, d)) = .tuple #[.bool (beS (a, b) (c, d)), .int .i64 0]) := Lib.hid (by unfold beforeS; rw [h1, h2]; rfl)
    rw [h3] at HC
    clear h1 h2 h3
    go_enter Tryd.func19, Tryd.ntmps19
    go_wp2_with (first
      | (go_at_call 40; refine (HC.out _ _ _ (by simp)).mono ?_; rintro e w1 ⟨rfl, hb1⟩; obtain ⟨c0, c1, c2, c3, hB⟩ := two_cells _ _ _ _ _ _ _ _ hb1)
      | (go_at_call 46; refine (before_any _ _ _ _ _).mono ?_; rintro e w2 ⟨rfl, hb2⟩))
    go_ret2
    exact ⟨(congrArg Ending.returned HV.out).symm, hB.trans (hb2.mono hB.size)⟩
  · have HV : Hid (boolV (beforeS (a, b) (c, d)) = .tuple #[.bool false, .int .i64 6]) := Lib.hid (by unfold beforeS; rw [if_pos h1]; rfl)
    rw [h3] at HC
    clear h1 h3
    go_enter Tryd.func19, Tryd.ntmps19
    go_wp2_with (go_at_call 40; refine (HC.out _ _ _ (by simp)).mono ?_; rintro e w1 ⟨rfl, hb1⟩; obtain ⟨c0, c1, c2, c3, hB⟩ := two_cells _ _ _ _ _ _ _ _ hb1)
    go_ret2
    exact ⟨(congrArg Ending.returned HV.out).symm, hB⟩

theorem box_facts {W : World} {n : Nat} {x y : Value} {t : TypeId} (h : W.heap[n]? = some (.cells #[x, y] t (0, 0))) :
    W.cell? ⟨n, 0, none⟩ = some x ∧ W.cell? ⟨n, 1, none⟩ = some y ∧ W.frozen? ⟨n, 0, none⟩ = false ∧ W.frozen? ⟨n, 1, none⟩ = false := by
  refine ⟨?_, ?_, ?_, ?_⟩ <;> simp [World.cell?, World.frozen?, h]
theorem set_two {B : Nat} {w W : World} {n i j : Nat} {x y : Value} (h : Below B w W) (hn : B ≤ n) : Below B w ((W.setCell ⟨n, i, none⟩ x).setCell ⟨n, j, none⟩ y) := (h.setCell hn _).setCell hn _
theorem set_both {W : World} {n : Nat} {x y : Value} {t : TypeId} {fr : Nat × Nat} (x' y' : Value) (h : W.heap[n]? = some (.cells #[x, y] t fr)) : ((W.setCell ⟨n, 0, none⟩ x').setCell ⟨n, 1, none⟩ y').heap[n]? = some (.cells #[x', y'] t fr) := by
  simp [World.setCell, Array.getElem?_modify, h]
/-- A boxed span among the results. -/
theorem results_box3 {fn : Func} {p t u : Tmp} (h : fn.results = #[.cell p 25, .tmp t, .tmp u]) (tmps : Array Value) (W : World) (n : Nat) (x y : Value) (tt : TypeId) (hp : tmps.getD p undef = .pointer (some ⟨n, 0, none⟩)) (b : W.heap[n]? = some (.cells #[x, y] tt (0, 0))) :
    (results fn tmps).run Tryd.prog W = .ok (.tuple #[.agg #[x, y], tmps.getD t undef, tmps.getD u undef]) W := by
  have c0 : W.cell? ⟨n, 0, none⟩ = some x := by simp [World.cell?, b]
  have c1 : W.cell? ⟨n, 1, none⟩ = some y := by simp [World.cell?, b]
  have hp' : tmps[p]?.getD undef = .pointer (some ⟨n, 0, none⟩) := by simpa using hp
  simp [results, h, hp', go_sem, c0, c1]
/-- Two parameters and a variable that were boxed. -/
theorem three_cells (w W : World) (a b c d e f : Int) (t u v : TypeId) (h : Below (((w.alloc (.cells #[.int .i64 a, .int .i64 b] t)).alloc (.cells #[.int .i64 c, .int .i64 d] u)).alloc (.cells #[.int .i64 e, .int .i64 f] v)).heap.size (((w.alloc (.cells #[.int .i64 a, .int .i64 b] t)).alloc (.cells #[.int .i64 c, .int .i64 d] u)).alloc (.cells #[.int .i64 e, .int .i64 f] v)) W) :
    W.cell? ⟨w.heap.size, 0, none⟩ = some (.int .i64 a) ∧ W.cell? ⟨w.heap.size, 1, none⟩ = some (.int .i64 b) ∧ W.cell? ⟨w.heap.size + 1, 0, none⟩ = some (.int .i64 c) ∧ W.cell? ⟨w.heap.size + 1, 1, none⟩ = some (.int .i64 d) ∧
    W.heap[w.heap.size + 2]? = some (.cells #[.int .i64 e, .int .i64 f] v (0, 0)) ∧ w.heap.size + 2 < W.heap.size ∧ Below w.heap.size w W := by
  have hs := World.size_alloc ((w.alloc (.cells #[.int .i64 a, .int .i64 b] t)).alloc (.cells #[.int .i64 c, .int .i64 d] u)) (.cells #[.int .i64 e, .int .i64 f] v)
  have h2 := h.block (w.heap.size + 2) (by simp only [World.size_alloc]; omega)
  have e2 := World.alloc_heap_new ((w.alloc (.cells #[.int .i64 a, .int .i64 b] t)).alloc (.cells #[.int .i64 c, .int .i64 d] u)) (.cells #[.int .i64 e, .int .i64 f] v)
  simp only [World.size_alloc] at e2
  rw [e2] at h2
  obtain ⟨c0, c1, c2, c3, hB⟩ := two_cells w W a b c d t u ((below_a1 _ _).trans (h.mono (by simp only [World.size_alloc]; omega)))
  exact ⟨c0, c1, c2, c3, h2, (Array.getElem?_eq_some_iff.1 h2).1, hB⟩

set_option maxHeartbeats 1600000 in
theorem Meet_any (a b c d : Int) (w : World) : Calls Tryd.prog 15 #[.agg #[.int .i64 a, .int .i64 b], .agg #[.int .i64 c, .int .i64 d]] w fun e w' => e = .returned (meetV (meetS (a, b) (c, d))) ∧ Below w.heap.size w w' := by
  have HC := Lib.hid fun (W : World) (n : Nat) (t : TypeId) => two_any a b c d t n W
  rcases bad_two (a := a) (b := b) (c := c) (d := d) with ⟨h1, h2, h3⟩ | ⟨h1, k, h3, hk⟩
  · have hm : meetS (a, b) (c, d) = if max a c ≤ min b d then ((max a c, min b d), true, 0) else ((0, 0), false, 0) := by unfold meetS; rw [h1, h2, if_neg (by simp)]
    have HV1 : Hid (∀ x y, a ≤ x → c ≤ x → (x = a ∨ x = c) → y ≤ b → y ≤ d → (y = b ∨ y = d) → x ≤ y → meetV (meetS (a, b) (c, d)) = .tuple #[.agg #[.int .i64 x, .int .i64 y], .bool true, .int .i64 0]) := Lib.hid (by
      intro x y h1 h2 h3 h4 h5 h6 h
      have e1 : max a c = x := by rw [Int.max_def]; split <;> omega
      have e2 : min b d = y := by rw [Int.min_def]; split <;> omega
      rw [hm, e1, e2, if_pos h]; rfl)
    have HV2 : Hid (∀ x y, a ≤ x → c ≤ x → (x = a ∨ x = c) → y ≤ b → y ≤ d → (y = b ∨ y = d) → y < x → meetV (meetS (a, b) (c, d)) = .tuple #[.agg #[.int .i64 0, .int .i64 0], .bool false, .int .i64 0]) := Lib.hid (by
      intro x y h1 h2 h3 h4 h5 h6 h
      have e1 : max a c = x := by rw [Int.max_def]; split <;> omega
      have e2 : min b d = y := by rw [Int.min_def]; split <;> omega
      rw [hm, e1, e2, if_neg (by omega)]; rfl)
    have HP : 0 ≤ a ∧ a ≤ b ∧ 0 ≤ c ∧ c ≤ d := by rw [okS_iff] at h1 h2; simp only at h1 h2; omega
    rw [h3] at HC
    clear h1 h2 h3 hm
    by_cases hac : a < c <;> by_cases hdb : d < b <;> (
      go_enter Tryd.func15, Tryd.ntmps15
      go_wp2_with (first
        | (go_at_call 40; refine (HC.out _ _ _ (by simp)).mono ?_; rintro e w1 ⟨rfl, hb1⟩; obtain ⟨c0, c1, c2, c3, c4, c5, hB⟩ := three_cells _ _ _ _ _ _ _ _ _ _ _ hb1)
        | (go_at_call 43; refine (isSpan_any _ _ _).mono ?_; rintro e w2 ⟨rfl, hb2⟩; obtain ⟨d0, d1, hB2⟩ := one_cells _ _ _ _ _ hb2; have hz := (hB2.block _ c5).trans c4; obtain ⟨z0, z1, z2, z3⟩ := box_facts (n := w.heap.size + 1 + 1) hz))
      all_goals (try simp only [Exit.inBlock, Exit.then])
      all_goals refine bodyPost_ret (results_box3 rfl _ _ (w.heap.size + 1 + 1) _ _ _ rfl (set_both _ _ hz)) rfl ?_
      all_goals simp only [isS, Bool.not_eq_eq_eq_not, Bool.not_true, Bool.not_false, decide_eq_true_eq, decide_eq_false_iff_not] at *
      all_goals (
        have hB3 := hB.trans (hB2.mono hB.size)
        first
          | exact ⟨(congrArg Ending.returned (HV1.out _ _ (by omega) (by omega) (by omega) (by omega) (by omega) (by omega) (by omega))).symm, set_two hB3 (by omega)⟩
          | exact ⟨(congrArg Ending.returned (HV2.out c d (by omega) (by omega) (by omega) (by omega) (by omega) (by omega) (by omega))).symm, set_two hB3 (by omega)⟩
          | exact ⟨(congrArg Ending.returned (HV2.out c b (by omega) (by omega) (by omega) (by omega) (by omega) (by omega) (by omega))).symm, set_two hB3 (by omega)⟩
          | exact ⟨(congrArg Ending.returned (HV2.out a d (by omega) (by omega) (by omega) (by omega) (by omega) (by omega) (by omega))).symm, set_two hB3 (by omega)⟩
          | exact ⟨(congrArg Ending.returned (HV2.out a b (by omega) (by omega) (by omega) (by omega) (by omega) (by omega) (by omega))).symm, set_two hB3 (by omega)⟩))
  · have HV : Hid (meetV (meetS (a, b) (c, d)) = meetV ((0, 0), false, 6)) := Lib.hid (by unfold meetS; rw [if_pos h1])
    rw [h3] at HC
    clear h1 h3
    go_enter Tryd.func15, Tryd.ntmps15
    go_wp2_with (go_at_call 40; refine (HC.out _ _ _ (by simp)).mono ?_; rintro e w1 ⟨rfl, hb1⟩; obtain ⟨c0, c1, c2, c3, c4, c5, hB⟩ := three_cells _ _ _ _ _ _ _ _ _ _ _ hb1; have hz := c4; obtain ⟨z0, z1, z2, z3⟩ := box_facts (n := w.heap.size + 1 + 1) hz)
    (try simp only [Exit.inBlock, Exit.then])
    refine bodyPost_ret (results_box3 rfl _ _ (w.heap.size + 1 + 1) _ _ _ rfl (set_both _ _ hz)) rfl ?_
    exact ⟨(congrArg Ending.returned HV.out).symm, set_two hB (by omega)⟩
end Go.Proofs.YtbajikkjkiacnaaDoor
