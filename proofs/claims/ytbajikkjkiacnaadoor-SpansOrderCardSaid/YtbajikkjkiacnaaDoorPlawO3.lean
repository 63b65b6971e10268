/- The law SpansOrder: what is not looked at; all together. -/
import Derived.Test.YtbajikkjkiacnaaDoorPlawO2
namespace Go.Proofs.YtbajikkjkiacnaaDoor
open Go.RowKit Go.PlainAid Go.ChangeShapes Go.WideShapes Go.ChangeAt

set_option maxRecDepth 100000 in
set_option maxHeartbeats 12800000 in
theorem lawO_out (a b c d x y : Int) (w : World) (T : PTabs w) (hx : okS (a, b) = false ∨ okS (c, d) = false ∨ okS (x, y) = false) :
    Calls Tryd.prog 6 #[.agg #[.int .i64 a, .int .i64 b, .int .i64 c, .int .i64 d, .int .i64 x, .int .i64 y]] w fun e w' => e = .returned (.bool true) ∧ Below w.heap.size w w' := by
  have CA : Hid (∀ W, Below w.heap.size w W → Calls Tryd.prog 12 #[] W fun e w' => e = .returned (.bool true) ∧ Below W.heap.size W w') := Lib.hid fun W hb => awake_any W (T.below hb)
  obtain ⟨v1, h1⟩ : ∃ v, okS (a, b) = v := ⟨_, rfl⟩
  obtain ⟨v2, h2⟩ : ∃ v, okS (c, d) = v := ⟨_, rfl⟩
  obtain ⟨v3, h3⟩ : ∃ v, okS (x, y) = v := ⟨_, rfl⟩
  have KV1 : Hid (∀ W, Calls Tryd.prog 37 #[.agg #[.int .i64 a, .int .i64 b]] W fun e w' => e = .returned (.bool v1) ∧ Below W.heap.size W w') := Lib.hid fun W => by have := lvalid_any a b W; rw [h1] at this; exact this
  have KV2 : Hid (∀ W, Calls Tryd.prog 37 #[.agg #[.int .i64 c, .int .i64 d]] W fun e w' => e = .returned (.bool v2) ∧ Below W.heap.size W w') := Lib.hid fun W => by have := lvalid_any c d W; rw [h2] at this; exact this
  have KV3 : Hid (∀ W, Calls Tryd.prog 37 #[.agg #[.int .i64 x, .int .i64 y]] W fun e w' => e = .returned (.bool v3) ∧ Below W.heap.size W w') := Lib.hid fun W => by have := lvalid_any x y W; rw [h3] at this; exact this
  rw [h1, h2, h3] at hx
  have HXX := Lib.hid hx
  obtain ⟨W0, hW0⟩ : ∃ W0, W0 = w.alloc (.cells #[.int .i64 a, .int .i64 b, .int .i64 c, .int .i64 d, .int .i64 x, .int .i64 y] 55) := ⟨_, rfl⟩
  have hw0 : Below w.heap.size w W0 := by subst hW0; exact below_a1 _ _
  have hz0 : W0.heap[w.heap.size]? = some (.cells #[.int .i64 a, .int .i64 b, .int .i64 c, .int .i64 d, .int .i64 x, .int .i64 y] 55 (0, 0)) := by subst hW0; exact six_box _ _ _ _ _ _ _ _
  obtain ⟨f0, f1, f2, f3, f4, f5⟩ := six_facts hz0
  have hs0 : w.heap.size < W0.heap.size := (Array.getElem?_eq_some_iff.1 hz0).1
  have HK : ∀ (p : Addr) (o1 o2 o3 : Obj), p.block = w.heap.size → (((W0.alloc o1).alloc o2).alloc o3).cell? p = W0.cell? p := fun p o1 o2 o3 hp => by
    rw [World.cell?_alloc_lt _ _ _ (by simp only [World.size_alloc]; omega), World.cell?_alloc_lt _ _ _ (by simp only [World.size_alloc]; omega), World.cell?_alloc_lt _ _ _ (by omega)]
  have l0 := fun o1 o2 o3 => (HK ⟨w.heap.size, 0, none⟩ o1 o2 o3 rfl).trans f0
  have l1 := fun o1 o2 o3 => (HK ⟨w.heap.size, 1, none⟩ o1 o2 o3 rfl).trans f1
  have l2 := fun o1 o2 o3 => (HK ⟨w.heap.size, 2, none⟩ o1 o2 o3 rfl).trans f2
  have l3 := fun o1 o2 o3 => (HK ⟨w.heap.size, 3, none⟩ o1 o2 o3 rfl).trans f3
  have l4 := fun o1 o2 o3 => (HK ⟨w.heap.size, 4, none⟩ o1 o2 o3 rfl).trans f4
  have l5 := fun o1 o2 o3 => (HK ⟨w.heap.size, 5, none⟩ o1 o2 o3 rfl).trans f5
  clear HK
  clear T h1 h2 h3 hx hz0
  go_enter Tryd.func6, Tryd.ntmps6
  go_upto_region 1 with (fail)
  rw [← hW0]
  clear hW0
  go_cut [3, 4, 5] (fun s3 s4 s5 wx => ∃ pa pb pc, s3 = .pointer (some ⟨pa, 0, none⟩) ∧ s4 = .pointer (some ⟨pb, 0, none⟩) ∧ s5 = .pointer (some ⟨pc, 0, none⟩) ∧ wx.heap[pa]? = some (.cells #[.int .i64 a, .int .i64 b] 25 (0, 0)) ∧ wx.heap[pb]? = some (.cells #[.int .i64 c, .int .i64 d] 25 (0, 0)) ∧ wx.heap[pc]? = some (.cells #[.int .i64 x, .int .i64 y] 25 (0, 0)) ∧ Below w.heap.size w wx)
  case first =>
    go_region
    all_goals go_wp2
    all_goals go_meet
    all_goals refine ⟨_, _, _, rfl, rfl, rfl, ?_, ?_, ?_, ?_⟩
    all_goals first
      | exact perm1 _ _ _ _ _
      | exact perm2 _ _ _ _ _
      | exact perm3 _ _ _ _ _
      | exact perm_below hw0 _ _ _
  case rest =>
    obtain ⟨pa, pb, pc, rfl, rfl, rfl, ha, hb, hc, hB⟩ := hcut
    clear f0 f1 f2 f3 f4 f5 hs0 hw0 l0 l1 l2 l3 l4 l5
    have hla := (Array.getElem?_eq_some_iff.1 ha).1
    have hlb := (Array.getElem?_eq_some_iff.1 hb).1
    have hlc := (Array.getElem?_eq_some_iff.1 hc).1
    obtain ⟨wo, hwo⟩ : ∃ q, q = wc := ⟨_, rfl⟩
    subst hwo
    have HX : Hid (∀ W, Below wo.heap.size wo W → W.cell? ⟨pa, 0, none⟩ = some (.int .i64 a) ∧ W.cell? ⟨pa, 1, none⟩ = some (.int .i64 b) ∧ W.cell? ⟨pb, 0, none⟩ = some (.int .i64 c) ∧ W.cell? ⟨pb, 1, none⟩ = some (.int .i64 d) ∧ W.cell? ⟨pc, 0, none⟩ = some (.int .i64 x) ∧ W.cell? ⟨pc, 1, none⟩ = some (.int .i64 y)) := Lib.hid fun W hW => by
      obtain ⟨a0, a1, _, _⟩ := box_facts ((hW.block _ hla).trans ha)
      obtain ⟨b0, b1, _, _⟩ := box_facts ((hW.block _ hlb).trans hb)
      obtain ⟨c0, c1, _, _⟩ := box_facts ((hW.block _ hlc).trans hc)
      exact ⟨a0, a1, b0, b1, c0, c1⟩
    clear ha hb hc hla hlb hlc
    have hC := Below.refl wo.heap.size wo
    obtain ⟨a0, a1, b0, b1, c0, c1⟩ := HX.out _ hC
    go_wp2_with fail
    refine (KV1.out _).mono ?_
    rintro e w1 ⟨rfl, hb1⟩
    have hC := hC.trans (hb1.mono hC.size)
    have hB1 := hB.trans (hC.mono hB.size)
    clear a0 a1 b0 b1 c0 c1 hb1
    obtain ⟨a0, a1, b0, b1, c0, c1⟩ := HX.out _ hC
    cases v1 with
    | false =>
      go_wp2_with (go_at_call 12; refine (CA.out _ hB1).mono ?_; rintro e wz ⟨rfl, hbz⟩)
      go_ret
      exact ⟨rfl, hB1.trans (hbz.mono hB1.size)⟩
    | true =>
      go_wp2_with fail
      refine (KV2.out _).mono ?_
      rintro e w2 ⟨rfl, hb2⟩
      have hC := hC.trans (hb2.mono hC.size)
      have hB2 := hB.trans (hC.mono hB.size)
      clear a0 a1 b0 b1 c0 c1 hb2
      obtain ⟨a0, a1, b0, b1, c0, c1⟩ := HX.out _ hC
      cases v2 with
      | false =>
        go_wp2_with (go_at_call 12; refine (CA.out _ hB2).mono ?_; rintro e wz ⟨rfl, hbz⟩)
        go_ret
        exact ⟨rfl, hB2.trans (hbz.mono hB2.size)⟩
      | true =>
        have hv3 : v3 = false := by
          rcases HXX.out with h | h | h
          · cases h
          · cases h
          · exact h
        subst hv3
        go_wp2_with fail
        refine (KV3.out _).mono ?_
        rintro e w3 ⟨rfl, hb3⟩
        have hC := hC.trans (hb3.mono hC.size)
        have hB3 := hB.trans (hC.mono hB.size)
        go_wp2_with (go_at_call 12; refine (CA.out _ hB3).mono ?_; rintro e wz ⟨rfl, hbz⟩)
        go_ret
        exact ⟨rfl, hB3.trans (hbz.mono hB3.size)⟩

theorem lawO_any (z : Sp × Sp × Sp) (w : World) (T : PTabs w) :
    Calls Tryd.prog 6 #[.agg #[.int .i64 z.1.1, .int .i64 z.1.2, .int .i64 z.2.1.1, .int .i64 z.2.1.2, .int .i64 z.2.2.1, .int .i64 z.2.2.2]] w fun e w' => e = .returned (.bool true) ∧ Below w.heap.size w w' := by
  obtain ⟨⟨a, b⟩, ⟨c, d⟩, ⟨x, y⟩⟩ := z
  show Calls Tryd.prog 6 #[.agg #[.int .i64 a, .int .i64 b, .int .i64 c, .int .i64 d, .int .i64 x, .int .i64 y]] w _
  cases h1 : okS (a, b) with
  | false => exact lawO_out a b c d x y w T (.inl h1)
  | true =>
    cases h2 : okS (c, d) with
    | false => exact lawO_out a b c d x y w T (.inr (.inl h2))
    | true =>
      cases h3 : okS (x, y) with
      | false => exact lawO_out a b c d x y w T (.inr (.inr h3))
      | true =>
        have k1 := okS_iff.1 h1
        have k2 := okS_iff.1 h2
        have k3 := okS_iff.1 h3
        simp only at k1 k2 k3
        obtain ⟨ma, mb, isv, hm, hma⟩ : ∃ ma mb isv, meetS (a, b) (c, d) = ((ma, mb), isv, 0) ∧ ((isv = true ∧ ma = max a c ∧ mb = min b d ∧ ma ≤ mb) ∨ (isv = false ∧ max a c > min b d)) := by
          unfold meetS; rw [h1, h2, if_neg (by simp)]
          simp only
          by_cases h : max a c ≤ min b d
          · exact ⟨_, _, _, by rw [if_pos h], .inl ⟨rfl, rfl, rfl, h⟩⟩
          · exact ⟨_, _, _, by rw [if_neg h], .inr ⟨rfl, by omega⟩⟩
        refine lawO_ok a b c d x y ma mb _ _ _ _ _ _ isv w T h1 h2 h3 rfl rfl rfl rfl rfl rfl hm _ rfl ?_ ⟨?_, ?_⟩ _ _ _ rfl rfl rfl ?_
        · intro hin
          rw [wiS_iff] at hin
          simp only at hin
          rw [Bool.eq_iff_iff, wiS_iff]; simp only [Bool.and_eq_true, beq_iff_eq]; omega
        · rw [Bool.and_eq_false_iff, beS_not, beS_not]; simp only; omega
        · intro q1 q2 q3 q4 q5
          rw [beS_iff] at q4 q5 ⊢; simp only at q4 q5 ⊢; omega
        · rw [Bool.eq_iff_iff]
          simp only [Bool.and_eq_true, Bool.not_eq_true', Bool.and_eq_false_iff, beq_eq_false_iff_ne, decide_eq_true_eq, beS_not, wiS_not]
          rcases hma with ⟨rfl, rfl, rfl, hle⟩ | ⟨rfl, hgt⟩
          · constructor
            · rintro ⟨⟨⟨_, q1⟩, q2⟩, q3⟩
              refine ⟨⟨⟨?_, ?_⟩, ?_⟩, ?_⟩ <;> omega
            · rintro ⟨⟨⟨q1, q2⟩, q3⟩, q4⟩
              refine ⟨⟨⟨rfl, ?_⟩, ?_⟩, ?_⟩ <;> omega
          · constructor
            · rintro ⟨⟨⟨q0, _⟩, _⟩, _⟩
              cases q0
            · rintro ⟨⟨⟨q1, q2⟩, q3⟩, q4⟩
              exfalso; omega
end Go.Proofs.YtbajikkjkiacnaaDoor
