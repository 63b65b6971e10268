/- The reference of layer 11: Same; both answers agree (mathematics). -/
import Derived.Test.YtbkkmcfpjpbhaaaVw
namespace Go.Proofs.Ytbkkmcfpjpbhaaa
open Go.RowKit Go.PlainAid

theorem with_two (T : List Bd) (x y : List UInt8) : withE T [x, y] = if askB T x ≠ 0 then askB T x else askB T y := by
  unfold withE askB
  have e2 : setsE [x, y] = if chkE x ≠ 0 then chkE x else if chkE y ≠ 0 then chkE y else 0 := rfl
  rw [e2]
  by_cases h : (chkB T).2 = 0
  · by_cases h1 : chkE x = 0
    · by_cases h2 : chkE y = 0 <;> simp [h, h1, h2]
    · simp [h, h1]
  · simp [h]
/-- What the reference's Same returns. -/
def rsE (T : List Bd) (a b : Bd) : Bool × Int := if askB T a.s ≠ 0 then (false, askB T a.s) else if askB T b.s ≠ 0 then (false, askB T b.s) else sameB T a.n a.s b.n b.s
theorem mean_eq {T : List Bd} (ho : OkB T) (na sa nb sb : List UInt8) :
    (if (meanB T na sa).2 ≠ 0 then (false, (meanB T na sa).2) else if (meanB T nb sb).2 ≠ 0 then (false, (meanB T nb sb).2) else (decide ((meanB T na sa).1 = (meanB T nb sb).1), (0 : Int))) = sameB T na sa nb sb := by
  have hT : ∀ (i : Nat) (x : Bd), T[i]? = some x → 1 ≤ x.p := fun i x hx => (oneB_ok (ho.one x (List.mem_of_getElem? hx))).2.2.2.1
  unfold sameB meanB
  rcases res_cases (T := T) na sa with ⟨i, e1, hi, _⟩ | ⟨e1, _⟩ | ⟨e1, _⟩ <;> rcases res_cases (T := T) nb sb with ⟨j, e2, hj, _⟩ | ⟨e2, _⟩ | ⟨e2, _⟩ <;> rw [e1, e2]
  · obtain ⟨x, hx, _⟩ := mem_cand.1 hi
    obtain ⟨y, hy, _⟩ := mem_cand.1 hj
    simp [hx, hy]
    constructor
    · intro e; exact ho.apart i j x y hx hy (by rw [e]) (by rw [e])
    · intro e; rw [e, hy] at hx; exact (Option.some.inj hx).symm
  · obtain ⟨x, hx, _⟩ := mem_cand.1 hi
    have := hT i x hx
    simp [hx]
    intro e; rw [e] at this; simp at this
  · simp
  · obtain ⟨y, hy, _⟩ := mem_cand.1 hj
    have := hT j y hy
    simp [hy]
    intro e; rw [← e] at this; simp at this
  · simp
  · simp
  · simp
  · simp
  · simp
theorem same_rs (T : List Bd) (a b : Bd) : sameE T a b = rsE T a b := by
  unfold sameE rsE
  rw [with_two]
  by_cases h1 : askB T a.s = 0
  · have h3 : (if askB T a.s ≠ 0 then askB T a.s else askB T b.s) = askB T b.s := by rw [if_neg (by simpa using h1)]
    rw [h3, if_neg (show ¬ askB T a.s ≠ 0 by simpa using h1)]
    by_cases h2 : askB T b.s = 0
    · rw [if_neg (show ¬ askB T b.s ≠ 0 by simpa using h2), if_neg (show ¬ askB T b.s ≠ 0 by simpa using h2)]
      exact mean_eq (ask_ok h1).1 _ _ _ _
    · rw [if_pos h2, if_pos h2]
  · rw [if_pos h1, if_pos h1, if_pos h1]
set_option maxRecDepth 100000 in
set_option maxHeartbeats 6400000 in
theorem rSameB_any (v : Value) (T : List Bd) (a b : Bd) (w : World) (h : BsAt w v T) (hs : SmB T) (ha : a.s.length ≤ 100000) (hb : b.s.length ≤ 100000) :
    Calls Try.prog 23 #[v, bdA a, bdA b] w fun e w' => e = .returned (sameV (sameE T a b)) ∧ Below w.heap.size w w' := by
  rw [same_rs]
  have CA := Lib.hid (fun W (hW : Below w.heap.size w W) => rasked_any v T a.s W (h.below hW (Nat.le_refl _)) hs ha)
  have CB := Lib.hid (fun W (hW : Below w.heap.size w W) => rasked_any v T b.s W (h.below hW (Nat.le_refl _)) hs hb)
  have RA := Lib.hid (fun (e : askB T a.s = 0) W (hW : Below w.heap.size w W) => show Calls _ _ _ W fun e w' => e = .returned (resV (resB T a.n a.s)) ∧ Below W.heap.size W w' by rw [← resE_ok e]; exact rResolve_any v T a.n a.s W (h.below hW (Nat.le_refl _)) hs ha)
  have RB := Lib.hid (fun (e : askB T b.s = 0) W (hW : Below w.heap.size w W) => show Calls _ _ _ W fun e w' => e = .returned (resV (resB T b.n b.s)) ∧ Below W.heap.size W w' by rw [← resE_ok e]; exact rResolve_any v T b.n b.s W (h.below hW (Nat.le_refl _)) hs hb)
  have HE1 : Hid (askB T a.s ≠ 0 → sameV (rsE T a b) = .tuple #[.bool false, .int .i64 (askB T a.s)]) := Lib.hid fun e => by unfold rsE sameV; rw [if_pos e]
  have HE2 : Hid (askB T a.s = 0 → askB T b.s ≠ 0 → sameV (rsE T a b) = .tuple #[.bool false, .int .i64 (askB T b.s)]) := Lib.hid fun e e2 => by unfold rsE sameV; rw [if_neg (by simpa using e), if_pos e2]
  have HE3 : Hid (askB T a.s = 0 → askB T b.s = 0 → sameV (rsE T a b) = sameV (sameB T a.n a.s b.n b.s)) := Lib.hid fun e e2 => by unfold rsE; rw [if_neg (by simpa using e), if_neg (by simpa using e2)]
  have hqn := str_beqV a.n b.n
  obtain ⟨RV, hRV⟩ : ∃ RV, sameV (rsE T a b) = RV := ⟨_, rfl⟩
  rw [hRV] at HE1 HE2 HE3 ⊢
  obtain ⟨e1, he1⟩ : ∃ e, askB T a.s = e := ⟨_, rfl⟩
  obtain ⟨e2, he2⟩ : ∃ e, askB T b.s = e := ⟨_, rfl⟩
  rw [he1] at CA RA HE1 HE2 HE3
  rw [he2] at CB RB HE2 HE3
  unfold resV at RA RB
  unfold sameB sameV at HE3
  obtain ⟨⟨ia, ea⟩, hra⟩ : ∃ r, resB T a.n a.s = r := ⟨_, rfl⟩
  obtain ⟨⟨ib, eb⟩, hrb⟩ : ∃ r, resB T b.n b.s = r := ⟨_, rfl⟩
  rw [hra] at RA HE3
  rw [hrb] at RB HE3
  simp only at RA RB HE3
  obtain ⟨a0, c0, hv, -⟩ := h.slice
  obtain ⟨m, hm⟩ : ∃ m, T.length = m := ⟨_, rfl⟩
  rw [hm] at hv
  subst hv
  obtain ⟨an, aS, ap, ar⟩ := a
  obtain ⟨bn, bS, bp, br⟩ := b
  simp only [bdA_eq] at CA CB RA RB HE3 hqn ⊢
  have HQ : Hid ((an = bn) = (an = bn)) := Lib.hid rfl
  obtain ⟨bq, hbq⟩ : ∃ q, decide (an = bn) = q := ⟨_, rfl⟩
  rw [hbq] at hqn
  have HBQ := Lib.hid hbq
  obtain ⟨AN, hAN⟩ : ∃ S, str an = S := ⟨_, rfl⟩
  obtain ⟨AS, hAS⟩ : ∃ S, str aS = S := ⟨_, rfl⟩
  obtain ⟨BN, hBN⟩ : ∃ S, str bn = S := ⟨_, rfl⟩
  obtain ⟨BS, hBS⟩ : ∃ S, str bS = S := ⟨_, rfl⟩
  rw [hAN, hAS] at RA
  rw [hAS] at CA
  rw [hBS] at CB
  rw [hBN, hBS] at RB
  rw [hAN, hBN] at hqn
  rw [hAN, hAS, hBN, hBS]
  obtain ⟨W0, hW0⟩ : ∃ W0, W0 = (w.alloc (.cells #[.string AN, .string AS, .int .i64 ap, .int .i64 ar] 24)).alloc (.cells #[.string BN, .string BS, .int .i64 bp, .int .i64 br] 24) := ⟨_, rfl⟩
  have hb0 : Below w.heap.size w W0 := by rw [hW0]; exact (below_b1 _ _).alloc (below_b1 _ _).size _
  have hz0 : W0.heap.size = w.heap.size + 2 := by rw [hW0, World.size_alloc, World.size_alloc]
  have hxb : W0.heap[w.heap.size + 1]? = some (.cells #[.string BN, .string BS, .int .i64 bp, .int .i64 br] 24 (0, 0)) := by
    have := World.alloc_heap_new (w.alloc (.cells #[.string AN, .string AS, .int .i64 ap, .int .i64 ar] 24)) (.cells #[.string BN, .string BS, .int .i64 bp, .int .i64 br] 24)
    rw [World.size_alloc, ← hW0] at this; exact this
  have hxa : W0.heap[w.heap.size]? = some (.cells #[.string AN, .string AS, .int .i64 ap, .int .i64 ar] 24 (0, 0)) := by
    rw [hW0, ((below_b1 (w.alloc _) _).block w.heap.size (by rw [World.size_alloc]; omega))]; exact World.alloc_heap_new _ _
  have HXA := Lib.hid (fun W (hW : Below W0.heap.size W0 W) => box4_facts ((hW.block w.heap.size (by omega)).trans hxa))
  have HXB := Lib.hid (fun W (hW : Below W0.heap.size W0 W) => box4_facts ((hW.block (w.heap.size + 1) (by omega)).trans hxb))
  clear h hs ha hb hRV he1 he2 hra hrb hAN hAS hBN hBS hbq hm hxa hxb hz0 HQ
  go_enter Try.func23, Try.ntmps23
  go_wp2_with fail
  rw [← hW0]
  refine (CA.out _ hb0).mono ?_
  rintro e w1 ⟨rfl, hb1⟩
  have hbw1 := below_step hb0 hb1
  obtain ⟨k0, k1, k2, k3⟩ := HXA.out _ hb1
  obtain ⟨l0, l1, l2, l3⟩ := HXB.out _ hb1
  clear hW0
  by_cases h1 : e1 = 0
  · subst h1
    have HE22 := Lib.hid (HE2.out rfl)
    have HE32 := Lib.hid (HE3.out rfl)
    have RA2 := Lib.hid (RA.out rfl)
    clear HE1 HE2 HE3 RA CA
    go_wp2_with fail
    refine (CB.out _ hbw1).mono ?_
    rintro e w2 ⟨rfl, hb2⟩
    have hbw2 := below_step hbw1 hb2
    have hbW2 := below_step hb1 hb2
    obtain ⟨k0, k1, k2, k3⟩ := HXA.out _ hbW2
    obtain ⟨l0, l1, l2, l3⟩ := HXB.out _ hbW2
    by_cases h2 : e2 = 0
    · subst h2
      have HE33 := Lib.hid (HE32.out rfl)
      have RB2 := Lib.hid (RB.out rfl)
      clear HE22 HE32 RB CB
      go_wp2_with fail
      refine (RA2.out _ hbw2).mono ?_
      rintro e w3 ⟨rfl, hb3⟩
      have hbw3 := below_step hbw2 hb3
      have hbW3 := below_step hbW2 hb3
      obtain ⟨k0, k1, k2, k3⟩ := HXA.out _ hbW3
      obtain ⟨l0, l1, l2, l3⟩ := HXB.out _ hbW3
      go_wp2_with fail
      refine (RB2.out _ hbw3).mono ?_
      rintro e w4 ⟨rfl, hb4⟩
      have hbw4 := below_step hbw3 hb4
      have hbW4 := below_step hbW3 hb4
      obtain ⟨k0, k1, k2, k3⟩ := HXA.out _ hbW4
      obtain ⟨l0, l1, l2, l3⟩ := HXB.out _ hbW4
      by_cases g1 : ea = 11
      · have HR := Lib.hid (HE33.out.trans (by rw [if_pos (.inl g1)]))
        subst g1
        go_wp2_with fail
        go_ret2
        exact ⟨by rw [HR.out]; rfl, hbw4⟩
      · have p1 : (ea == 11) = false := beq_eq_false_iff_ne.2 g1
        by_cases g2 : eb = 11
        · have HR := Lib.hid (HE33.out.trans (by rw [if_pos (.inr g2)]))
          subst g2
          go_wp2_with fail
          go_ret2
          exact ⟨by rw [HR.out]; rfl, hbw4⟩
        · have p2 : (eb == 11) = false := beq_eq_false_iff_ne.2 g2
          by_cases g3 : ea = 0
          · by_cases g4 : eb = 0
            · have HR : Hid (RV = .tuple #[.bool ((ia : Int) == (ib : Int)), .int .i64 0]) := Lib.hid (HE33.out.trans (by
                rw [if_neg (by rintro (e | e); exact g1 e; exact g2 e), if_neg (by rintro (e | e); exact e g3; exact e g4)]
                have e : decide (ia = ib) = ((ia : Int) == (ib : Int)) := by rw [Bool.eq_iff_iff, decide_eq_true_iff, beq_iff_eq]; omega
                rw [e]))
              subst g3 g4
              obtain ⟨bi, hbi⟩ : ∃ bi, ((ia : Int) == (ib : Int)) = bi := ⟨_, rfl⟩
              rw [hbi] at HR
              go_wp2_with fail
              -- MARK1
              go_ret2
              exact ⟨by rw [HR.out]; rfl, hbw4⟩
            · have HR : Hid (RV = .tuple #[.bool false, .int .i64 0]) := Lib.hid (HE33.out.trans (by
                rw [if_neg (by rintro (e | e); exact g1 e; exact g2 e), if_pos (.inr g4), g3, decide_eq_false (fun e => g4 e.1.symm)]))
              have p4 : (eb != 0) = true := bne_iff_ne.2 g4
              have p5 : ((0 : Int) == eb) = false := beq_eq_false_iff_ne.2 (fun e => g4 e.symm)
              subst g3
              go_wp2_with fail
              -- MARK2
              go_ret2
              exact ⟨by rw [HR.out]; rfl, hbw4⟩
          · have p3 : (ea != 0) = true := bne_iff_ne.2 g3
            by_cases g5 : ea = eb
            · have HR : Hid (RV = .tuple #[.bool bq, .int .i64 0]) := Lib.hid (HE33.out.trans (by
                rw [if_neg (by rintro (e | e); exact g1 e; exact g2 e), if_pos (.inl g3), ← HBQ.out]
                have e : decide (ea = eb ∧ an = bn) = decide (an = bn) := by rw [Bool.eq_iff_iff, decide_eq_true_iff, decide_eq_true_iff]; exact ⟨fun h => h.2, fun h => ⟨g5, h⟩⟩
                rw [e]))
              have p5 : (ea == eb) = true := beq_iff_eq.2 g5
              subst g5
              clear g2
              go_wp2_with fail
              -- MARK3
              go_ret2
              exact ⟨by rw [HR.out]; rfl, hbw4⟩
            · have HR : Hid (RV = .tuple #[.bool false, .int .i64 0]) := Lib.hid (HE33.out.trans (by
                rw [if_neg (by rintro (e | e); exact g1 e; exact g2 e), if_pos (.inl g3), decide_eq_false (fun e => g5 e.1)]))
              have p5 : (ea == eb) = false := beq_eq_false_iff_ne.2 g5
              go_wp2_with fail
              -- MARK4
              go_ret2
              exact ⟨by rw [HR.out]; rfl, hbw4⟩
    · have hne : (e2 != 0) = true := bne_iff_ne.2 h2
      have HR := Lib.hid (HE22.out h2)
      go_wp2_with fail
      go_ret2
      exact ⟨by rw [HR.out]; rfl, hbw2⟩
  · have hne : (e1 != 0) = true := bne_iff_ne.2 h1
    have hnq : (e1 == 0) = false := beq_eq_false_iff_ne.2 h1
    have HR := Lib.hid (HE1.out h1)
    go_wp2_with fail
    go_ret2
    exact ⟨by rw [HR.out]; rfl, hbw1⟩
-- MARK9
end Go.Proofs.Ytbkkmcfpjpbhaaa
