/- The law BindsSame. -/
import Derived.Test.YtbkkmcfpjpbhaaaVla
namespace Go.Proofs.Ytbkkmcfpjpbhaaa
open Go.RowKit Go.PlainAid

set_option maxRecDepth 100000 in
set_option maxHeartbeats 6400000 in
theorem lawSm_any (v : Value) (T : List Bd) (a b : Bd) (w : World) (h : BsAt w v T) :
    Calls Try.prog 5 #[v, bdA a, bdA b] w fun e w' => e = .returned (.bool true) ∧ Below w.heap.size w w' := by
  have CAw := Lib.hid (fun W => awakeB_any W)
  have CF := Lib.hid (fun W v2 (hW : Below w.heap.size w W) (h2 : SsAt W v2 [a.n, a.s, b.n, b.s]) => far_any v v2 T [a.n, a.s, b.n, b.s] W (h.below hW (Nat.le_refl _)) h2 (by simp))
  have HV := Lib.hid (fun W (hW : Below w.heap.size w W) => h.below hW (Nat.le_refl _))
  have HA : Hid (#[Value.string (str a.n), .string (str a.s), .string (str b.n), .string (str b.s)] = ([a.n, a.s, b.n, b.s].map fun x => Value.string (str x)).toArray) := Lib.hid rfl
  have HFar : Hid (farB T [a.n, a.s, b.n, b.s] = false → SmB T ∧ T.length ≤ 1005 ∧ a.s.length ≤ 100000 ∧ b.s.length ≤ 100000) := Lib.hid fun e => by
    obtain ⟨_, h2, h3, h4⟩ := far_no e
    have e1 := h4 a.s (by simp)
    have e2 := h4 b.s (by simp)
    exact ⟨smB_of h3, h2, by omega, by omega⟩
  have C1 := Lib.hid (fun (hs : SmB T) (e1 : a.s.length ≤ 100000) (e2 : b.s.length ≤ 100000) W (hW : Below w.heap.size w W) => Same_any v T a b W (HV.out W hW) hs e1 e2)
  have C2 := Lib.hid (fun (hs : SmB T) (e1 : a.s.length ≤ 100000) (e2 : b.s.length ≤ 100000) W (hW : Below w.heap.size w W) => rSameB_any v T a b W (HV.out W hW) hs e1 e2)
  have R1 := Lib.hid (fun (hs : SmB T) W (hW : Below w.heap.size w W) => Of_any v T a.p a.r W (HV.out W hW) hs)
  have R2 := Lib.hid (fun (hs : SmB T) W (hW : Below w.heap.size w W) => rOfB_any v T a.p a.r W (HV.out W hW) hs)
  have HLn : Hid (T.length ≤ 1005 → (ofE T a.p a.r).1.length ≤ 1000000) := Lib.hid fun e => by
    have := ofB_len T a.p a.r T.length
    unfold ofE
    split
    · exact Nat.zero_le _
    · show (ofB T a.p a.r T.length).length ≤ _
      omega
  obtain ⟨a0, c0, hv, -⟩ := h.slice
  obtain ⟨m, hm⟩ : ∃ m, T.length = m := ⟨_, rfl⟩
  rw [hm] at hv HFar HLn
  subst hv
  obtain ⟨F, hF⟩ : ∃ F, farB T [a.n, a.s, b.n, b.s] = F := ⟨_, rfl⟩
  rw [hF] at CF HFar
  unfold sameV at C1 C2
  obtain ⟨⟨sb, se⟩, hc⟩ : ∃ c, sameE T a b = c := ⟨_, rfl⟩
  rw [hc] at C1 C2
  obtain ⟨⟨L, ae⟩, hL⟩ : ∃ r, ofE T a.p a.r = r := ⟨_, rfl⟩
  unfold GivesNE at R1 R2
  rw [hL] at R1 R2 HLn
  simp only [bdA_eq] at C1 C2 R1 R2 HLn ⊢
  obtain ⟨an, aS, ap, ar⟩ := a
  obtain ⟨bn, bS, bp, br⟩ := b
  simp only at CF C1 C2 R1 R2 HA HFar ⊢
  obtain ⟨AN, hAN⟩ : ∃ S, str an = S := ⟨_, rfl⟩
  obtain ⟨AS, hAS⟩ : ∃ S, str aS = S := ⟨_, rfl⟩
  obtain ⟨BN, hBN⟩ : ∃ S, str bn = S := ⟨_, rfl⟩
  obtain ⟨BS, hBS⟩ : ∃ S, str bS = S := ⟨_, rfl⟩
  rw [hAN, hAS, hBN, hBS] at C1 C2 HA ⊢
  obtain ⟨W0, hW0⟩ : ∃ W0, W0 = (w.alloc (.cells #[.string AN, .string AS, .int .i64 ap, .int .i64 ar] 24)).alloc (.cells #[.string BN, .string BS, .int .i64 bp, .int .i64 br] 24) := ⟨_, rfl⟩
  have hb0 : Below w.heap.size w W0 := by rw [hW0]; exact (below_b1 _ _).alloc (below_b1 _ _).size _
  have hz0 : W0.heap.size = w.heap.size + 2 := by rw [hW0, World.size_alloc, World.size_alloc]
  have hxb : W0.heap[w.heap.size + 1]? = some (.cells #[.string BN, .string BS, .int .i64 bp, .int .i64 br] 24 (0, 0)) := by
    have := World.alloc_heap_new (w.alloc (.cells #[.string AN, .string AS, .int .i64 ap, .int .i64 ar] 24)) (.cells #[.string BN, .string BS, .int .i64 bp, .int .i64 br] 24)
    rw [World.size_alloc, ← hW0] at this; exact this
  have hxa : W0.heap[w.heap.size]? = some (.cells #[.string AN, .string AS, .int .i64 ap, .int .i64 ar] 24 (0, 0)) := by
    rw [hW0, ((below_b1 (w.alloc _) _).block w.heap.size (by rw [World.size_alloc]; omega))]; exact World.alloc_heap_new _ _
  have HXA := Lib.hid (fun W (hW : Below W0.heap.size W0 W) => box4_facts ((hW.block w.heap.size (by omega)).trans hxa))
  have HXB := Lib.hid (fun W (hW : Below W0.heap.size W0 W) => box4_facts ((hW.block (w.heap.size + 1) (by omega)).trans hxb))
  have HZ := Lib.hid hz0
  clear h hm hF hc hL hAN hAS hBN hBS hxa hxb hz0
  go_enter Try.func5, Try.ntmps5
  go_wp2_with fail
  rw [← hW0]
  refine (CF.out _ _ (hb0.alloc hb0.size _) (ss_new W0 [an, aS, bn, bS] 4 _ rfl _ HA.out _ HZ.out)).mono ?_
  rintro e w1 ⟨rfl, hb1⟩
  have hX1 : Below W0.heap.size W0 w1 := (below_b1 W0 _).trans (hb1.mono (below_b1 W0 _).size)
  have hw1 := below_step hb0 hX1
  obtain ⟨k0, k1, k2, k3⟩ := HXA.out _ hX1
  obtain ⟨l0, l1, l2, l3⟩ := HXB.out _ hX1
  clear hW0 hb1
  cases F
  · obtain ⟨hs, hlm, e1, e2⟩ := HFar.out rfl
    have C1b := Lib.hid (C1.out hs e1 e2)
    have C2b := Lib.hid (C2.out hs e1 e2)
    have R1b := Lib.hid (R1.out hs)
    have R2b := Lib.hid (R2.out hs)
    have HLb := Lib.hid (HLn.out hlm)
    clear C1 C2 R1 R2 HFar HLn hs hlm e1 e2 CF
    go_wp2_with fail
    refine (C1b.out _ hw1).mono ?_
    rintro e w2 ⟨rfl, hb2⟩
    have hw2 := below_step hw1 hb2
    have hX2 := below_step hX1 hb2
    obtain ⟨k0, k1, k2, k3⟩ := HXA.out _ hX2
    obtain ⟨l0, l1, l2, l3⟩ := HXB.out _ hX2
    go_wp2_with fail
    refine (C2b.out _ hw2).mono ?_
    rintro e w3 ⟨rfl, hb3⟩
    have hw3 := below_step hw2 hb3
    have hX3 := below_step hX2 hb3
    obtain ⟨k0, k1, k2, k3⟩ := HXA.out _ hX3
    go_wp2_with fail
    refine (R1b.out _ hw3).mono ?_
    rintro e w4 ⟨v4, rfl, HO4, hb4⟩
    have hw4 := below_step hw3 hb4
    have hX4 := below_step hX3 hb4
    have HB4 := Lib.hid (nat_own HO4.out rfl)
    obtain ⟨a4, c4, rfl⟩ := own_len HO4.out
    obtain ⟨k0, k1, k2, k3⟩ := HXA.out _ hX4
    go_wp2_with fail
    refine (R2b.out _ hw4).mono ?_
    rintro e w5 ⟨v5, rfl, HO5, hb5⟩
    have hw5 := below_step hw4 hb5
    have HB5 := Lib.hid (nat_own HO5.out rfl)
    obtain ⟨a5, c5, rfl⟩ := own_len HO5.out
    have CS : Hid (Calls Try.prog 21 #[.slice a4 L.length c4, .slice a5 L.length c5] w5 fun e w' => e = .returned (.bool true) ∧ Below w5.heap.size w5 w') := Lib.hid (by
      have := rInts_any _ _ L L w5 (HB4.out.below hb5 (Nat.le_refl _)) HB5.out HLb.out
      rw [decide_eq_true rfl] at this; exact this)
    obtain ⟨q, hq⟩ : ∃ q, L.length = q := ⟨_, rfl⟩
    rw [hq] at CS ⊢
    clear hq HO4 HO5 HB4 HB5
    go_wp2_with fail
    -- MARK1
    refine CS.out.mono ?_
    rintro e w6 ⟨rfl, hb6⟩
    have hw6 := below_step hw5 hb6
    go_wp2_with fail
    refine (CAw.out _).mono ?_
    rintro e wz ⟨rfl, hbz⟩
    go_wp2_with fail
    go_ret
    exact ⟨rfl, below_step hw6 hbz⟩
  · go_wp2_with fail
    refine (CAw.out _).mono ?_
    rintro e wz ⟨rfl, hbz⟩
    go_wp2_with fail
    go_ret
    exact ⟨rfl, below_step hw1 hbz⟩
-- MARK9
end Go.Proofs.Ytbkkmcfpjpbhaaa
