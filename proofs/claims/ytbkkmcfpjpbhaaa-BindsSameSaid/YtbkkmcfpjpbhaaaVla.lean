/- The laws BindsChecks and BindsResolves. -/
import Derived.Test.YtbkkmcfpjpbhaaaVz
namespace Go.Proofs.Ytbkkmcfpjpbhaaa
open Go.RowKit Go.PlainAid

theorem smB_of {T : List Bd} (h : ∀ x ∈ T, x.n.length ≤ 150 ∧ x.s.length ≤ 150) : SmB T := fun x hx => by have := h x hx; omega
set_option maxRecDepth 100000 in
set_option maxHeartbeats 6400000 in
theorem lawCk_any (v : Value) (T : List Bd) (b : Bd) (w : World) (h : BsAt w v T) :
    Calls Try.prog 3 #[v, bdA b] w fun e w' => e = .returned (.bool true) ∧ Below w.heap.size w w' := by
  have CAw := Lib.hid (fun W => awakeB_any W)
  have CF := Lib.hid (fun W v2 (hW : Below w.heap.size w W) (h2 : SsAt W v2 [b.n, b.s]) => far_any v v2 T [b.n, b.s] W (h.below hW (Nat.le_refl _)) h2 (by simp))
  have HV := Lib.hid (fun W (hW : Below w.heap.size w W) => h.below hW (Nat.le_refl _))
  have HA : Hid (#[Value.string (str b.n), .string (str b.s)] = ([b.n, b.s].map fun x => Value.string (str x)).toArray) := Lib.hid rfl
  have HFar : Hid (farB T [b.n, b.s] = false → SmB T ∧ T.length ≤ 1005 ∧ b.n.length ≤ 100000 ∧ b.s.length ≤ 100000) := Lib.hid fun e => by
    obtain ⟨_, h2, h3, h4⟩ := far_no e
    have e1 := h4 b.n (by simp)
    have e2 := h4 b.s (by simp)
    exact ⟨smB_of h3, h2, by omega, by omega⟩
  have C1 := Lib.hid (fun (hs : SmB T) W (hW : Below w.heap.size w W) => bcheck_any v T W (HV.out W hW) hs)
  have C2 := Lib.hid (fun (hs : SmB T) W (hW : Below w.heap.size w W) => rbCheck_any v T W (HV.out W hW) hs)
  have A1 := Lib.hid (fun (hs : SmB T) (e1 : b.n.length ≤ 100000) (e2 : b.s.length ≤ 100000) W (hW : Below w.heap.size w W) => Add_any v T b W (HV.out W hW) hs e1 e2)
  have A2 := Lib.hid (fun (hs : SmB T) (e1 : b.n.length ≤ 100000) (e2 : b.s.length ≤ 100000) W (hW : Below w.heap.size w W) => rAdd_any v T b W (HV.out W hW) hs e1 e2)
  have HLn : Hid (T.length ≤ 1005 → (addE T b).1.length ≤ 1000000) := Lib.hid fun e => by
    unfold addE; (repeat' split) <;> simp <;> omega
  obtain ⟨a0, c0, hv, -⟩ := h.slice
  obtain ⟨m, hm⟩ : ∃ m, T.length = m := ⟨_, rfl⟩
  rw [hm] at hv HFar HLn
  subst hv
  obtain ⟨F, hF⟩ : ∃ F, farB T [b.n, b.s] = F := ⟨_, rfl⟩
  rw [hF] at CF HFar
  unfold chkV at C1 C2
  obtain ⟨⟨ci, ce⟩, hc⟩ : ∃ c, chkB T = c := ⟨_, rfl⟩
  rw [hc] at C1 C2
  obtain ⟨⟨L, ae⟩, hL⟩ : ∃ r, addE T b = r := ⟨_, rfl⟩
  unfold GivesB at A1 A2
  rw [hL] at A1 A2 HLn
  simp only [bdA_eq] at A1 A2 C1 C2 HLn ⊢
  obtain ⟨bn, bS, bp, br⟩ := b
  simp only at CF A1 A2 HA HFar ⊢
  obtain ⟨BN, hBN⟩ : ∃ S, str bn = S := ⟨_, rfl⟩
  obtain ⟨BS, hBS⟩ : ∃ S, str bS = S := ⟨_, rfl⟩
  rw [hBN, hBS] at A1 A2 HA ⊢
  obtain ⟨W0, hW0⟩ : ∃ W0, W0 = w.alloc (.cells #[.string BN, .string BS, .int .i64 bp, .int .i64 br] 24) := ⟨_, rfl⟩
  have hb0 : Below w.heap.size w W0 := by rw [hW0]; exact below_b1 _ _
  have hz0 : W0.heap.size = w.heap.size + 1 := by rw [hW0, World.size_alloc]
  have hx0 : W0.heap[w.heap.size]? = some (.cells #[.string BN, .string BS, .int .i64 bp, .int .i64 br] 24 (0, 0)) := by rw [hW0]; exact World.alloc_heap_new _ _
  have HX0 := Lib.hid (fun W (hW : Below W0.heap.size W0 W) => box4_facts ((hW.block w.heap.size (by omega)).trans hx0))
  clear h hm hF hc hL hBN hBS hx0
  go_enter Try.func3, Try.ntmps3
  go_wp2_with fail
  rw [← hW0]
  refine (CF.out _ _ (hb0.alloc hb0.size _) (ss_new W0 [bn, bS] 2 _ rfl _ HA.out _ hz0)).mono ?_
  rintro e w1 ⟨rfl, hb1⟩
  have hX1 : Below W0.heap.size W0 w1 := (below_b1 W0 _).trans (hb1.mono (below_b1 W0 _).size)
  have hw1 := below_step hb0 hX1
  clear hW0 hb1
  cases F
  · obtain ⟨hs, hlm, e1, e2⟩ := HFar.out rfl
    have C1b := Lib.hid (C1.out hs)
    have C2b := Lib.hid (C2.out hs)
    have A1b := Lib.hid (A1.out hs e1 e2)
    have A2b := Lib.hid (A2.out hs e1 e2)
    have HLb := Lib.hid (HLn.out hlm)
    clear C1 C2 A1 A2 HFar HLn hs hlm e1 e2 CF
    go_wp2_with fail
    refine (C1b.out _ hw1).mono ?_
    rintro e w2 ⟨rfl, hb2⟩
    have hw2 := below_step hw1 hb2
    have hX2 := below_step hX1 hb2
    go_wp2_with fail
    refine (C2b.out _ hw2).mono ?_
    rintro e w3 ⟨rfl, hb3⟩
    have hw3 := below_step hw2 hb3
    have hX3 := below_step hX2 hb3
    obtain ⟨k0, k1, k2, k3⟩ := HX0.out _ hX3
    go_wp2_with fail
    refine (A1b.out _ hw3).mono ?_
    rintro e w4 ⟨v4, rfl, HO4, hb4⟩
    have hw4 := below_step hw3 hb4
    have hX4 := below_step hX3 hb4
    have HB4 := Lib.hid (bs_own HO4.out rfl)
    obtain ⟨a4, c4, rfl⟩ := own_len HO4.out
    obtain ⟨k0, k1, k2, k3⟩ := HX0.out _ hX4
    go_wp2_with fail
    refine (A2b.out _ hw4).mono ?_
    rintro e w5 ⟨v5, rfl, HO5, hb5⟩
    have hw5 := below_step hw4 hb5
    have HB5 := Lib.hid (bs_own HO5.out rfl)
    obtain ⟨a5, c5, rfl⟩ := own_len HO5.out
    have CS : Hid (Calls Try.prog 16 #[.slice a4 L.length c4, .slice a5 L.length c5] w5 fun e w' => e = .returned (.bool true) ∧ Below w5.heap.size w5 w') := Lib.hid (by
      have := rSameT_any _ _ L L w5 (HB4.out.below hb5 (Nat.le_refl _)) HB5.out HLb.out
      rw [decide_eq_true rfl] at this; exact this)
    obtain ⟨q, hq⟩ : ∃ q, L.length = q := ⟨_, rfl⟩
    rw [hq] at CS ⊢
    clear hq HO4 HO5 HB4 HB5
    go_wp2_with fail
    -- MARK1
    refine CS.out.mono ?_
    rintro e w6 ⟨rfl, hb6⟩
    have hw6 := below_step hw5 hb6
    go_wp2_with fail
    refine (CAw.out _).mono ?_
    rintro e wz ⟨rfl, hbz⟩
    go_wp2_with fail
    go_ret
    exact ⟨rfl, below_step hw6 hbz⟩
  · go_wp2_with fail
    refine (CAw.out _).mono ?_
    rintro e wz ⟨rfl, hbz⟩
    go_wp2_with fail
    go_ret
    exact ⟨rfl, below_step hw1 hbz⟩
set_option maxRecDepth 100000 in
set_option maxHeartbeats 6400000 in
theorem lawRs_any (v : Value) (T : List Bd) (SN SS : ByteArray) (w : World) (h : BsAt w v T) :
    Calls Try.prog 4 #[v, .string SN, .string SS] w fun e w' => e = .returned (.bool true) ∧ Below w.heap.size w w' := by
  have CAw := Lib.hid (fun W => awakeB_any W)
  obtain ⟨n, hn, _⟩ := str_of SN
  obtain ⟨s, hs0, _⟩ := str_of SS
  have CF := Lib.hid (fun W v2 (hW : Below w.heap.size w W) (h2 : SsAt W v2 [n, s]) => far_any v v2 T [n, s] W (h.below hW (Nat.le_refl _)) h2 (by simp))
  have HV := Lib.hid (fun W (hW : Below w.heap.size w W) => h.below hW (Nat.le_refl _))
  have HA : Hid (#[Value.string SN, .string SS] = ([n, s].map fun x => Value.string (str x)).toArray) := Lib.hid (by rw [← hn, ← hs0]; rfl)
  have HFar : Hid (farB T [n, s] = false → SmB T ∧ T.length ≤ 1005 ∧ s.length ≤ 100000) := Lib.hid fun e => by
    obtain ⟨_, h2, h3, h4⟩ := far_no e
    have e2 := h4 s (by simp)
    exact ⟨smB_of h3, h2, by omega⟩
  have C1 := Lib.hid (fun (hs : SmB T) (e2 : s.length ≤ 100000) W (hW : Below w.heap.size w W) => Candidates_any v T n s W (HV.out W hW) hs e2)
  have C2 := Lib.hid (fun (hs : SmB T) (e2 : s.length ≤ 100000) W (hW : Below w.heap.size w W) => rCandidates_any v T n s W (HV.out W hW) hs e2)
  have R1 := Lib.hid (fun (hs : SmB T) (e2 : s.length ≤ 100000) W (hW : Below w.heap.size w W) => Resolve_any v T n s W (HV.out W hW) hs e2)
  have R2 := Lib.hid (fun (hs : SmB T) (e2 : s.length ≤ 100000) W (hW : Below w.heap.size w W) => rResolve_any v T n s W (HV.out W hW) hs e2)
  have HLn : Hid (T.length ≤ 1005 → (candE T n s).1.length ≤ 1000000) := Lib.hid fun e => by
    have := candG_len T n s T.length
    unfold candE
    split
    · exact Nat.zero_le _
    · show (candG T n s T.length).length ≤ _
      omega
  obtain ⟨a0, c0, hv, -⟩ := h.slice
  obtain ⟨m, hm⟩ : ∃ m, T.length = m := ⟨_, rfl⟩
  rw [hm] at hv HFar HLn
  subst hv
  obtain ⟨F, hF⟩ : ∃ F, farB T [n, s] = F := ⟨_, rfl⟩
  rw [hF] at CF HFar
  obtain ⟨⟨L, ae⟩, hL⟩ : ∃ r, candE T n s = r := ⟨_, rfl⟩
  unfold GivesNE at C1 C2
  rw [hL] at C1 C2 HLn
  unfold resV at R1 R2
  obtain ⟨⟨ri, re⟩, hr⟩ : ∃ r, resE T n s = r := ⟨_, rfl⟩
  rw [hr] at R1 R2
  rw [hn, hs0] at C1 C2 R1 R2
  simp only at C1 C2 R1 R2 HLn
  clear h hm hF hL hr hn hs0
  go_enter Try.func4, Try.ntmps4
  go_wp2_with fail
  refine (CF.out _ _ (below_b1 w _) (ss_new w [n, s] 2 _ rfl _ HA.out _ rfl)).mono ?_
  rintro e w1 ⟨rfl, hb1⟩
  have hw1 : Below w.heap.size w w1 := (below_b1 w _).trans (hb1.mono (below_b1 w _).size)
  clear hb1
  cases F
  · obtain ⟨hs, hlm, e2⟩ := HFar.out rfl
    have C1b := Lib.hid (C1.out hs e2)
    have C2b := Lib.hid (C2.out hs e2)
    have R1b := Lib.hid (R1.out hs e2)
    have R2b := Lib.hid (R2.out hs e2)
    have HLb := Lib.hid (HLn.out hlm)
    clear C1 C2 R1 R2 HFar HLn hs hlm e2 CF
    go_wp2_with fail
    refine (C1b.out _ hw1).mono ?_
    rintro e w2 ⟨v2, rfl, HO2, hb2⟩
    have hw2 := below_step hw1 hb2
    have HB2 := Lib.hid (nat_own HO2.out rfl)
    obtain ⟨a2, c2, rfl⟩ := own_len HO2.out
    go_wp2_with fail
    refine (C2b.out _ hw2).mono ?_
    rintro e w3 ⟨v3, rfl, HO3, hb3⟩
    have hw3 := below_step hw2 hb3
    have HB3 := Lib.hid (nat_own HO3.out rfl)
    obtain ⟨a3, c3, rfl⟩ := own_len HO3.out
    have CS0 : Hid (∀ W, Below w3.heap.size w3 W → Calls Try.prog 21 #[.slice a2 L.length c2, .slice a3 L.length c3] W fun e w' => e = .returned (.bool true) ∧ Below W.heap.size W w') := Lib.hid (fun W hW => by
      have := rInts_any _ _ L L W ((HB2.out.below hb3 (Nat.le_refl _)).below hW (Nat.le_refl _)) (HB3.out.below hW (Nat.le_refl _)) HLb.out
      rw [decide_eq_true rfl] at this; exact this)
    obtain ⟨q, hq⟩ : ∃ q, L.length = q := ⟨_, rfl⟩
    rw [hq] at CS0 ⊢
    clear hq HO2 HO3 HB2 HB3
    go_wp2_with fail
    refine (R1b.out _ hw3).mono ?_
    rintro e w4 ⟨rfl, hb4⟩
    have hw4 := below_step hw3 hb4
    go_wp2_with fail
    refine (R2b.out _ hw4).mono ?_
    rintro e w5 ⟨rfl, hb5⟩
    have hw5 := below_step hw4 hb5
    go_wp2_with fail
    refine (CS0.out _ (below_step hb4 hb5)).mono ?_
    rintro e w6 ⟨rfl, hb6⟩
    have hw6 := below_step hw5 hb6
    go_wp2_with fail
    refine (CAw.out _).mono ?_
    rintro e wz ⟨rfl, hbz⟩
    go_wp2_with fail
    go_ret
    exact ⟨rfl, below_step hw6 hbz⟩
  · go_wp2_with fail
    refine (CAw.out _).mono ?_
    rintro e wz ⟨rfl, hbz⟩
    go_wp2_with fail
    go_ret
    exact ⟨rfl, below_step hw1 hbz⟩
-- MARK9
end Go.Proofs.Ytbkkmcfpjpbhaaa
