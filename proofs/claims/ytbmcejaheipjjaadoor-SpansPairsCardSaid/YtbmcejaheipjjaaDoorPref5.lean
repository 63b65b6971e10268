/- Layer 3: the reference's Cover. -/
import Derived.Test.YtbmcejaheipjjaaDoorPref4
namespace Go.Proofs.YtbmcejaheipjjaaDoor
open Go.RowKit Go.PlainAid

set_option maxRecDepth 50000 in
set_option maxHeartbeats 6400000 in
theorem rCover_any (a : Option Addr) (n c : Nat) (l : List Sp) (w : World) (h : SpsAt w (.slice a n c) l) (hn : n = l.length) (hl : n ≤ 1000000) :
    Calls Tryd.prog 14 #[.slice a n c] w fun e w' => e = .returned (shiftV (coverS l)) ∧ Below w.heap.size w w' := by
  obtain ⟨W0, hW0⟩ : ∃ W0, W0 = w.alloc (.cells #[.int .i64 0, .int .i64 0] 25) := ⟨_, rfl⟩
  have hsz : W0.heap.size = w.heap.size + 1 := by rw [hW0]; simp
  have hw0 : Below w.heap.size w W0 := by subst hW0; exact below_a1 _ _
  have hz0 : W0.heap[w.heap.size]? = some (.cells #[.int .i64 0, .int .i64 0] 25 (0, 0)) := by subst hW0; exact World.alloc_heap_new _ _
  have HT := Lib.hid fun (W : World) (h : Below W0.heap.size W0 W) => (show W.heap[w.heap.size]? = some (.cells #[.int .i64 0, .int .i64 0] 25 (0, 0)) ∧ Below w.heap.size w W from ⟨(h.block _ (by omega)).trans hz0, hw0.trans (h.mono (by omega))⟩)
  have H : Hid (∀ W, Below W0.heap.size W0 W → SpsAt W (.slice a n c) l) := Lib.hid fun W hb => h.below (HT.out W hb).2 (Nat.le_refl _)
  have HN := Lib.hid hn
  clear h hn
  go_enter Tryd.func14, Tryd.ntmps14
  go_wp2
  rw [← hW0]
  clear hW0
  go_loopw [4] (fun x4 wr => ∃ k : Nat, x4 = .int .i64 k ∧ k ≤ n ∧ Hid (∀ (j : Nat) s, j < k → l[j]? = some s → okS s = true) ∧ Below W0.heap.size W0 wr) (fun x4 _ => n - (intOf x4).toNat)
  case atStart => exact ⟨0, rfl, Nat.zero_le _, Lib.hid (fun j s h => by omega), Below.refl _ _⟩
  case round =>
    obtain ⟨k, rfl, hk, hno, hB⟩ := hrel
    by_cases hlt : k < n
    · obtain ⟨s, hs⟩ : ∃ s, l[k]? = some s := ⟨_, List.getElem?_eq_getElem (by rw [← HN.out]; exact hlt)⟩
      obtain ⟨ka, kb⟩ := s
      rcases H.out _ hB with ⟨_, _, _, hnil⟩ | ⟨g, off, cc, hv, hg, hcl⟩
      · rw [hnil] at hs; simp at hs
      · obtain ⟨rfl, hv2, rfl⟩ := Value.slice.inj hv
        have d0 : wr.cell? ⟨g, off + k * 2, none⟩ = some (.int .i64 ka) := hcl _ _ (scs_at l hs).1
        have d1 : wr.cell? ⟨g, off + k * 2 + 1, none⟩ = some (.int .i64 kb) := hcl _ _ (scs_at l hs).2
        have HS := Lib.hid hs
        have hk0 : (0 : Int) ≤ (k : Int) := Int.natCast_nonneg _
        have hk1 : (k : Int) < (n : Int) := by omega
        clear hcl hv hv2 hs
        cases hok : okS (ka, kb)
        · have HE : Hid (shiftV (coverS l) = .tuple #[.agg #[.int .i64 0, .int .i64 0], .int .i64 6]) := Lib.hid (by
            have := badS_at hno.out HS.out hok
            have hl0 : l ≠ [] := by intro e; have := HS.out; rw [e] at this; simp at this
            cases l with
            | nil => exact absurd rfl hl0
            | cons s t => unfold coverS; simp only; rw [if_pos (by omega)]; rfl)
          go_wp2_with (go_at_call 42; refine (ris_any _ _ _).mono ?_; rintro e w1 ⟨rfl, hb1⟩; rw [hok]; have hB2 := hB.trans (hb1.mono hB.size); obtain ⟨hz1, hBw⟩ := HT.out _ hB2; obtain ⟨z0, z1, z2, z3⟩ := box_facts hz1)
          (try simp only [Exit.inBlock, Exit.then])
          refine bodyPost_ret (results_box2 rfl _ _ w.heap.size _ _ _ rfl (set_both _ _ hz1)) rfl ?_
          exact ⟨(congrArg Ending.returned HE.out).symm, set_two hBw (Nat.le_refl _)⟩
        · have HN' : Hid (∀ (j : Nat) s, j < k + 1 → l[j]? = some s → okS s = true) := Lib.hid (fun j s h1 h2 => by
            by_cases e : j = k
            · rw [e, HS.out] at h2; rw [← Option.some.inj h2]; exact hok
            · exact hno.out j s (by omega) h2)
          go_wp2_with (go_at_call 42; refine (ris_any _ _ _).mono ?_; rintro e w1 ⟨rfl, hb1⟩; rw [hok])
          go_roundw
          case rel => exact ⟨k + 1, by go_num, by omega, HN', hB.trans (hb1.mono hB.size)⟩
          case measure => simp [intOf]; omega
    · obtain rfl : k = n := by omega
      have HBd : Hid (badS l < 0) := Lib.hid (by rw [badS_no (fun j s h => hno.out j s (by rw [HN.out]; exact (List.getElem?_eq_some_iff.1 h).1) h)]; decide)
      obtain ⟨hz1, hBw⟩ := HT.out _ hB
      obtain ⟨z0, z1, z2, z3⟩ := box_facts hz1
      clear hno
      by_cases hk0 : k = 0
      · subst hk0
        have HE : Hid (shiftV (coverS l) = .tuple #[.agg #[.int .i64 0, .int .i64 0], .int .i64 4]) := Lib.hid (by
          rw [List.eq_nil_of_length_eq_zero HN.out.symm]; rfl)
        go_wp2
        (try simp only [Exit.inBlock, Exit.then])
        refine bodyPost_ret (results_box2 rfl _ _ w.heap.size _ _ _ rfl (set_both _ _ hz1)) rfl ?_
        exact ⟨(congrArg Ending.returned HE.out).symm, set_two hBw (Nat.le_refl _)⟩
      · obtain ⟨s, hs⟩ : ∃ s, l[0]? = some s := ⟨_, List.getElem?_eq_getElem (by rw [← HN.out]; omega)⟩
        obtain ⟨sa, sb⟩ := s
        have hke : ((k : Int) == 0) = false := by rw [beq_eq_false_iff_ne]; omega
        have hkp : 0 < k := by omega
        have hki : (0 : Int) < (k : Int) := by omega
        rcases H.out _ hB with ⟨_, _, _, hnil⟩ | ⟨g, off, cc, hv, hg, hcl⟩
        · rw [hnil] at hs; simp at hs
        · obtain ⟨rfl, hv2, rfl⟩ := Value.slice.inj hv
          have d0 : wr.cell? ⟨g, off, none⟩ = some (.int .i64 sa) := hcl 0 _ (scs_at l hs).1
          have d1 : wr.cell? ⟨g, off + 1, none⟩ = some (.int .i64 sb) := hcl 1 _ (scs_at l hs).2
          have HCL := Lib.hid hcl
          have HS := Lib.hid hs
          obtain ⟨wo, hwo⟩ : ∃ x, x = wr := ⟨_, rfl⟩
          subst hwo
          clear hcl hv hv2 hs
          obtain ⟨n, hkn⟩ : ∃ n, n = k := ⟨_, rfl⟩
          subst hkn
          go_wp2
          go_loopw [6] (fun x6 wr => ∃ (k : Nat) (x y : Int), x6 = .int .i64 k ∧ k ≤ n ∧ Hid (coverG (sa, sb) (l.take k) = (x, y)) ∧ wr.heap[wo.heap.size]? = some (.cells #[.int .i64 x, .int .i64 y] 25 (0, 0)) ∧ Below wo.heap.size wo wr) (fun x6 _ => n - (intOf x6).toNat)
          case atStart => exact ⟨0, sa, sb, rfl, Nat.zero_le _, Lib.hid rfl, World.alloc_heap_new _ _, below_a1 _ _⟩
          case round =>
            obtain ⟨k, x, y, rfl, hk, HG, hbox, hBr⟩ := hrel
            obtain ⟨b0, b1, b2, b3⟩ := box_facts hbox
            by_cases hlt : k < n
            · obtain ⟨s, hs⟩ : ∃ s, l[k]? = some s := ⟨_, List.getElem?_eq_getElem (by rw [← HN.out]; exact hlt)⟩
              obtain ⟨ka, kb⟩ := s
              have e0 : wr.cell? ⟨g, off + k * 2, none⟩ = some (.int .i64 ka) := (hBr.cell (p := ⟨g, off + k * 2, none⟩) hg).trans (HCL.out _ _ (scs_at l hs).1)
              have e1 : wr.cell? ⟨g, off + k * 2 + 1, none⟩ = some (.int .i64 kb) := (hBr.cell (p := ⟨g, off + k * 2 + 1, none⟩) hg).trans (HCL.out _ _ (scs_at l hs).2)
              have HT2 : Hid (∀ x' y', x' = min x ka → y' = max y kb → coverG (sa, sb) (l.take (k + 1)) = (x', y')) := Lib.hid (by
                rintro x' y' rfl rfl
                rw [List.take_add_one, hs]; simp only [Option.toList_some]; rw [coverG_app, HG.out])
              have hk0' : (0 : Int) ≤ (k : Int) := Int.natCast_nonneg _
              have hk1' : (k : Int) < (n : Int) := by omega
              have hq1 : g ≠ wo.heap.size := by omega
              have hq2 : wo.heap.size ≠ g := by omega
              clear hs
              go_wp2
              go_region
              go_wp2
              go_roundw
              case rel => exact ⟨k + 1, min x ka, max y kb, by go_num, by omega, Lib.hid (HT2.out _ _ rfl rfl), set_both _ _ hbox, drew_below (set_two hBr (Nat.le_refl _))⟩
              case measure => simp [intOf]; omega
            · obtain rfl : k = n := by omega
              have HE : Hid (shiftV (coverS l) = .tuple #[.agg #[.int .i64 x, .int .i64 y], .int .i64 0]) := Lib.hid (by
                have hg := HG.out
                rw [List.take_of_length_le (by rw [← HN.out]; omega)] at hg
                have hb := HBd.out
                have h0 := HS.out
                cases l with
                | nil => simp at h0
                | cons s t =>
                  obtain rfl : s = (sa, sb) := by simpa using h0
                  unfold coverS; simp only; rw [if_neg (by omega)]
                  have : coverG (sa, sb) ((sa, sb) :: t) = coverG (sa, sb) t := by
                    unfold coverG; rw [List.foldl_cons]; simp
                  rw [← this, hg]; rfl)
              have hbW := hB.trans (hBr.mono hB.size)
              obtain ⟨hz2, hBw2⟩ := HT.out _ hbW
              obtain ⟨z0, z1, z2, z3⟩ := box_facts hz2
              go_wp2
              (try simp only [Exit.inBlock, Exit.then])
              refine bodyPost_ret (results_box2 rfl _ _ w.heap.size _ _ _ rfl (set_both _ _ hz2)) rfl ?_
              exact ⟨(congrArg Ending.returned HE.out).symm, set_two hBw2 (Nat.le_refl _)⟩
end Go.Proofs.YtbmcejaheipjjaaDoor
