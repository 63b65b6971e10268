/- Layer 3: Cover, and the reference's Cover, Meet, Within, Before. -/
import Derived.Test.YtbajikkjkiacnaaDoorPdoor
import Derived.Deep.RegionHeld3
namespace Go.Proofs.YtbajikkjkiacnaaDoor
open Go.RowKit Go.PlainAid

theorem coverG_app (a : Sp) (l : List Sp) (s : Sp) : coverG a (l ++ [s]) = (min (coverG a l).1 s.1, max (coverG a l).2 s.2) := by
  unfold coverG; rw [List.foldl_append]; rfl
theorem sps_tail {W : World} {a : Option Addr} {n c : Nat} {s : Sp} {l : List Sp} (h : SpsAt W (.slice a n c) (s :: l)) (hcap : n ≤ c) : SpsAt W (.slice (if c = 1 then a else a.map (·.add 2)) (n - 1) (c - 1)) l := by
  rcases h with ⟨_, _, _, h0⟩ | ⟨g, off, cap, e, hg, hc⟩
  · cases h0
  · obtain ⟨rfl, rfl, rfl⟩ := Value.slice.inj e
    by_cases h0 : l.length = 0
    · obtain rfl := List.eq_nil_of_length_eq_zero h0
      exact .inl ⟨_, _, rfl, rfl⟩
    · by_cases h1 : c = 1
      · simp only [List.length_cons] at hcap; omega
      · rw [if_neg h1, Option.map_some, Go.WideShapes.add_plain]
        refine .inr ⟨g, off + 2, _, rfl, hg, fun j u hj => ?_⟩
        have := hc (j + 2) u (by rw [scs_cons]; simpa using hj)
        rw [show off + 2 + j = off + (j + 2) by omega]; exact this

set_option maxHeartbeats 1600000 in
theorem bounds_any (a b : Int) (v : Value) (l : List Sp) (w : World) (h : SpsAt w v l) (hl : l.length ≤ 1000000) :
    Calls Tryd.prog 41 #[.agg #[.int .i64 a, .int .i64 b], v] w fun e w' => e = .returned (.tuple #[.int .i64 (coverG (a, b) l).1, .int .i64 (coverG (a, b) l).2]) ∧ Below w.heap.size w w' := by
  obtain ⟨aa, cap, hv⟩ := h.slice
  obtain ⟨n, hn⟩ : ∃ n, n = l.length := ⟨_, rfl⟩
  rw [← hn] at hv
  subst hv
  have H := Lib.hid h
  have HN := Lib.hid hn
  have hnb : n ≤ 1000000 := by omega
  clear h hn hl
  go_enter Tryd.func41, Tryd.ntmps41
  obtain ⟨W0, hW0⟩ : ∃ W0, W0 = w.alloc (.cells #[.int .i64 a, .int .i64 b] 25) := ⟨_, rfl⟩
  obtain ⟨c0, c1, hB0⟩ := one_cells w W0 a b 25 (by subst hW0; exact Below.refl _ _)
  go_wp2
  rw [← hW0]
  clear hW0
  go_quiet (fail)
  go_wp2
  go_loopw [4, 5, 14] (fun x4 x5 x14 wr => ∃ (k : Nat) (x y : Int), x14 = .int .i64 k ∧ k ≤ n ∧ x4 = .int .i64 x ∧ x5 = .int .i64 y ∧ Hid (coverG (a, b) (l.take k) = (x, y)) ∧ Below w.heap.size w wr) (fun _ _ x14 _ => n - (intOf x14).toNat)
  case atStart => exact ⟨0, a, b, rfl, Nat.zero_le _, rfl, rfl, Lib.hid rfl, ⟨hB0.os, hB0.tape, hB0.output, hB0.size, hB0.block⟩⟩
  case round =>
    obtain ⟨k, x, y, rfl, hk, rfl, rfl, HG, hB⟩ := hrel
    by_cases hlt : k < n
    · obtain ⟨s, hs⟩ : ∃ s, l[k]? = some s := ⟨_, List.getElem?_eq_getElem (by rw [← HN.out]; exact hlt)⟩
      obtain ⟨sa, sb⟩ := s
      rcases H.out.below hB (Nat.le_refl _) with ⟨_, _, _, hnil⟩ | ⟨g, off, cc, hv, hg, hcl⟩
      · rw [hnil] at hs; simp at hs
      · obtain ⟨rfl, hv2, rfl⟩ := Value.slice.inj hv
        have d0 : wr.cell? ⟨g, off + k * 2, none⟩ = some (.int .i64 sa) := hcl _ _ (scs_at l hs).1
        have d1 : wr.cell? ⟨g, off + k * 2 + 1, none⟩ = some (.int .i64 sb) := hcl _ _ (scs_at l hs).2
        have HT : Hid (∀ x' y', x' = min x sa → y' = max y sb → coverG (a, b) (l.take (k + 1)) = (x', y')) := Lib.hid (by
          rintro x' y' rfl rfl
          rw [List.take_add_one, hs]; simp only [Option.toList_some]; rw [coverG_app, HG.out])
        obtain ⟨W2, hW2⟩ : ∃ W2, W2 = wr.alloc (.cells #[.int .i64 sa, .int .i64 sb] 25) := ⟨_, rfl⟩
        obtain ⟨e0, e1, hB2⟩ := one_cells wr W2 sa sb 25 (by subst hW2; exact Below.refl _ _)
        have hB3 := hB.trans (hB2.mono hB.size)
        clear hcl hv hv2 hs
        by_cases h1 : sa < x <;> by_cases h2 : y < sb <;> (
          go_wp2
          rw [← hW2]
          clear hW2
          go_quiet (fail)
          go_wp2
          go_roundw
          case rel => exact ⟨k + 1, _, _, by go_num, by omega, rfl, rfl, Lib.hid (HT.out _ _ (by omega) (by omega)), ⟨hB3.os, hB3.tape, hB3.output, hB3.size, hB3.block⟩⟩
          case measure => simp [intOf]; omega)
    · have HE : Hid (coverG (a, b) l = (x, y)) := Lib.hid (by
        have := HG.out; rw [List.take_of_length_le (by rw [← HN.out]; omega)] at this; exact this)
      have hkn : k = n := by omega
      subst hkn
      go_wp2
      go_returns
      exact ⟨by rw [HE.out]; rfl, hB⟩

set_option maxRecDepth 50000 in
set_option maxHeartbeats 1600000 in
theorem Cover_any (a : Option Addr) (n c : Nat) (l : List Sp) (w : World) (h : SpsAt w (.slice a n c) l) (hn : n = l.length) (hcap : n ≤ c) (hl : n ≤ 1000000) :
    Calls Tryd.prog 13 #[.slice a n c] w fun e w' => e = .returned (shiftV (coverS l)) ∧ Below w.heap.size w w' := by
  obtain ⟨W0, hW0⟩ : ∃ W0, W0 = w.alloc (.cells #[.int .i64 0, .int .i64 0] 25) := ⟨_, rfl⟩
  have hsz : W0.heap.size = w.heap.size + 1 := by rw [hW0]; simp
  have hw0 : Below w.heap.size w W0 := by subst hW0; exact below_a1 _ _
  have hz0 : W0.heap[w.heap.size]? = some (.cells #[.int .i64 0, .int .i64 0] 25 (0, 0)) := by subst hW0; exact World.alloc_heap_new _ _
  have HT := Lib.hid fun (W : World) (h : Below W0.heap.size W0 W) => (show W.heap[w.heap.size]? = some (.cells #[.int .i64 0, .int .i64 0] 25 (0, 0)) ∧ Below w.heap.size w W from ⟨(h.block _ (by omega)).trans hz0, hw0.trans (h.mono (by omega))⟩)
  cases l with
  | nil =>
    obtain rfl : n = 0 := hn
    have hz := hz0
    obtain ⟨z0, z1, z2, z3⟩ := box_facts hz
    go_enter Tryd.func13, Tryd.ntmps13
    go_wp2
    rw [← hW0]
    (try simp only [Exit.inBlock, Exit.then])
    refine bodyPost_ret (results_box2 rfl _ _ w.heap.size _ _ _ rfl hz0) rfl ?_
    exact ⟨rfl, hw0⟩
  | cons s t =>
    obtain ⟨s0, s1⟩ := s
    have CF : Hid (∀ W, Below w.heap.size w W → Calls Tryd.prog 40 #[.slice a n c] W fun e w' => e = .returned (.int .i64 (badS ((s0, s1) :: t))) ∧ Below W.heap.size W w') := Lib.hid fun W hb => firstBad_any _ _ W (h.below hb (Nat.le_refl _)) (by omega)
    by_cases hbad : badS ((s0, s1) :: t) < 0
    · have hbd : badS ((s0, s1) :: t) = -1 := by
        rcases badS_bd ((s0, s1) :: t) with h1 | h1
        · omega
        · cases h1
      have HV : Hid (shiftV (coverS ((s0, s1) :: t)) = .tuple #[.agg #[.int .i64 (coverG (s0, s1) t).1, .int .i64 (coverG (s0, s1) t).2], .int .i64 0]) := Lib.hid (by unfold coverS; simp only; rw [if_neg (by omega)]; rfl)
      rw [hbd] at CF
      have CB : Hid (∀ A cc, ((c = 1 ∧ A = a ∧ cc = 0) ∨ (¬ c = 1 ∧ A = a.map (·.add 2) ∧ cc = c - 1)) → ∀ W, Below w.heap.size w W → Calls Tryd.prog 41 #[.agg #[.int .i64 s0, .int .i64 s1], .slice A (n - 1) cc] W fun e w' => e = .returned (.tuple #[.int .i64 (coverG (s0, s1) t).1, .int .i64 (coverG (s0, s1) t).2]) ∧ Below W.heap.size W w') := Lib.hid fun A cc hA W hb => by
        refine bounds_any s0 s1 _ t W ?_ (by simp only [List.length_cons] at hn; omega)
        have := sps_tail (h.below hb (Nat.le_refl _)) hcap
        rcases hA with ⟨hA1, rfl, rfl⟩ | ⟨hA1, rfl, rfl⟩
        · rw [if_pos hA1, show c - 1 = 0 by omega] at this; exact this
        · rw [if_neg hA1] at this; exact this
      have hn0 : n ≠ 0 := by rw [hn]; simp
      have hn1 : 1 ≤ n := by omega
      have hc1 : 1 ≤ c := by omega
      rcases h with ⟨_, _, _, h0⟩ | ⟨g, off, cap, e, hg, hc⟩
      · cases h0
      · obtain ⟨rfl, hv2, rfl⟩ := Value.slice.inj e
        have HC : Hid (∀ W, Below w.heap.size w W → W.cell? ⟨g, off, none⟩ = some (.int .i64 s0) ∧ W.cell? ⟨g, off + 1, none⟩ = some (.int .i64 s1)) := Lib.hid fun W hb => ⟨(hb.cell (p := ⟨g, off, none⟩) hg).trans (hc 0 _ rfl), (hb.cell (p := ⟨g, off + 1, none⟩) hg).trans (hc 1 _ rfl)⟩
        have hd : ((n : Int) == 0) = false := by rw [beq_eq_false_iff_ne]; omega
        clear hc e hn hbad hbd hv2
        have hi0 : (0 : Int) < (n : Int) := by omega
        have hp0 : 0 < n := by omega
        have hp1 : ¬ n ≤ 0 := by omega
        have hp2 : ¬ (n : Int) ≤ 0 := by omega
        have hi1 : (1 : Int) ≤ (n : Int) := by omega
        have hi2 : (n : Int) ≤ (c : Int) := by omega
        by_cases hcc : c = 1
        all_goals
          first
            | (subst hcc
               obtain rfl : n = 1 := by omega
               replace CB := Lib.hid fun W hb => CB.out (some ⟨g, off, none⟩) 0 (.inl ⟨rfl, rfl, rfl⟩) W hb)
            | (replace CB := Lib.hid fun W hb => CB.out _ _ (.inr ⟨hcc, rfl, rfl⟩) W hb
               rw [Option.map_some, Go.WideShapes.add_plain] at CB)
          go_enter Tryd.func13, Tryd.ntmps13
          go_wp2_with (go_at_call 40; rw [← hW0]; refine (CF.out _ hw0).mono ?_; rintro e w1 ⟨rfl, hb1⟩; obtain ⟨hz1, hB1⟩ := HT.out _ hb1; obtain ⟨d0, d1⟩ := HC.out _ hB1)
          have HWD : Hid (Below w.heap.size w w1.drew ∧ Below W0.heap.size W0 w1.drew) := Lib.hid ⟨⟨hB1.os, hB1.tape, hB1.output, hB1.size, hB1.block⟩, ⟨hb1.os, hb1.tape, hb1.output, hb1.size, hb1.block⟩⟩
          go_region_held3 (fun w' => w'.cell? ⟨g, off, none⟩ = some (.int .i64 s0) ∧ w'.cell? ⟨g, off + 1, none⟩ = some (.int .i64 s1)) (go_keep)
            (first
              | (go_at_call 41; refine (CB.out _ HWD.out.1).mono ?_; rintro e w2 ⟨rfl, hb2⟩; have hW2 := HWD.out.2.trans (hb2.mono HWD.out.2.size); obtain ⟨hz2, hB2⟩ := HT.out _ hW2; obtain ⟨d2, d3⟩ := HC.out _ hB2; obtain ⟨z0, z1, z2, z3⟩ := box_facts hz2))
          all_goals go_wp2
          all_goals (try simp only [Exit.inBlock, Exit.then])
          all_goals refine bodyPost_ret (results_box2 rfl _ _ w.heap.size _ _ _ rfl (set_both _ _ hz2)) rfl ?_
          all_goals exact ⟨(congrArg Ending.returned HV.out).symm, set_two hB2 (Nat.le_refl _)⟩
    · have HV : Hid (shiftV (coverS ((s0, s1) :: t)) = .tuple #[.agg #[.int .i64 0, .int .i64 0], .int .i64 6]) := Lib.hid (by unfold coverS; simp only; rw [if_pos (by omega)]; rfl)
      obtain ⟨k, hk⟩ : ∃ k : Nat, badS ((s0, s1) :: t) = (k : Int) := ⟨(badS ((s0, s1) :: t)).toNat, by omega⟩
      rw [hk] at CF
      have hn0 : n ≠ 0 := by rw [hn]; simp
      have hd : ((n : Int) == 0) = false := by rw [beq_eq_false_iff_ne]; omega
      clear h hn hbad hk
      go_enter Tryd.func13, Tryd.ntmps13
      go_wp2_with (go_at_call 40; rw [← hW0]; refine (CF.out _ hw0).mono ?_; rintro e w1 ⟨rfl, hb1⟩; obtain ⟨hz1, hB1⟩ := HT.out _ hb1; obtain ⟨z0, z1, z2, z3⟩ := box_facts hz1)
      all_goals (try simp only [Exit.inBlock, Exit.then])
      all_goals refine bodyPost_ret (results_box2 rfl _ _ w.heap.size _ _ _ rfl (set_both _ _ hz1)) rfl ?_
      all_goals exact ⟨(congrArg Ending.returned HV.out).symm, set_two hB1 (Nat.le_refl _)⟩
end Go.Proofs.YtbajikkjkiacnaaDoor
