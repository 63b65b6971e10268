/- The reference's Same, with spans. -/
import Derived.Test.YtlpbhncdkhppkaaDoorLsame
namespace Go.Proofs.YtlpbhncdkhppkaaDoor
open Go.RowKit Go.PlainAid

set_option maxRecDepth 50000 in
set_option maxHeartbeats 3200000 in
theorem SameT_any (v v' : Value) (l : List Tok) (w : World) (h : TksAt w v l) (h' : TksAt w v' l) (hl : l.length ≤ 1000000) :
    Calls Tryd.prog 16 #[v, v', .bool true] w fun e w' => e = .returned (.bool true) ∧ Below w.heap.size w w' := by
  obtain ⟨a, c, hv⟩ := h.slice
  obtain ⟨a', c', hv'⟩ := h'.slice
  obtain ⟨n, hn⟩ : ∃ n, l.length = n := ⟨_, rfl⟩
  rw [hn] at hv hv'
  subst hv hv'
  have H := Lib.hid h
  have H' := Lib.hid h'
  have HN := Lib.hid hn
  have hnb : n ≤ 1000000 := by omega
  have hne : (((n : Int)) != (n : Int)) = false := by simp
  clear h h' hn hl
  go_enter Tryd.func16, Tryd.ntmps16
  go_wp2_with fail
  go_loopw [7] (fun i wr => ∃ k : Nat, k ≤ n ∧ i = .int .i64 k ∧ Below w.heap.size w wr) (fun i _ => n - (intOf i).toNat)
  case atStart => exact ⟨0, Nat.zero_le _, rfl, Below.refl _ _⟩
  case round =>
    obtain ⟨k, hk, rfl, hB⟩ := hrel
    by_cases hlt : k < n
    · obtain ⟨s, hs⟩ : ∃ s, l[k]? = some s := ⟨_, List.getElem?_eq_getElem (by rw [HN.out]; exact hlt)⟩
      obtain ⟨sk, sf, st, sn, sx⟩ := s
      obtain ⟨g, off, cc, hv, hg, hcl⟩ := (H.out.below hB (Nat.le_refl _)).some (by intro e; rw [e] at hs; cases hs)
      obtain ⟨g', off', cc', hv', hg', hcl'⟩ := (H'.out.below hB (Nat.le_refl _)).some (by intro e; rw [e] at hs; cases hs)
      obtain ⟨rfl, hv2, rfl⟩ := Value.slice.inj hv
      obtain ⟨rfl, hv3, rfl⟩ := Value.slice.inj hv'
      have F : ∀ j u, (tcs l)[j]? = some u → wr.cell? ⟨g, off + j, none⟩ = some u := hcl
      have F' : ∀ j u, (tcs l)[j]? = some u → wr.cell? ⟨g', off' + j, none⟩ = some u := hcl'
      obtain ⟨a0, a1, a2, a3, a4⟩ := tcs_at l hs
      obtain ⟨b0, b1, b2, b3, b4⟩ := tcs_at l hs
      have c0 : wr.cell? ⟨g, off + k * 5, none⟩ = _ := F _ _ a0
      have c1 : wr.cell? ⟨g, off + k * 5 + 1, none⟩ = _ := F _ _ a1
      have c2 : wr.cell? ⟨g, off + k * 5 + 2, none⟩ = _ := F _ _ a2
      have c3 : wr.cell? ⟨g, off + k * 5 + 3, none⟩ = _ := F _ _ a3
      have c4 : wr.cell? ⟨g, off + k * 5 + 4, none⟩ = _ := F _ _ a4
      have d0 : wr.cell? ⟨g', off' + k * 5, none⟩ = _ := F' _ _ b0
      have d1 : wr.cell? ⟨g', off' + k * 5 + 1, none⟩ = _ := F' _ _ b1
      have d2 : wr.cell? ⟨g', off' + k * 5 + 2, none⟩ = _ := F' _ _ b2
      have d3 : wr.cell? ⟨g', off' + k * 5 + 3, none⟩ = _ := F' _ _ b3
      have d4 : wr.cell? ⟨g', off' + k * 5 + 4, none⟩ = _ := F' _ _ b4
      simp only at c0 c1 c2 c3 c4 d0 d1 d2 d3 d4
      obtain ⟨X, hX⟩ : ∃ X, str sx = X := ⟨_, rfl⟩
      rw [hX] at c4 d4
      have hkm : (k : Int) < (n : Int) := by omega
      have hk0 : (0 : Int) ≤ (k : Int) := Int.natCast_nonneg _
      have hBs := hB.size
      clear hcl hcl' hv hv' hv2 hv3 hs F F' a0 a1 a2 a3 a4 b0 b1 b2 b3 b4 hX
      go_upto_region 6 with (fail)
      -- MARK1
      go_cut [8, 9] (fun s8 s9 wx => ∃ pa pb, s8 = .pointer (some ⟨pa, 0, none⟩) ∧ s9 = .pointer (some ⟨pb, 0, none⟩) ∧ w.heap.size ≤ pa ∧ w.heap.size ≤ pb ∧ pa ≠ pb ∧ wx.heap[pa]? = some (.cells #[.int .i64 sk, .int .i64 sf, .int .i64 st, .int .i64 sn, .string X] 33 (0, 0)) ∧ wx.heap[pb]? = some (.cells #[.int .i64 sk, .int .i64 sf, .int .i64 st, .int .i64 sn, .string X] 33 (0, 0)) ∧ Below w.heap.size w wx)
      case first =>
        go_region
        all_goals go_wp2
        all_goals go_meet
        -- MARK2
        all_goals refine ⟨_, _, rfl, rfl, ?_, ?_, ?_, ?_, ?_, ?_⟩
        all_goals first
          | omega
          | exact bothL1 _ _ _ _
          | exact bothL2 _ _ _ _
          | exact bothL_below hB hBs _ _
      case rest =>
        obtain ⟨pa, pb, rfl, rfl, hpa, hpb, hab, ha, hb2, hBc⟩ := hcut
        obtain ⟨⟨t0, t1, t2, t3, t4⟩, u0, u1, u2, u3, u4⟩ := box5_facts ha
        obtain ⟨⟨q0, q1, q2, q3, q4⟩, v0, v1, v2, v3, v4⟩ := box5_facts hb2
        have hba : pb ≠ pa := fun e => hab e.symm
        have HA := Lib.hid ha
        have HBb := Lib.hid hb2
        have HBc := Lib.hid hBc
        clear ha hb2 hBc hB c0 c1 c2 c3 c4 d0 d1 d2 d3 d4
        go_wp2_with fail
        -- MARK4
        exact ⟨⟨k + 1, by omega, by go_num, HBc.out⟩, by simp [intOf]; omega⟩
    · obtain rfl : k = n := by omega
      go_wp2_with fail
      go_ret
      exact ⟨rfl, hB⟩
end Go.Proofs.YtlpbhncdkhppkaaDoor
