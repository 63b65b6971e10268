/- The reference's Same, without spans. -/
import Derived.Test.YtcnekeahlcbflaaDoorLnx
import Derived.RegionTactic
import Derived.ChangeAlike
import Derived.BigRegion
namespace Go.Proofs.YtcnekeahlcbflaaDoor
open Go.RowKit Go.PlainAid

/-- A token without its span. -/
def bareT (t : Tok) : Int × Int × List UInt8 := (t.1, t.2.2.2.1, t.2.2.2.2)
theorem bare_at {l l' : List Tok} {k : Nat} {t t' : Tok} (h : l.map bareT = l'.map bareT) (ht : l[k]? = some t) (ht' : l'[k]? = some t') : bareT t = bareT t' := by
  have : (l.map bareT)[k]? = (l'.map bareT)[k]? := by rw [h]
  rw [List.getElem?_map, List.getElem?_map, ht, ht'] at this
  exact Option.some.inj this
theorem drew_belowL {B : Nat} {w W : World} (h : Below B w W) : Below B w W.drew := h.drew
theorem bothL1 (w : World) (c : Array Value) (t : TypeId) (p : Obj) : ((w.alloc (.cells c t)).alloc p).drew.heap[w.heap.size]? = some (.cells c t (0, 0)) := by
  show ((w.alloc (.cells c t)).alloc p).heap[w.heap.size]? = _
  rw [Below.heap_alloc _ _ _ (by simp), World.alloc_heap_new]
theorem bothL2 (w : World) (c : Array Value) (t : TypeId) (p : Obj) : ((w.alloc p).alloc (.cells c t)).drew.heap[w.heap.size + 1]? = some (.cells c t (0, 0)) := by
  show ((w.alloc p).alloc (.cells c t)).heap[w.heap.size + 1]? = _
  have := World.alloc_heap_new (w.alloc p) (.cells c t)
  rw [World.size_alloc] at this; exact this
theorem bothL_below {B : Nat} {w W : World} (h : Below B w W) (hB : B ≤ W.heap.size) (p q : Obj) : Below B w ((W.alloc p).alloc q).drew := ((h.alloc hB p).alloc (by simp only [World.size_alloc]; omega) q).drew
theorem set_12 {W : World} {n : Nat} {x0 x1 x2 x3 x4 : Value} {t : TypeId} {fr : Nat × Nat} (y1 y2 : Value) (h : W.heap[n]? = some (.cells #[x0, x1, x2, x3, x4] t fr)) :
    ((W.setCell ⟨n, 1, none⟩ y1).setCell ⟨n, 2, none⟩ y2).heap[n]? = some (.cells #[x0, y1, y2, x3, x4] t fr) := by
  simp [World.setCell, Array.getElem?_modify, h]
set_option maxRecDepth 50000 in
set_option maxHeartbeats 3200000 in
theorem Same_any (v v' : Value) (l l' : List Tok) (w : World) (h : TksAt w v l) (h' : TksAt w v' l') (hl : l.length ≤ 1000000) (he : l.map bareT = l'.map bareT) :
    Calls Tryd.prog 16 #[v, v', .bool false] w fun e w' => e = .returned (.bool true) ∧ Below w.heap.size w w' := by
  obtain ⟨a, c, hv⟩ := h.slice
  obtain ⟨a', c', hv'⟩ := h'.slice
  obtain ⟨n, hn⟩ : ∃ n, l.length = n := ⟨_, rfl⟩
  have hn' : l'.length = n := by rw [← hn]; have := congrArg List.length he; simpa using this.symm
  rw [hn] at hv
  rw [hn'] at hv'
  subst hv hv'
  have H := Lib.hid h
  have H' := Lib.hid h'
  have HN := Lib.hid hn
  have HN' := Lib.hid hn'
  have HE := Lib.hid he
  have hnb : n ≤ 1000000 := by omega
  have hne : (((n : Int)) != (n : Int)) = false := by simp
  clear h h' hn hn' hl he
  go_enter Tryd.func16, Tryd.ntmps16
  go_wp2_with fail
  go_loopw [7] (fun i wr => ∃ k : Nat, k ≤ n ∧ i = .int .i64 k ∧ Below w.heap.size w wr) (fun i _ => n - (intOf i).toNat)
  case atStart => exact ⟨0, Nat.zero_le _, rfl, Below.refl _ _⟩
  case round =>
    obtain ⟨k, hk, rfl, hB⟩ := hrel
    by_cases hlt : k < n
    · obtain ⟨s, hs⟩ : ∃ s, l[k]? = some s := ⟨_, List.getElem?_eq_getElem (by rw [HN.out]; exact hlt)⟩
      obtain ⟨s', hs'⟩ : ∃ s, l'[k]? = some s := ⟨_, List.getElem?_eq_getElem (by rw [HN'.out]; exact hlt)⟩
      have hbare := bare_at HE.out hs hs'
      obtain ⟨sk, sf, st, sn, sx⟩ := s
      obtain ⟨sk', sf', st', sn', sx'⟩ := s'
      unfold bareT at hbare
      simp only [Prod.mk.injEq] at hbare
      obtain ⟨rfl, rfl, rfl⟩ := hbare
      obtain ⟨g, off, cc, hv, hg, hcl⟩ := (H.out.below hB (Nat.le_refl _)).some (by intro e; rw [e] at hs; cases hs)
      obtain ⟨g', off', cc', hv', hg', hcl'⟩ := (H'.out.below hB (Nat.le_refl _)).some (by intro e; rw [e] at hs'; cases hs')
      obtain ⟨rfl, hv2, rfl⟩ := Value.slice.inj hv
      obtain ⟨rfl, hv3, rfl⟩ := Value.slice.inj hv'
      have F : ∀ j u, (tcs l)[j]? = some u → wr.cell? ⟨g, off + j, none⟩ = some u := hcl
      have F' : ∀ j u, (tcs l')[j]? = some u → wr.cell? ⟨g', off' + j, none⟩ = some u := hcl'
      obtain ⟨a0, a1, a2, a3, a4⟩ := tcs_at l hs
      obtain ⟨b0, b1, b2, b3, b4⟩ := tcs_at l' hs'
      have c0 : wr.cell? ⟨g, off + k * 5, none⟩ = _ := F _ _ a0
      have c1 : wr.cell? ⟨g, off + k * 5 + 1, none⟩ = _ := F _ _ a1
      have c2 : wr.cell? ⟨g, off + k * 5 + 2, none⟩ = _ := F _ _ a2
      have c3 : wr.cell? ⟨g, off + k * 5 + 3, none⟩ = _ := F _ _ a3
      have c4 : wr.cell? ⟨g, off + k * 5 + 4, none⟩ = _ := F _ _ a4
      have d0 : wr.cell? ⟨g', off' + k * 5, none⟩ = _ := F' _ _ b0
      have d1 : wr.cell? ⟨g', off' + k * 5 + 1, none⟩ = _ := F' _ _ b1
      have d2 : wr.cell? ⟨g', off' + k * 5 + 2, none⟩ = _ := F' _ _ b2
      have d3 : wr.cell? ⟨g', off' + k * 5 + 3, none⟩ = _ := F' _ _ b3
      have d4 : wr.cell? ⟨g', off' + k * 5 + 4, none⟩ = _ := F' _ _ b4
      simp only at c0 c1 c2 c3 c4 d0 d1 d2 d3 d4
      obtain ⟨X, hX⟩ : ∃ X, str sx = X := ⟨_, rfl⟩
      rw [hX] at c4 d4
      have hkm : (k : Int) < (n : Int) := by omega
      have hk0 : (0 : Int) ≤ (k : Int) := Int.natCast_nonneg _
      have hBs := hB.size
      clear hcl hcl' hv hv' hv2 hv3 hs hs' F F' a0 a1 a2 a3 a4 b0 b1 b2 b3 b4 hX
      go_upto_region 6 with (fail)
      -- MARK1
      go_cut [8, 9] (fun s8 s9 wx => ∃ pa pb, s8 = .pointer (some ⟨pa, 0, none⟩) ∧ s9 = .pointer (some ⟨pb, 0, none⟩) ∧ w.heap.size ≤ pa ∧ w.heap.size ≤ pb ∧ pa ≠ pb ∧ wx.heap[pa]? = some (.cells #[.int .i64 sk, .int .i64 sf, .int .i64 st, .int .i64 sn, .string X] 33 (0, 0)) ∧ wx.heap[pb]? = some (.cells #[.int .i64 sk, .int .i64 sf', .int .i64 st', .int .i64 sn, .string X] 33 (0, 0)) ∧ Below w.heap.size w wx)
      case first =>
        go_region
        all_goals go_wp2
        all_goals go_meet
        -- MARK2
        all_goals refine ⟨_, _, rfl, rfl, ?_, ?_, ?_, ?_, ?_, ?_⟩
        all_goals first
          | omega
          | exact bothL1 _ _ _ _
          | exact bothL2 _ _ _ _
          | exact bothL_below hB hBs _ _
      case rest =>
        obtain ⟨pa, pb, rfl, rfl, hpa, hpb, hab, ha, hb2, hBc⟩ := hcut
        obtain ⟨⟨t0, t1, t2, t3, t4⟩, u0, u1, u2, u3, u4⟩ := box5_facts ha
        obtain ⟨⟨q0, q1, q2, q3, q4⟩, v0, v1, v2, v3, v4⟩ := box5_facts hb2
        have hba : pb ≠ pa := fun e => hab e.symm
        have HA := Lib.hid ha
        have HBb := Lib.hid hb2
        have HBc := Lib.hid hBc
        clear ha hb2 hBc hB c0 c1 c2 c3 c4 d0 d1 d2 d3 d4
        go_upto_region 9 with (fail)
        -- MARK3
        obtain ⟨W5, hW5⟩ : ∃ W5, W5 = (((wc.setCell ⟨pa, 1, none⟩ (.int .i64 0)).setCell ⟨pa, 2, none⟩ (.int .i64 0)).setCell ⟨pb, 1, none⟩ (.int .i64 0)).setCell ⟨pb, 2, none⟩ (.int .i64 0) := ⟨_, rfl⟩
        rw [← hW5]
        have y1 : W5.heap[pa]? = some (.cells #[.int .i64 sk, .int .i64 0, .int .i64 0, .int .i64 sn, .string X] 33 (0, 0)) := by
          rw [hW5, setCell_other hab, setCell_other hab]; exact set_12 _ _ HA.out
        have y2 : W5.heap[pb]? = some (.cells #[.int .i64 sk, .int .i64 0, .int .i64 0, .int .i64 sn, .string X] 33 (0, 0)) := by
          rw [hW5]; exact set_12 _ _ (by rw [setCell_other hba, setCell_other hba]; exact HBb.out)
        have hB5 : Below w.heap.size w W5 := by rw [hW5]; exact (((HBc.out.setCell hpa _).setCell hpa _).setCell hpb _).setCell hpb _
        clear hW5 t0 t1 t2 t3 t4 u0 u1 u2 u3 u4 q0 q1 q2 q3 q4 v0 v1 v2 v3 v4 HA HBb HBc
        obtain ⟨⟨t0, t1, t2, t3, t4⟩, u0, u1, u2, u3, u4⟩ := box5_facts y1
        obtain ⟨⟨q0, q1, q2, q3, q4⟩, v0, v1, v2, v3, v4⟩ := box5_facts y2
        clear y1 y2
        go_wp2_with fail
        -- MARK4
        exact ⟨⟨k + 1, by omega, by go_num, hB5⟩, by simp [intOf]; omega⟩
    · obtain rfl : k = n := by omega
      go_wp2_with fail
      go_ret
      exact ⟨rfl, hB⟩
end Go.Proofs.YtcnekeahlcbflaaDoor
