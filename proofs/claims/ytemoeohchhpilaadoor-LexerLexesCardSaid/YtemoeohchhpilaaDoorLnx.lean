/- Next, within a text. -/
import Derived.Test.YtemoeohchhpilaaDoorLx
import Derived.Deep.DeepCutAuto
namespace Go.Proofs.YtemoeohchhpilaaDoor
open Go.RowKit Go.PlainAid

theorem results_boxTS {fn : Func} {p q t : Tmp} (h : fn.results = #[.cell p 33, .cell q 27, .tmp t]) (tmps : Array Value) (W : World) (n m : Nat) (x0 x1 x2 x3 x4 y0 y1 : Value) (tt tu : TypeId)
    (hp : tmps.getD p undef = .pointer (some ⟨n, 0, none⟩)) (hq : tmps.getD q undef = .pointer (some ⟨m, 0, none⟩)) (b : W.heap[n]? = some (.cells #[x0, x1, x2, x3, x4] tt (0, 0))) (b2 : W.heap[m]? = some (.cells #[y0, y1] tu (0, 0))) :
    (results fn tmps).run Tryd.prog W = .ok (.tuple #[.agg #[x0, x1, x2, x3, x4], .agg #[y0, y1], tmps.getD t undef]) W := by
  have c0 : W.cell? ⟨n, 0, none⟩ = some x0 := by simp [World.cell?, b]
  have c1 : W.cell? ⟨n, 1, none⟩ = some x1 := by simp [World.cell?, b]
  have c2 : W.cell? ⟨n, 2, none⟩ = some x2 := by simp [World.cell?, b]
  have c3 : W.cell? ⟨n, 3, none⟩ = some x3 := by simp [World.cell?, b]
  have c4 : W.cell? ⟨n, 4, none⟩ = some x4 := by simp [World.cell?, b]
  have e0 : W.cell? ⟨m, 0, none⟩ = some y0 := by simp [World.cell?, b2]
  have e1 : W.cell? ⟨m, 1, none⟩ = some y1 := by simp [World.cell?, b2]
  have hp' : tmps[p]?.getD undef = .pointer (some ⟨n, 0, none⟩) := by simpa using hp
  have hq' : tmps[q]?.getD undef = .pointer (some ⟨m, 0, none⟩) := by simpa using hq
  simp [results, h, hp', hq', go_sem, c0, c1, c2, c3, c4, e0, e1]
def five (W : World) (n : Nat) (y0 y1 y2 y3 y4 : Value) : World := ((((W.setCell ⟨n, 0, none⟩ y0).setCell ⟨n, 1, none⟩ y1).setCell ⟨n, 2, none⟩ y2).setCell ⟨n, 3, none⟩ y3).setCell ⟨n, 4, none⟩ y4
def two2 (W : World) (n : Nat) (y0 y1 : Value) : World := (W.setCell ⟨n, 0, none⟩ y0).setCell ⟨n, 1, none⟩ y1
theorem five_other {W : World} {n k : Nat} (h : k ≠ n) (y0 y1 y2 y3 y4 : Value) : (five W n y0 y1 y2 y3 y4).heap[k]? = W.heap[k]? := by
  unfold five
  rw [setCell_other h, setCell_other h, setCell_other h, setCell_other h, setCell_other h]
theorem two_other {W : World} {n k : Nat} (h : k ≠ n) (y0 y1 : Value) : (two2 W n y0 y1).heap[k]? = W.heap[k]? := by
  unfold two2; rw [setCell_other h, setCell_other h]
/-- What Next returns within a text. -/
def nxV (k : Nat) (L : List UInt8) : Value := if (firstS k L).2 = 0 then .tuple #[tokA (firstS k L).1, .agg #[.int .i64 0, .int .i64 0], .int .i64 0]
  else .tuple #[tokA (0, 0, 0, 0, []), .agg #[.int .i64 (firstS k L).1.2.1, .int .i64 (firstS k L).1.2.2.1], .int .i64 (firstS k L).2]
set_option maxRecDepth 50000 in
set_option maxHeartbeats 6400000 in
theorem Next_in (a : Option Addr) (n c : Nat) (l : List UInt8) (k : Nat) (w : World) (hv : BytesAt w (.slice a n c) l) (hcap : n ≤ c) (hk : k ≤ n) (hl : n ≤ 8000) (hn : l.length = n) (T : LTabs w) :
    Calls Tryd.prog 9 #[.slice a n c, .int .i64 (k : Int)] w fun e w' => e = .returned (nxV k (l.drop k)) ∧ Below w.heap.size w w' := by
  obtain ⟨W0, hW0⟩ : ∃ W0, W0 = (w.alloc (.cells #[.int .i64 0, .int .i64 0, .int .i64 0, .int .i64 0, .string ⟨#[]⟩] 33)).alloc (.cells #[.int .i64 0, .int .i64 0] 27) := ⟨_, rfl⟩
  have hsz : W0.heap.size = w.heap.size + 2 := by rw [hW0]; simp
  have hB0 : Below w.heap.size w W0 := by rw [hW0]; exact (below_b1 _ _).alloc (by simp) _
  have b1 : W0.heap[w.heap.size]? = some (.cells #[.int .i64 0, .int .i64 0, .int .i64 0, .int .i64 0, .string ⟨#[]⟩] 33 (0, 0)) := by
    rw [hW0]; exact (Below.heap_alloc _ _ _ (by simp only [World.size_alloc]; omega)).trans (World.alloc_heap_new _ _)
  have b2 : W0.heap[w.heap.size + 1]? = some (.cells #[.int .i64 0, .int .i64 0] 27 (0, 0)) := by
    rw [hW0]; have := World.alloc_heap_new (w.alloc (.cells #[.int .i64 0, .int .i64 0, .int .i64 0, .int .i64 0, .string ⟨#[]⟩] 33)) (.cells #[.int .i64 0, .int .i64 0] 27); rwa [World.size_alloc] at this
  have CF := first_any a n c l k W0 (RowAt.below hv hB0 (Nat.le_refl _)) hcap hk (by omega) hn (T.below hB0)
  unfold firV at CF
  have HNv : Hid (∀ r, firstS k (l.drop k) = r → nxV k (l.drop k) = if r.2 = 0 then .tuple #[tokA r.1, .agg #[.int .i64 0, .int .i64 0], .int .i64 0] else .tuple #[tokA (0, 0, 0, 0, []), .agg #[.int .i64 r.1.2.1, .int .i64 r.1.2.2.1], .int .i64 r.2]) := Lib.hid (by rintro r rfl; rfl)
  obtain ⟨⟨⟨tk, tf, tt, tn, tx⟩, te⟩, ht⟩ : ∃ r, firstS k (l.drop k) = r := ⟨_, rfl⟩
  have HV := Lib.hid (HNv.out _ ht)
  rw [ht] at CF
  unfold tokA tokC at CF
  simp only at CF
  have HCF := Lib.hid CF
  have HB1 := Lib.hid b1
  have HB2 := Lib.hid b2
  have HB0 := Lib.hid hB0
  have HZ := Lib.hid hsz
  have d1 : decide ((8000 : Int) < (n : Int)) = false := decide_eq_false (by omega)
  have d2 : decide ((k : Int) < 0) = false := decide_eq_false (by omega)
  have d3 : decide ((n : Int) < (k : Int)) = false := decide_eq_false (by omega)
  have hk0 : (0 : Int) ≤ (k : Int) := Int.natCast_nonneg _
  have hkn : ¬ (n < k) := by omega
  clear hv T hn b1 b2 hB0 hsz CF ht HNv
  -- MARKA
  go_enter Tryd.func9, Tryd.ntmps9
  go_wp2_with fail
  -- MARKB
  rw [← hW0]
  refine HCF.out.mono ?_
  rintro e w1 ⟨rfl, hb1⟩
  clear hW0
  have x1 := (hb1.block w.heap.size (by rw [HZ.out]; omega)).trans HB1.out
  have x2 := (hb1.block (w.heap.size + 1) (by rw [HZ.out]; omega)).trans HB2.out
  have HBW := Lib.hid (HB0.out.trans (hb1.mono (by rw [HZ.out]; omega)))
  obtain ⟨⟨t0, t1, t2, t3, t4⟩, u0, u1, u2, u3, u4⟩ := box5_facts x1
  obtain ⟨s0, s1, s2, s3⟩ := box2_all x2
  have HX1 := Lib.hid x1
  have HX2 := Lib.hid x2
  clear x1 x2
  -- MARKC
  go_upto_if 29 with (fail)
  -- MARKD
  obtain ⟨W5, hW5⟩ : ∃ W5, W5 = ((((w1.setCell ⟨w.heap.size, 0, none⟩ (.int .i64 tk)).setCell ⟨w.heap.size, 1, none⟩ (.int .i64 tf)).setCell ⟨w.heap.size, 2, none⟩ (.int .i64 tt)).setCell ⟨w.heap.size, 3, none⟩ (.int .i64 tn)).setCell ⟨w.heap.size, 4, none⟩ (.string (str tx)) := ⟨_, rfl⟩
  have y1 : W5.heap[w.heap.size]? = some (.cells #[.int .i64 tk, .int .i64 tf, .int .i64 tt, .int .i64 tn, .string (str tx)] 33 (0, 0)) := by rw [hW5]; exact set_five _ _ _ _ _ HX1.out
  have y2 : W5.heap[w.heap.size + 1]? = some (.cells #[.int .i64 0, .int .i64 0] 27 (0, 0)) := by rw [hW5]; exact (five_other (W := w1) (by omega) _ _ _ _ _).trans HX2.out
  have HB5 : Hid (Below w.heap.size w W5) := Lib.hid (by rw [hW5]; exact below_five HBW.out (Nat.le_refl _) _ _ _ _ _)
  rw [← hW5]
  clear hW5 t0 t1 t2 t3 t4 u0 u1 u2 u3 u4 s0 s1 s2 s3 HX1 HX2 HBW hb1
  obtain ⟨⟨t0, t1, t2, t3, t4⟩, u0, u1, u2, u3, u4⟩ := box5_facts y1
  obtain ⟨s0, s1, s2, s3⟩ := box2_all y2
  have HY1 := Lib.hid y1
  have HY2 := Lib.hid y2
  clear y1 y2
  have hAB : w.heap.size ≠ w.heap.size + 1 := by omega
  have hBA : w.heap.size + 1 ≠ w.heap.size := by omega
  by_cases he : te = 0
  · subst he
    go_wp2_with fail
    -- MARK1
    (try simp only [Exit.inBlock, Exit.then])
    refine bodyPost_ret (results_boxTS rfl _ _ w.heap.size (w.heap.size + 1) _ _ _ _ _ _ _ _ _ rfl rfl ((two_other (W := five _ _ _ _ _ _ _) (by omega) _ _).trans (set_five _ _ _ _ _ HY1.out)) (set_both _ _ ((five_other (by omega) _ _ _ _ _).trans HY2.out))) rfl ?_
    exact ⟨by rw [HV.out]; rfl, below_two (below_five HB5.out (Nat.le_refl _) _ _ _ _ _) (by omega)⟩
  · have hne : (te != 0) = true := bne_iff_ne.2 he
    have HV2 : Hid (nxV k (l.drop k) = .tuple #[tokA (0, 0, 0, 0, []), .agg #[.int .i64 tf, .int .i64 tt], .int .i64 te]) := Lib.hid (by rw [HV.out, if_neg he])
    clear he
    go_wp2_with fail
    -- MARK2
    (try simp only [Exit.inBlock, Exit.then])
    refine bodyPost_ret (results_boxTS rfl _ _ w.heap.size (w.heap.size + 1) _ _ _ _ _ _ _ _ _ rfl rfl ((two_other (W := five _ _ _ _ _ _ _) (by omega) _ _).trans (set_five _ _ _ _ _ HY1.out)) (set_both _ _ ((five_other (by omega) _ _ _ _ _).trans HY2.out))) rfl ?_
    exact ⟨by rw [HV2.out]; rfl, below_two (below_five HB5.out (Nat.le_refl _) _ _ _ _ _) (by omega)⟩

end Go.Proofs.YtemoeohchhpilaaDoor
