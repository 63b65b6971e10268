/- slices.Grow and slices.Concat of syntax. (Turned from XDcat.) -/
import Derived.Test.YtbmgpenllpbioaaGreatDoorYd
import Derived.Test.YtbmgpenllpbioaaGreatDoorYb
import Derived.Lib.AppendZeros
namespace Go.Proofs.YtbmgpenllpbioaaGreatDoor
open Go.RowKit Go.PlainAid

abbrev zeroNx : Value := .agg #[.int .i64 0, .int .i64 0, .int .i64 0, .string ⟨#[]⟩, .string ⟨#[]⟩, .int .i64 0, .int .i64 0, .int .i64 0]
set_option maxRecDepth 50000 in
set_option maxHeartbeats 1600000 in
theorem growX_any (n : Nat) (w : World) (h0 : 0 < n) (hn : n ≤ 1000000) :
    Calls Tryz.prog 79 #[.slice none 0 0, .int .i64 (n : Int)] w fun e w' => ∃ g c, e = .returned (.slice (some ⟨g, 0, none⟩) 0 c) ∧ w'.ownsRow w.heap.size 28 8 (.slice (some ⟨g, 0, none⟩) 0 c) 0 [] ∧ Below w.heap.size w w' := by
  obtain ⟨i0, hi, hj0, hj1, hj2⟩ := info_parts2 zeroSxI
  have hr := Lib.run_append_nil_zeros (P := Tryz.prog) w 22 3 22 28 i0 zeroNx .i64 .i64 Tryz.underlying22 Tryz.underlying3 hi hj0 n h0 (by rw [hj1]; decide) (by omega) (by rw [hj2]; omega)
  have hc1 := grownCap_ge w n 0 28
  have hc2 := grownCap_le_maxLen w n 0 28 (by unfold maxLen; omega)
  obtain ⟨C, hC⟩ : ∃ C, grownCap w n 0 28 = C := ⟨_, rfl⟩
  rw [hC] at hr hc1 hc2
  have hzs : (Builtin.zeroCells zeroNx.cells n ++ Builtin.zeroCells zeroNx.cells (C - n)).size = C * 8 := by
    rw [Array.size_append, size_zeroCells, size_zeroCells]
    show n * 8 + (C - n) * 8 = C * 8
    omega
  obtain ⟨Z, hZ⟩ : ∃ Z, Builtin.zeroCells zeroNx.cells n ++ Builtin.zeroCells zeroNx.cells (C - n) = Z := ⟨_, rfl⟩
  rw [hZ] at hr hzs
  have HR := Lib.hid hr
  have HOwn : Hid ((w.drew.alloc (.cells Z 28)).ownsRow w.heap.size 28 8 (.slice (some ⟨w.heap.size, 0, none⟩) 0 C) 0 []) := Lib.hid
    ⟨rfl, .inr ⟨w.heap.size, C, Z, rfl, Nat.le_refl _, World.alloc_heap_new w.drew _, Nat.zero_le _, hc2, hzs, by simp⟩⟩
  have HBel : Hid (Below w.heap.size w (w.drew.alloc (.cells Z 28))) := Lib.hid ((Below.refl _ w).drew.alloc (Nat.le_refl _) _)
  have hC0 : (0 : Int) ≤ (C : Int) := Int.natCast_nonneg _
  clear hr hC hZ hzs hi hj0 hj1 hj2 hc2
  go_enter Tryz.func79, Tryz.ntmps79
  go_wp2_with (at_builtin; refine Lib.wpList_append_run _ rfl _ _ _ _ rfl _ _ rfl rfl _ _ HR.out ?_)
  -- MARK1
  go_ret
  exact ⟨_, _, rfl, HOwn.out, HBel.out⟩

/-- A slice of rows of nodes, each with an address. -/
def PrtAt (w : World) (v : Value) (ts : List (List Sx)) : Prop :=
  ∃ g off c, v = .slice (some ⟨g, off, none⟩) ts.length c ∧ g < w.heap.size ∧ ∀ (j : Nat) (t : List Sx), ts[j]? = some t → ∃ gt ot ct, w.cell? ⟨g, off + j, none⟩ = some (.slice (some ⟨gt, ot, none⟩) t.length ct) ∧ gt < w.heap.size ∧ ∀ (k : Nat) (u : Value), (xcs t)[k]? = some u → w.cell? ⟨gt, ot + k, none⟩ = some u
theorem take_flat {ts : List (List Sx)} {k : Nat} {t : List Sx} (h : ts[k]? = some t) : (ts.take (k + 1)).flatten = (ts.take k).flatten ++ t := by
  rw [List.take_add_one, h]; simp
theorem flat_le (ts : List (List Sx)) (k : Nat) : (ts.take k).flatten.length ≤ ts.flatten.length := by
  have := congrArg List.length (List.flatten_append (L₁ := ts.take k) (L₂ := ts.drop k))
  rw [List.take_append_drop, List.length_append] at this
  omega

set_option maxRecDepth 50000 in
set_option maxHeartbeats 3200000 in
theorem concatX_any (v : Value) (ts : List (List Sx)) (w : World) (h : PrtAt w v ts) (h0 : 0 < ts.flatten.length) (hl : ts.flatten.length ≤ 100000) (hm : ts.length ≤ 1000) :
    Calls Tryz.prog 58 #[v] w fun e w' => ∃ g c, e = .returned (.slice (some ⟨g, 0, none⟩) ts.flatten.length c) ∧ w'.ownsRow w.heap.size 28 8 (.slice (some ⟨g, 0, none⟩) ts.flatten.length c) ts.flatten.length (xcs ts.flatten) ∧ Below w.heap.size w w' := by
  obtain ⟨g, off, c, rfl, hg, hc⟩ := h
  have HC := Lib.hid hc
  obtain ⟨m, hmE⟩ : ∃ m, ts.length = m := ⟨_, rfl⟩
  obtain ⟨N, hN⟩ : ∃ N, ts.flatten.length = N := ⟨_, rfl⟩
  have HM := Lib.hid hmE
  have HN := Lib.hid hN
  have HF : Hid (∀ k, (ts.take k).flatten.length ≤ N) := Lib.hid fun k => by rw [← hN]; exact flat_le ts k
  have CG := Lib.hid (fun W => growX_any N W (by omega) (by omega))
  rw [hmE] at hm
  rw [hN] at h0 hl
  rw [hmE, hN]
  clear hc hmE hN
  go_enter Tryz.func58, Tryz.ntmps58
  go_wp2_with fail
  -- MARK2
  go_loop [3, 11] (fun x3 x11 => ∃ k q : Nat, x11 = .int .i64 (k : Int) ∧ k ≤ m ∧ x3 = .int .i64 (q : Int) ∧ Hid ((ts.take k).flatten.length = q)) (fun _ x11 => m - (intOf x11).toNat)
  case atStart => exact ⟨0, 0, rfl, Nat.zero_le _, rfl, Lib.hid (by simp)⟩
  case round =>
    obtain ⟨k, q, rfl, hk, rfl, HQ⟩ := hrel
    have hk0 : (0 : Int) ≤ (k : Int) := Int.natCast_nonneg _
    have hq0 : (0 : Int) ≤ (q : Int) := Int.natCast_nonneg _
    have hqN : q ≤ N := by rw [← HQ.out]; exact HF.out k
    by_cases hlt : k < m
    · obtain ⟨t, ht⟩ : ∃ t, ts[k]? = some t := ⟨_, List.getElem?_eq_getElem (by rw [HM.out]; exact hlt)⟩
      obtain ⟨gt, ot, ct, d0, _, _⟩ := HC.out k t ht
      have hq2 : (ts.take (k + 1)).flatten.length = q + t.length := by rw [take_flat ht, List.length_append, HQ.out]
      obtain ⟨tl, htl⟩ : ∃ tl, t.length = tl := ⟨_, rfl⟩
      rw [htl] at d0 hq2
      have hq3 : q + tl ≤ N := by rw [← hq2]; exact HF.out (k + 1)
      have HQ2 := Lib.hid hq2
      have hk1 : (k : Int) < (m : Int) := by omega
      clear ht hq2 htl
      go_wp2_with fail
      -- MARK3
      go_round
      case rel => exact ⟨k + 1, q + tl, by go_num, by omega, by go_num, HQ2⟩
      case measure => simp [intOf]; omega
    · obtain rfl : k = m := by omega
      have hqe : q = N := by rw [← HQ.out, ← HN.out, List.take_of_length_le (Nat.le_of_eq HM.out)]
      subst hqe
      go_wp2_with fail
      -- MARK4
      refine (CG.out _).mono ?_
      rintro e w1 ⟨g1, c1, rfl, hown, hb1⟩
      have HO1 := Lib.hid hown
      clear hown CG hk hq0 hk0 hqN
      go_wp2_with fail
      -- MARK5
      go_loopw [6, 27] (fun x6 x27 wr => ∃ (j p : Nat) (b : Option Addr) (cb : Nat), x27 = .int .i64 (j : Int) ∧ j ≤ k ∧ x6 = .slice b p cb ∧ (0 = j ∨ True) ∧ Hid ((ts.take j).flatten.length = p) ∧ Hid (wr.ownsRow w.heap.size 28 8 (.slice b p cb) p (xcs (ts.take j).flatten)) ∧ Hid (∃ g, b = some ⟨g, 0, none⟩) ∧ Below w.heap.size w wr) (fun _ x27 _ => k - (intOf x27).toNat)
      case atStart => exact ⟨0, 0, _, _, rfl, Nat.zero_le _, rfl, .inr trivial, Lib.hid (by simp), Lib.hid HO1.out, Lib.hid ⟨_, rfl⟩, hb1⟩
      case round =>
        obtain ⟨j, p, b, cb, rfl, hj, rfl, _, HP, HO, HB, hbr⟩ := hrel
        have hj0 : (0 : Int) ≤ (j : Int) := Int.natCast_nonneg _
        by_cases hlt : j < k
        · obtain ⟨t, ht⟩ : ∃ t, ts[j]? = some t := ⟨_, List.getElem?_eq_getElem (by rw [HM.out]; exact hlt)⟩
          obtain ⟨gt, ot, ct, d0, hgt, hct⟩ := HC.out j t ht
          have d1 := (hbr.cell (p := ⟨g, off + j, none⟩) hg).trans d0
          have HCT : Hid (∀ (i : Nat) (u : Value), (xcs t)[i]? = some u → wr.cell? ((⟨gt, ot, none⟩ : Addr).add i) = some u) := Lib.hid fun i u hi => by
            rw [Go.WideShapes.add_plain]; exact (hbr.cell (p := ⟨gt, ot + i, none⟩) hgt).trans (hct i u hi)
          have HFl := Lib.hid (take_flat ht)
          have hlen := HF.out (j + 1)
          rw [HFl.out, List.length_append, HP.out] at hlen
          obtain ⟨tl, htl⟩ : ∃ tl, t.length = tl := ⟨_, rfl⟩
          have HTL := Lib.hid htl
          rw [htl] at d1 hlen
          have hj1 : (j : Int) < (k : Int) := by omega
          obtain ⟨i0, hi, hz0, hz1, hz2⟩ := info_parts2 zeroSxI
          clear ht d0 hct htl
          go_wp2_with (at_builtin; refine wpList_append_own _ rfl _ _ 22 rfl w.heap.size 28 i0 zeroNx 8 80 Tryz.underlying22 hi hz0 hz1 hz2 rfl (by decide) _ _ _ rfl HO.out ⟨gt, ot, none⟩ tl ct (xcs t) rfl (by rw [xcs_len, HTL.out]) HCT.out (one_xcs t) (by unfold maxLen; omega) (by omega) hbr.size ?_; intro v' w2 hown2 hgrow2 hnil2)
          -- MARK6
          have hO2 : w2.ownsRow w.heap.size 28 8 v' (p + tl) (xcs (ts.take (j + 1)).flatten) := by rw [HFl.out, xcs_app]; exact hown2
          have hb2 : Below w.heap.size w w2 := hbr.grown hgrow2 hbr.size (fun i hi => (HO.out.lt i hi).1)
          obtain ⟨gb, rfl⟩ := HB.out
          rcases own_form hO2 with ⟨hv', _⟩ | ⟨g2, c2, rfl, _, _⟩
          · have := (hnil2.1 hv').1; cases this
          go_roundw
          case rel => exact ⟨j + 1, p + tl, _, _, by go_num, by omega, rfl, .inr trivial, Lib.hid (by rw [HFl.out, List.length_append, HP.out, HTL.out]), Lib.hid hO2, Lib.hid ⟨_, rfl⟩, hb2⟩
          case measure => simp [intOf]; omega
        · obtain rfl : j = k := by omega
          have hfl : (ts.take j).flatten = ts.flatten := by rw [List.take_of_length_le (Nat.le_of_eq HM.out)]
          have hpe : p = q := by rw [← HP.out, hfl, HN.out]
          have HFl := Lib.hid hfl
          subst hpe
          obtain ⟨gb, rfl⟩ := HB.out
          clear hfl
          go_wp2_with fail
          -- MARK7
          go_ret
          exact ⟨gb, cb, rfl, by rw [← HFl.out]; exact HO.out, hbr⟩
end Go.Proofs.YtbmgpenllpbioaaGreatDoor
