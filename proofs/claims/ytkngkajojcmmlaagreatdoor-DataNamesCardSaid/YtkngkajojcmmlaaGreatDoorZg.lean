import Derived.Test.YtkngkajojcmmlaaGreatDoorZf
import Derived.Lib.AppendZeros
import Derived.Deep.RegionHeld3
import Derived.Deep.QuietTactic
import Derived.BigQuiet
/- slices.Grow and slices.Concat of nodes; checkAll, made. -/
namespace Go.Proofs.YtkngkajojcmmlaaGreatDoor
open Go.RowKit Go.PlainAid

def zeroNd : Value := .agg #[.int .i64 0, .int .i64 0, .int .i64 0, .string ⟨#[]⟩]
theorem infoNd : (Tryz.prog.info? 40).map (fun i => (i.zero, i.size, i.bytes)) = some (some zeroNd, 4, 40) := by kernel_rfl

set_option maxRecDepth 50000 in
set_option maxHeartbeats 1600000 in
theorem grow_any (n : Nat) (w : World) (h0 : 0 < n) (hn : n ≤ 1000000) :
    Calls Tryz.prog 68 #[.slice none 0 0, .int .i64 (n : Int)] w fun e w' => ∃ g c, e = .returned (.slice (some ⟨g, 0, none⟩) 0 c) ∧ w'.ownsRow w.heap.size 40 4 (.slice (some ⟨g, 0, none⟩) 0 c) 0 [] ∧ Below w.heap.size w w' := by
  obtain ⟨i0, hi, hj0, hj1, hj2⟩ := info_parts2 infoNd
  have hr := Lib.run_append_nil_zeros (P := Tryz.prog) w 22 3 22 40 i0 zeroNd .i64 .i64 Tryz.underlying22 Tryz.underlying3 hi hj0 n h0 (by rw [hj1]; decide) (by omega) (by rw [hj2]; omega)
  have hc1 := grownCap_ge w n 0 40
  have hc2 := grownCap_le_maxLen w n 0 40 (by unfold maxLen; omega)
  obtain ⟨C, hC⟩ : ∃ C, grownCap w n 0 40 = C := ⟨_, rfl⟩
  rw [hC] at hr hc1 hc2
  have hzs : (Builtin.zeroCells zeroNd.cells n ++ Builtin.zeroCells zeroNd.cells (C - n)).size = C * 4 := by
    rw [Array.size_append, size_zeroCells, size_zeroCells]
    show n * 4 + (C - n) * 4 = C * 4
    omega
  obtain ⟨Z, hZ⟩ : ∃ Z, Builtin.zeroCells zeroNd.cells n ++ Builtin.zeroCells zeroNd.cells (C - n) = Z := ⟨_, rfl⟩
  rw [hZ] at hr hzs
  have HR := Lib.hid hr
  have HOwn : Hid ((w.drew.alloc (.cells Z 40)).ownsRow w.heap.size 40 4 (.slice (some ⟨w.heap.size, 0, none⟩) 0 C) 0 []) := Lib.hid
    ⟨rfl, .inr ⟨w.heap.size, C, Z, rfl, Nat.le_refl _, World.alloc_heap_new w.drew _, Nat.zero_le _, hc2, hzs, by simp⟩⟩
  have HBel : Hid (Below w.heap.size w (w.drew.alloc (.cells Z 40))) := Lib.hid ((Below.refl _ w).drew.alloc (Nat.le_refl _) _)
  have hC0 : (0 : Int) ≤ (C : Int) := Int.natCast_nonneg _
  clear hr hC hZ hzs hi hj0 hj1 hj2 hc2
  go_enter Tryz.func68, Tryz.ntmps68
  go_wp2_with (at_builtin; refine Lib.wpList_append_run _ rfl _ _ _ _ rfl _ _ rfl rfl _ _ HR.out ?_)
  -- MARK1
  go_ret
  exact ⟨_, _, rfl, HOwn.out, HBel.out⟩

/-- A slice of rows of nodes, each with an address. -/
def PartsAt (w : World) (v : Value) (ts : List (List Nd)) : Prop :=
  ∃ g off c, v = .slice (some ⟨g, off, none⟩) ts.length c ∧ g < w.heap.size ∧ ∀ (j : Nat) (t : List Nd), ts[j]? = some t → ∃ gt ot ct, w.cell? ⟨g, off + j, none⟩ = some (.slice (some ⟨gt, ot, none⟩) t.length ct) ∧ gt < w.heap.size ∧ ∀ (k : Nat) (u : Value), (dcs t)[k]? = some u → w.cell? ⟨gt, ot + k, none⟩ = some u
theorem one_dcs (l : List Nd) : ∀ u ∈ dcs l, u.oneCell' = true := by
  intro u hu
  unfold dcs at hu
  rw [List.mem_flatMap] at hu
  obtain ⟨x, _, hx⟩ := hu
  simp only [ndC, List.mem_cons, List.not_mem_nil, or_false] at hx
  rcases hx with rfl | rfl | rfl | rfl <;> rfl
theorem take_flat {ts : List (List Nd)} {k : Nat} {t : List Nd} (h : ts[k]? = some t) : (ts.take (k + 1)).flatten = (ts.take k).flatten ++ t := by
  rw [List.take_add_one, h]; simp
theorem flat_le (ts : List (List Nd)) (k : Nat) : (ts.take k).flatten.length ≤ ts.flatten.length := by
  have := congrArg List.length (List.flatten_append (L₁ := ts.take k) (L₂ := ts.drop k))
  rw [List.take_append_drop, List.length_append] at this
  omega

set_option maxRecDepth 50000 in
set_option maxHeartbeats 3200000 in
theorem concat_any (v : Value) (ts : List (List Nd)) (w : World) (h : PartsAt w v ts) (h0 : 0 < ts.flatten.length) (hl : ts.flatten.length ≤ 100000) (hm : ts.length ≤ 1000) :
    Calls Tryz.prog 43 #[v] w fun e w' => ∃ g c, e = .returned (.slice (some ⟨g, 0, none⟩) ts.flatten.length c) ∧ w'.ownsRow w.heap.size 40 4 (.slice (some ⟨g, 0, none⟩) ts.flatten.length c) ts.flatten.length (dcs ts.flatten) ∧ Below w.heap.size w w' := by
  obtain ⟨g, off, c, rfl, hg, hc⟩ := h
  have HC := Lib.hid hc
  obtain ⟨m, hmE⟩ : ∃ m, ts.length = m := ⟨_, rfl⟩
  obtain ⟨N, hN⟩ : ∃ N, ts.flatten.length = N := ⟨_, rfl⟩
  have HM := Lib.hid hmE
  have HN := Lib.hid hN
  have HF : Hid (∀ k, (ts.take k).flatten.length ≤ N) := Lib.hid fun k => by rw [← hN]; exact flat_le ts k
  have CG := Lib.hid (fun W => grow_any N W (by omega) (by omega))
  rw [hmE] at hm
  rw [hN] at h0 hl
  rw [hmE, hN]
  clear hc hmE hN
  go_enter Tryz.func43, Tryz.ntmps43
  go_wp2_with fail
  -- MARK2
  go_loop [3, 11] (fun x3 x11 => ∃ k q : Nat, x11 = .int .i64 (k : Int) ∧ k ≤ m ∧ x3 = .int .i64 (q : Int) ∧ Hid ((ts.take k).flatten.length = q)) (fun _ x11 => m - (intOf x11).toNat)
  case atStart => exact ⟨0, 0, rfl, Nat.zero_le _, rfl, Lib.hid (by simp)⟩
  case round =>
    obtain ⟨k, q, rfl, hk, rfl, HQ⟩ := hrel
    have hk0 : (0 : Int) ≤ (k : Int) := Int.natCast_nonneg _
    have hq0 : (0 : Int) ≤ (q : Int) := Int.natCast_nonneg _
    have hqN : q ≤ N := by rw [← HQ.out]; exact HF.out k
    by_cases hlt : k < m
    · obtain ⟨t, ht⟩ : ∃ t, ts[k]? = some t := ⟨_, List.getElem?_eq_getElem (by rw [HM.out]; exact hlt)⟩
      obtain ⟨gt, ot, ct, d0, _, _⟩ := HC.out k t ht
      have hq2 : (ts.take (k + 1)).flatten.length = q + t.length := by rw [take_flat ht, List.length_append, HQ.out]
      obtain ⟨tl, htl⟩ : ∃ tl, t.length = tl := ⟨_, rfl⟩
      rw [htl] at d0 hq2
      have hq3 : q + tl ≤ N := by rw [← hq2]; exact HF.out (k + 1)
      have HQ2 := Lib.hid hq2
      have hk1 : (k : Int) < (m : Int) := by omega
      clear ht hq2 htl
      go_wp2_with fail
      -- MARK3
      go_round
      case rel => exact ⟨k + 1, q + tl, by go_num, by omega, by go_num, HQ2⟩
      case measure => simp [intOf]; omega
    · obtain rfl : k = m := by omega
      have hqe : q = N := by rw [← HQ.out, ← HN.out, List.take_of_length_le (Nat.le_of_eq HM.out)]
      subst hqe
      go_wp2_with fail
      -- MARK4
      refine (CG.out _).mono ?_
      rintro e w1 ⟨g1, c1, rfl, hown, hb1⟩
      have HO1 := Lib.hid hown
      clear hown CG hk hq0 hk0 hqN
      go_wp2_with fail
      -- MARK5
      go_loopw [6, 27] (fun x6 x27 wr => ∃ (j p : Nat) (b : Option Addr) (cb : Nat), x27 = .int .i64 (j : Int) ∧ j ≤ k ∧ x6 = .slice b p cb ∧ (0 = j ∨ True) ∧ Hid ((ts.take j).flatten.length = p) ∧ Hid (wr.ownsRow w.heap.size 40 4 (.slice b p cb) p (dcs (ts.take j).flatten)) ∧ Hid (∃ g, b = some ⟨g, 0, none⟩) ∧ Below w.heap.size w wr) (fun _ x27 _ => k - (intOf x27).toNat)
      case atStart => exact ⟨0, 0, _, _, rfl, Nat.zero_le _, rfl, .inr trivial, Lib.hid (by simp), Lib.hid HO1.out, Lib.hid ⟨_, rfl⟩, hb1⟩
      case round =>
        obtain ⟨j, p, b, cb, rfl, hj, rfl, _, HP, HO, HB, hbr⟩ := hrel
        have hj0 : (0 : Int) ≤ (j : Int) := Int.natCast_nonneg _
        by_cases hlt : j < k
        · obtain ⟨t, ht⟩ : ∃ t, ts[j]? = some t := ⟨_, List.getElem?_eq_getElem (by rw [HM.out]; exact hlt)⟩
          obtain ⟨gt, ot, ct, d0, hgt, hct⟩ := HC.out j t ht
          have d1 := (hbr.cell (p := ⟨g, off + j, none⟩) hg).trans d0
          have HCT : Hid (∀ (i : Nat) (u : Value), (dcs t)[i]? = some u → wr.cell? ((⟨gt, ot, none⟩ : Addr).add i) = some u) := Lib.hid fun i u hi => by
            rw [Go.WideShapes.add_plain]; exact (hbr.cell (p := ⟨gt, ot + i, none⟩) hgt).trans (hct i u hi)
          have HFl := Lib.hid (take_flat ht)
          have hlen := HF.out (j + 1)
          rw [HFl.out, List.length_append, HP.out] at hlen
          obtain ⟨tl, htl⟩ : ∃ tl, t.length = tl := ⟨_, rfl⟩
          have HTL := Lib.hid htl
          rw [htl] at d1 hlen
          have hj1 : (j : Int) < (k : Int) := by omega
          obtain ⟨i0, hi, hz0, hz1, hz2⟩ := info_parts2 infoNd
          clear ht d0 hct htl
          go_wp2_with (at_builtin; refine wpList_append_own _ rfl _ _ 22 rfl w.heap.size 40 i0 zeroNd 4 40 Tryz.underlying22 hi hz0 hz1 hz2 rfl (by decide) _ _ _ rfl HO.out ⟨gt, ot, none⟩ tl ct (dcs t) rfl (by rw [dcs_len, HTL.out]) HCT.out (one_dcs t) (by unfold maxLen; omega) (by omega) hbr.size ?_; intro v' w2 hown2 hgrow2 hnil2)
          -- MARK6
          have hO2 : w2.ownsRow w.heap.size 40 4 v' (p + tl) (dcs (ts.take (j + 1)).flatten) := by rw [HFl.out, dcs_app]; exact hown2
          have hb2 : Below w.heap.size w w2 := hbr.grown hgrow2 hbr.size (fun i hi => (HO.out.lt i hi).1)
          obtain ⟨gb, rfl⟩ := HB.out
          rcases own_form hO2 with ⟨hv', _⟩ | ⟨g2, c2, rfl, _, _⟩
          · have := (hnil2.1 hv').1; cases this
          go_roundw
          case rel => exact ⟨j + 1, p + tl, _, _, by go_num, by omega, rfl, .inr trivial, Lib.hid (by rw [HFl.out, List.length_append, HP.out, HTL.out]), Lib.hid hO2, Lib.hid ⟨_, rfl⟩, hb2⟩
          case measure => simp [intOf]; omega
        · obtain rfl : j = k := by omega
          have hfl : (ts.take j).flatten = ts.flatten := by rw [List.take_of_length_le (Nat.le_of_eq HM.out)]
          have hpe : p = q := by rw [← HP.out, hfl, HN.out]
          have HFl := Lib.hid hfl
          subst hpe
          obtain ⟨gb, rfl⟩ := HB.out
          clear hfl
          go_wp2_with fail
          -- MARK7
          go_ret
          exact ⟨gb, cb, rfl, by rw [← HFl.out]; exact HO.out, hbr⟩
end Go.Proofs.YtkngkajojcmmlaaGreatDoor

/- checkAll, made; Put. -/
namespace Go.Proofs.YtkngkajojcmmlaaGreatDoor
open Go.RowKit Go.PlainAid

/-- A slice of rows of nodes. -/
def RowsAt (w : World) (v : Value) (ts : List (List Nd)) : Prop :=
  ∃ a c, v = .slice a ts.length c ∧ (ts = [] ∨ ∃ g off, a = some ⟨g, off, none⟩ ∧ g < w.heap.size ∧ ∀ (j : Nat) (t : List Nd), ts[j]? = some t → ∃ vt, w.cell? ⟨g, off + j, none⟩ = some vt ∧ NdsAt w vt t)
/-- The error of the first that is no datum. -/
def chkAllS (sy : List UInt8 → Bool) : List (List Nd) → Int
  | [] => 0
  | t :: r => if (chkT sy t).2 ≠ 0 then (chkT sy t).2 else chkAllS sy r
theorem chkAll_step {sy : List UInt8 → Bool} {ts : List (List Nd)} {k : Nat} {t : List Nd} (h : ts[k]? = some t) : chkAllS sy (ts.drop k) = if (chkT sy t).2 ≠ 0 then (chkT sy t).2 else chkAllS sy (ts.drop (k + 1)) := by
  obtain ⟨hk, rfl⟩ := List.getElem?_eq_some_iff.1 h
  rw [List.drop_eq_getElem_cons hk, chkAllS]

set_option maxRecDepth 50000 in
set_option maxHeartbeats 3200000 in
theorem checkAll_any (sy : List UInt8 → Bool) (v : Value) (ts : List (List Nd)) (w : World) (h : RowsAt w v ts) (HS : Hid (SymAll 22 sy w)) (KB : Hid (∀ t ∈ ts, KidsB t)) (hl : ts.length ≤ 1000000) :
    Calls Tryz.prog 27 #[v] w fun e w' => e = .returned (.int .i64 (chkAllS sy ts)) ∧ Below w.heap.size w w' := by
  obtain ⟨a, c, rfl, hA⟩ := h
  have HA := Lib.hid hA
  obtain ⟨m, hm⟩ : ∃ m, ts.length = m := ⟨_, rfl⟩
  have HM := Lib.hid hm
  rw [hm] at hl
  rw [hm]
  clear hA hm
  go_enter Tryz.func27, Tryz.ntmps27
  go_wp2_with fail
  -- MARK1
  go_loopw [9] (fun x wr => ∃ k : Nat, x = .int .i64 (k : Int) ∧ k ≤ m ∧ Hid (chkAllS sy (ts.drop k) = chkAllS sy ts) ∧ Below w.heap.size w wr) (fun x _ => m - (intOf x).toNat)
  case atStart => exact ⟨0, rfl, Nat.zero_le _, Lib.hid (by rw [List.drop_zero]), Below.refl _ _⟩
  case round =>
    obtain ⟨k, rfl, hk, HE, hb⟩ := hrel
    by_cases hlt : k < m
    · obtain ⟨t, ht⟩ : ∃ t, ts[k]? = some t := ⟨_, List.getElem?_eq_getElem (by rw [HM.out]; exact hlt)⟩
      rcases HA.out with hnil | ⟨g, off, rfl, hg, hc⟩
      · rw [hnil] at ht; cases ht
      obtain ⟨vt, d0, hN⟩ := hc k t ht
      have d1 := (hb.cell (p := ⟨g, off + k, none⟩) hg).trans d0
      have C := Lib.hid (Check_any sy vt t wr (hN.below hb (Nat.le_refl _)) (Lib.hid (HS.out.below hb)) (Lib.hid (KB.out t (List.mem_of_getElem? ht))))
      unfold chkTV at C
      obtain ⟨i, e, hie⟩ : ∃ i e, chkT sy t = (i, e) := ⟨_, _, rfl⟩
      have hst := chkAll_step (sy := sy) ht
      rw [hie] at C hst
      have HSt := Lib.hid hst
      obtain ⟨va, vc, rfl⟩ := hN.slice
      have hk0 : (0 : Int) ≤ (k : Int) := Int.natCast_nonneg _
      have hk1 : (k : Int) < (m : Int) := by omega
      clear ht d0 hN hie hc hst
      by_cases he : e = 0
      · subst he
        have HE2 : Hid (chkAllS sy (ts.drop (k + 1)) = chkAllS sy ts) := Lib.hid (by rw [← HE.out, HSt.out, if_neg (by simp)])
        go_wp2_with fail
        refine C.out.mono ?_
        rintro e' w2 ⟨rfl, hb2⟩
        go_wp2_with fail
        -- MARK2
        go_roundw
        case rel => exact ⟨k + 1, by go_num, by omega, HE2, hb.trans (hb2.mono hb.size)⟩
        case measure => simp [intOf]; omega
      · have HF : Hid (chkAllS sy ts = e) := Lib.hid (by rw [← HE.out, HSt.out, if_pos he])
        have hne : (e != 0) = true := bne_iff_ne.2 he
        clear he
        go_wp2_with fail
        refine C.out.mono ?_
        rintro e' w2 ⟨rfl, hb2⟩
        go_wp2_with fail
        -- MARK3
        go_ret
        exact ⟨ret_int (by rw [HF.out]), hb.trans (hb2.mono hb.size)⟩
    · obtain rfl : k = m := by omega
      have HF : Hid (chkAllS sy ts = 0) := Lib.hid (by rw [← HE.out, List.drop_of_length_le (Nat.le_of_eq HM.out)]; rfl)
      go_wp2_with fail
      go_ret
      exact ⟨ret_int (by rw [HF.out]), hb⟩

/-- What made returns of a row. -/
def madeV (sy : List UInt8 → Bool) (v : Value) (t : List Nd) : Value := .tuple #[if (chkT sy t).2 = 0 then v else .slice none 0 0, .int .i64 (chkT sy t).2]
set_option maxRecDepth 50000 in
set_option maxHeartbeats 1600000 in
theorem made_any (sy : List UInt8 → Bool) (v : Value) (t : List Nd) (w : World) (h : NdsAt w v t) (HS : Hid (SymAll 22 sy w)) (KB : Hid (KidsB t)) :
    Calls Tryz.prog 42 #[v] w fun e w' => e = .returned (madeV sy v t) ∧ Below w.heap.size w w' := by
  have C := Lib.hid (Check_any sy v t w h HS KB)
  unfold chkTV at C
  obtain ⟨i, e, hie⟩ : ∃ i e, chkT sy t = (i, e) := ⟨_, _, rfl⟩
  rw [hie] at C
  obtain ⟨a, c, rfl⟩ := h.slice
  by_cases he : e = 0
  · subst he
    have HV : Hid (madeV sy (.slice a t.length c) t = .tuple #[.slice a t.length c, .int .i64 0]) := Lib.hid (by unfold madeV; rw [hie]; rfl)
    clear h hie
    go_enter Tryz.func42, Tryz.ntmps42
    go_wp2_with fail
    refine C.out.mono ?_
    rintro e' w2 ⟨rfl, hb2⟩
    go_wp2_with fail
    go_ret2
    exact ⟨(congrArg Ending.returned HV.out).symm, hb2⟩
  · have HV : Hid (madeV sy (.slice a t.length c) t = .tuple #[.slice none 0 0, .int .i64 e]) := Lib.hid (by unfold madeV; rw [hie, if_neg he])
    have hne : (e != 0) = true := bne_iff_ne.2 he
    clear h hie he
    go_enter Tryz.func42, Tryz.ntmps42
    go_wp2_with fail
    refine C.out.mono ?_
    rintro e' w2 ⟨rfl, hb2⟩
    go_wp2_with fail
    go_ret2
    exact ⟨(congrArg Ending.returned HV.out).symm, hb2⟩

/-- A slice is not longer than its capacity. -/
def capOk (v : Value) : Prop := ∀ a n c, v = .slice a n c → n ≤ c
/-- What Put returns. -/
def putE (sy : List UInt8 → Bool) (t : List Nd) (i : Int) (s : List Nd) : Int := if (chkT sy t).2 ≠ 0 then (chkT sy t).2 else if (chkT sy s).2 ≠ 0 then (chkT sy s).2 else if atE sy t i ≠ 0 then atE sy t i else (chkT sy (putS t i.toNat s)).2
def PutV (sy : List UInt8 → Bool) (t : List Nd) (i : Int) (s : List Nd) (w : World) (e : Ending) (w' : World) : Prop :=
  ∃ v, e = .returned (.tuple #[v, .int .i64 (putE sy t i s)]) ∧ (putE sy t i s ≠ 0 → v = .slice none 0 0) ∧ (putE sy t i s = 0 → NdsAt w' v (putS t i.toNat s) ∧ capOk v) ∧ Below w.heap.size w w'
end Go.Proofs.YtkngkajojcmmlaaGreatDoor

/- Put. -/
namespace Go.Proofs.YtkngkajojcmmlaaGreatDoor
open Go.RowKit Go.PlainAid

theorem dcs_take (l : List Nd) : ∀ i, dcs (l.take i) = (dcs l).take (i * 4) := by
  induction l with
  | nil => intro i; simp [dcs]
  | cons x l ih =>
    intro i
    cases i with
    | zero => simp [dcs]
    | succ i => rw [List.take_succ_cons, dcs_cons, dcs_cons, ih, show (i + 1) * 4 = i * 4 + 1 + 1 + 1 + 1 by omega]; rfl
theorem dcs_drop (l : List Nd) : ∀ i, dcs (l.drop i) = (dcs l).drop (i * 4) := by
  induction l with
  | nil => intro i; simp [dcs]
  | cons x l ih =>
    intro i
    cases i with
    | zero => simp
    | succ i => rw [List.drop_succ_cons, dcs_cons, ih, show (i + 1) * 4 = i * 4 + 1 + 1 + 1 + 1 by omega]; rfl
theorem parts3 (gt ot ct n i q gs os cs g3 o3 c3 : Nat) (t s : List Nd) (W : World) (T : TypeId) (hn : t.length = n) (hi : i ≤ n) (ht : gt < W.heap.size) (hs : gs < W.heap.size) (sl : Nat) (hsl : s.length = sl)
    (h3 : q = n ∨ g3 = gt ∧ o3 = ot + q * 4) (h3' : g3 < W.heap.size)
    (hct : ∀ j u, (dcs t)[j]? = some u → W.cell? ⟨gt, ot + j, none⟩ = some u) (hcs : ∀ j u, (dcs s)[j]? = some u → W.cell? ⟨gs, os + j, none⟩ = some u) :
    PartsAt (W.alloc (.cells #[.slice (some ⟨gt, ot, none⟩) i ct, .slice (some ⟨gs, os, none⟩) sl cs, .slice (some ⟨g3, o3, none⟩) (n - q) c3] T)) (.slice (some ⟨W.heap.size, 0, none⟩) 3 3) [t.take i, s, t.drop q] := by
  subst hsl
  have hnew := new_cells W [.slice (some ⟨gt, ot, none⟩) i ct, .slice (some ⟨gs, os, none⟩) s.length cs, .slice (some ⟨g3, o3, none⟩) (n - q) c3] T
  refine ⟨W.heap.size, 0, 3, rfl, by rw [World.size_alloc]; omega, fun j x hj => ?_⟩
  have hj3 : j < 3 := by have := (List.getElem?_eq_some_iff.1 hj).1; simpa using this
  have hcell : ∀ u, [(Value.slice (some ⟨gt, ot, none⟩) i ct), .slice (some ⟨gs, os, none⟩) s.length cs, .slice (some ⟨g3, o3, none⟩) (n - q) c3][j]? = some u → (W.alloc (.cells #[.slice (some ⟨gt, ot, none⟩) i ct, .slice (some ⟨gs, os, none⟩) s.length cs, .slice (some ⟨g3, o3, none⟩) (n - q) c3] T)).cell? ⟨W.heap.size, 0 + j, none⟩ = some u := fun u hu => by
    have := hnew j u hu
    rw [Go.WideShapes.add_plain] at this; exact this
  match j, hj3 with
  | 0, _ =>
    obtain rfl : t.take i = x := by simpa using hj
    refine ⟨gt, ot, ct, ?_, by rw [World.size_alloc]; omega, fun k u hk => ?_⟩
    · rw [List.length_take, hn, Nat.min_eq_left hi]; exact hcell _ rfl
    · rw [World.cell?_alloc_lt _ _ _ ht]
      rw [dcs_take, List.getElem?_take] at hk
      split at hk
      · exact hct k u hk
      · cases hk
  | 1, _ =>
    obtain rfl : s = x := by simpa using hj
    exact ⟨gs, os, cs, hcell _ rfl, by rw [World.size_alloc]; omega, fun k u hk => by rw [World.cell?_alloc_lt _ _ _ hs]; exact hcs k u hk⟩
  | 2, _ =>
    obtain rfl : t.drop q = x := by simpa using hj
    refine ⟨g3, o3, c3, ?_, by rw [World.size_alloc]; omega, fun k u hk => ?_⟩
    · rw [List.length_drop, hn]; exact hcell _ rfl
    · rcases h3 with h3 | ⟨rfl, rfl⟩
      · rw [List.drop_of_length_le (by omega)] at hk; cases hk
      · rw [World.cell?_alloc_lt _ _ _ ht, Nat.add_assoc]
        rw [dcs_drop, List.getElem?_drop] at hk
        exact hct _ u hk
theorem rows2 (v1 v2 : Value) (t s : List Nd) (W : World) (T : TypeId) (h1 : NdsAt W v1 t) (h2 : NdsAt W v2 s) : RowsAt (W.alloc (.cells #[v1, v2] T)) (.slice (some ⟨W.heap.size, 0, none⟩) 2 2) [t, s] := by
  have hnew := new_cells W [v1, v2] T
  refine ⟨_, 2, rfl, .inr ⟨W.heap.size, 0, rfl, by rw [World.size_alloc]; omega, fun j x hj => ?_⟩⟩
  have hj2 : j < 2 := by have := (List.getElem?_eq_some_iff.1 hj).1; simpa using this
  have hcell : ∀ u, [v1, v2][j]? = some u → (W.alloc (.cells #[v1, v2] T)).cell? ⟨W.heap.size, 0 + j, none⟩ = some u := fun u hu => by
    have := hnew j u hu
    rw [Go.WideShapes.add_plain] at this; exact this
  have hb := below_b1 W (.cells #[v1, v2] T)
  match j, hj2 with
  | 0, _ => obtain rfl : t = x := by simpa using hj
            exact ⟨v1, hcell _ rfl, h1.below hb (Nat.le_refl _)⟩
  | 1, _ => obtain rfl : s = x := by simpa using hj
            exact ⟨v2, hcell _ rfl, h2.below hb (Nat.le_refl _)⟩
theorem chkAll2_bad {sy : List UInt8 → Bool} {t s : List Nd} {i : Int} (h : chkAllS sy [t, s] ≠ 0) : putE sy t i s = chkAllS sy [t, s] := by
  unfold putE
  simp only [chkAllS] at h ⊢
  split
  · rfl
  · rename_i h1
    rw [if_neg h1] at h
    split
    · rfl
    · rename_i h2; rw [if_neg h2] at h; exact absurd rfl h
theorem chkAll2_ok {sy : List UInt8 → Bool} {t s : List Nd} (h : chkAllS sy [t, s] = 0) : (chkT sy t).2 = 0 ∧ (chkT sy s).2 = 0 := by
  simp only [chkAllS] at h
  split at h
  · rename_i h1; exact absurd h h1
  · rename_i h1
    split at h
    · rename_i h2; exact absurd h h2
    · rename_i h2; exact ⟨Decidable.not_not.1 h1, Decidable.not_not.1 h2⟩
theorem putE_ok {sy : List UInt8 → Bool} {t s : List Nd} {i : Int} (h : chkAllS sy [t, s] = 0) : putE sy t i s = if atE sy t i ≠ 0 then atE sy t i else (chkT sy (putS t i.toNat s)).2 := by
  obtain ⟨h1, h2⟩ := chkAll2_ok h
  unfold putE
  rw [if_neg (by rw [h1]; simp), if_neg (by rw [h2]; simp)]

set_option maxRecDepth 50000 in
set_option maxHeartbeats 3200000 in
theorem put_bad (sy : List UInt8 → Bool) (v vs : Value) (t s : List Nd) (i : Int) (w : World) (h : NdsAt w v t) (hs : NdsAt w vs s) (HS : Hid (SymAll 22 sy w)) (KB : Hid (∀ x ∈ [t, s], KidsB x)) (hq : chkAllS sy [t, s] ≠ 0 ∨ atE sy t i ≠ 0) :
    Calls Tryz.prog 19 #[v, .int .i64 i, vs] w (PutV sy t i s w) := by
  have C1 := Lib.hid (checkAll_any sy _ [t, s] _ (rows2 v vs t s w 22 h hs) (Lib.hid (HS.out.below (below_b1 w _))) KB (by simp))
  obtain ⟨ec, hec⟩ : ∃ ec, chkAllS sy [t, s] = ec := ⟨_, rfl⟩
  by_cases hc : ec = 0
  · have ha : atE sy t i ≠ 0 := hq.resolve_left (fun h => h (hec.trans hc))
    have HV : Hid (putE sy t i s = atE sy t i) := Lib.hid (by rw [putE_ok (hec.trans hc), if_pos ha])
    have hne : (atE sy t i != 0) = true := bne_iff_ne.2 ha
    have HA := Lib.hid ha
    have HKt := Lib.hid (KB.out t (by simp))
    have C2 := Lib.hid (fun W (hW : Below w.heap.size w W) => treeWith_any sy v t i W (h.below hW (Nat.le_refl _)) (Lib.hid (HS.out.below hW)) HKt)
    rw [hec] at C1
    obtain ⟨a1, c1, rfl⟩ := h.slice
    obtain ⟨a2, c2, rfl⟩ := hs.slice
    subst hc
    clear h hs HS KB hq hec ha
    go_enter Tryz.func19, Tryz.ntmps19
    go_wp2_with fail
    refine C1.out.mono ?_
    rintro e' w2 ⟨rfl, hb2⟩
    have hB2 := (below_b1 w (.cells #[.slice a1 t.length c1, .slice a2 s.length c2] 22)).trans (hb2.mono (by rw [World.size_alloc]; omega))
    go_wp2_with fail
    refine (C2.out w2 hB2).mono ?_
    rintro e' w3 ⟨hbad, _, hb3⟩
    obtain rfl := hbad HA.out
    unfold zeroTree
    clear hbad
    go_wp2_with fail
    -- MARK1
    go_ret2
    exact ⟨_, by rw [HV.out]; rfl, fun _ => rfl, fun h => (by rw [HV.out] at h; exact absurd h HA.out), (hB2.trans (hb3.mono hB2.size)).alloc (by have := hB2.size; have := hb3.size; omega) _⟩
  · have HV : Hid (putE sy t i s = ec) := Lib.hid (by rw [← hec]; exact chkAll2_bad (by rw [hec]; exact hc))
    have hne : (ec != 0) = true := bne_iff_ne.2 hc
    have HC := Lib.hid hc
    rw [hec] at C1
    obtain ⟨a1, c1, rfl⟩ := h.slice
    obtain ⟨a2, c2, rfl⟩ := hs.slice
    clear h hs HS KB hq hec hc
    go_enter Tryz.func19, Tryz.ntmps19
    go_wp2_with fail
    refine C1.out.mono ?_
    rintro e' w2 ⟨rfl, hb2⟩
    have hB2 := (below_b1 w (.cells #[.slice a1 t.length c1, .slice a2 s.length c2] 22)).trans (hb2.mono (by rw [World.size_alloc]; omega))
    go_wp2_with fail
    -- MARK2
    go_ret2
    exact ⟨_, by rw [HV.out]; rfl, fun _ => rfl, fun h => (by rw [HV.out] at h; exact absurd h HC.out), hB2⟩
theorem kidsB_put {t s : List Nd} {i : Nat} (ht : KidsB t) (hs : KidsB s) : KidsB (putS t i s) := by
  intro x hx
  unfold putS at hx
  rcases List.mem_append.1 hx with h | h
  · exact ht x (List.mem_of_mem_take h)
  · rcases List.mem_append.1 h with h | h
    · exact hs x h
    · exact ht x (List.mem_of_mem_drop h)
theorem putS_flat (t s : List Nd) (i : Nat) : [t.take i, s, t.drop (endN (kidsL t) i)].flatten = putS t i s := by unfold putS; simp

set_option maxRecDepth 50000 in
set_option maxHeartbeats 3200000 in
theorem put_in (sy : List UInt8 → Bool) (v vs : Value) (t s : List Nd) (i : Nat) (w : World) (h : NdsAt w v t) (hs : NdsAt w vs s) (HS : Hid (SymAll 22 sy w)) (KB : Hid (∀ x ∈ [t, s], KidsB x)) (hc0 : chkAllS sy [t, s] = 0) (ha0 : atE sy t (i : Int) = 0) (hcv : capOk v) :
    Calls Tryz.prog 19 #[v, .int .i64 (i : Int), vs] w (PutV sy t (i : Int) s w) := by
  obtain ⟨hct, hcs⟩ := chkAll2_ok hc0
  obtain ⟨t1, t2, t3, _, _⟩ := chkT_ok hct
  obtain ⟨s1, s2, s3, _, _⟩ := chkT_ok hcs
  obtain ⟨_, hi0, hi1⟩ := atE_0 ha0
  have C1 := Lib.hid (checkAll_any sy _ [t, s] _ (rows2 v vs t s w 22 h hs) (Lib.hid (HS.out.below (below_b1 w _))) KB (by simp))
  rw [hc0] at C1
  have HKt := Lib.hid (KB.out t (by simp))
  have HKp : Hid (KidsB (putS t i s)) := Lib.hid (kidsB_put (KB.out t (by simp)) (KB.out s (by simp)))
  have C2 := Lib.hid (fun W (hW : Below w.heap.size w W) => treeWith_any sy v t (i : Int) W (h.below hW (Nat.le_refl _)) (Lib.hid (HS.out.below hW)) HKt)
  have HV : Hid (putE sy t (i : Int) s = (chkT sy (putS t i s)).2) := Lib.hid (by rw [putE_ok hc0, if_neg (by rw [ha0]; simp), Int.toNat_natCast])
  have HA := Lib.hid ha0
  rcases h with ⟨_, _, rfl, rfl⟩ | ⟨gt, ot, ct, rfl, hgt, hcellt⟩
  · exact absurd rfl t2
  rcases hs with ⟨_, _, rfl, rfl⟩ | ⟨gs, os, cs, rfl, hgs, hcells⟩
  · exact absurd rfl s2
  obtain ⟨n, hn⟩ : ∃ n, t.length = n := ⟨_, rfl⟩
  obtain ⟨sl, hsl⟩ : ∃ sl, s.length = sl := ⟨_, rfl⟩
  have hkl : (kidsL t).length = n := by rw [kidsL_len, hn]
  have hin : i < n := by omega
  obtain ⟨e1, e2⟩ := t1.end_bd (p := i) (by omega)
  obtain ⟨q, hq⟩ : ∃ q, endN (kidsL t) i = q := ⟨_, rfl⟩
  have hEnd : (endsL (kidsL t))[i]? = some q := by rw [← hq]; exact endsL_at (by omega)
  have hlen : (putS t i s).length = i + (sl + (n - q)) := by unfold putS; rw [hq, List.length_append, List.length_append, List.length_take, List.length_drop, hn, hsl, Nat.min_eq_left (by omega)]
  have hflat := putS_flat t s i
  rw [hq, hkl] at e2
  rw [hq] at e1 hflat
  obtain ⟨L, hL⟩ : ∃ L, i + (sl + (n - q)) = L := ⟨_, rfl⟩
  rw [hL] at hlen
  have C3 : Hid (∀ (W : World) (B g3 o3 c3 c1 l3 : Nat), W.heap.size = B → l3 = n - q → Below w.heap.size w W → (q = n ∨ g3 = gt ∧ o3 = ot + q * 4) → g3 < W.heap.size → Calls Tryz.prog 43 #[.slice (some ⟨B, 0, none⟩) 3 3] (W.alloc (.cells #[.slice (some ⟨gt, ot, none⟩) i c1, .slice (some ⟨gs, os, none⟩) sl cs, .slice (some ⟨g3, o3, none⟩) l3 c3] 22)).drew
      fun e w' => ∃ g c, e = .returned (.slice (some ⟨g, 0, none⟩) L c) ∧ w'.ownsRow W.heap.size 40 4 (.slice (some ⟨g, 0, none⟩) L c) L (dcs (putS t i s)) ∧ Below W.heap.size W w') := Lib.hid fun W B g3 o3 c3 c1 l3 hB hl3 hW h3 h3' => by
    subst hB hl3
    have hp := parts3 gt ot c1 n i q gs os cs g3 o3 c3 t s W 22 hn (by omega) (Nat.lt_of_lt_of_le hgt hW.size) (Nat.lt_of_lt_of_le hgs hW.size) sl hsl h3 h3'
      (fun j u hj => (hW.cell (p := ⟨gt, ot + j, none⟩) hgt).trans (hcellt j u hj)) (fun j u hj => (hW.cell (p := ⟨gs, os + j, none⟩) hgs).trans (hcells j u hj))
    have hs0 := List.length_pos_iff.2 s2
    have hp' : PartsAt (W.alloc (.cells #[.slice (some ⟨gt, ot, none⟩) i c1, .slice (some ⟨gs, os, none⟩) sl cs, .slice (some ⟨g3, o3, none⟩) (n - q) c3] 22)).drew (.slice (some ⟨W.heap.size, 0, none⟩) 3 3) [t.take i, s, t.drop q] := hp
    refine (concat_any _ _ _ hp' (by rw [hflat, hlen]; omega) (by rw [hflat, hlen]; omega) (by simp)).mono ?_
    rintro e w' ⟨g, c, rfl, ho, hb⟩
    rw [hflat, hlen] at ho ⊢
    exact ⟨g, c, rfl, own_mono ho (by show W.heap.size ≤ (W.alloc _).heap.size; rw [World.size_alloc]; omega), (below_b1 W _).drew.trans (hb.mono (by show W.heap.size ≤ (W.alloc _).heap.size; rw [World.size_alloc]; omega))⟩
  have C4 : Hid (∀ (W : World) (g c B : Nat), Below w.heap.size w W → W.ownsRow B 40 4 (.slice (some ⟨g, 0, none⟩) L c) L (dcs (putS t i s)) → NdsAt W (.slice (some ⟨g, 0, none⟩) L c) (putS t i s) ∧ capOk (.slice (some ⟨g, 0, none⟩) L c) ∧ Calls Tryz.prog 42 #[.slice (some ⟨g, 0, none⟩) L c] W fun e w' => e = .returned (madeV sy (.slice (some ⟨g, 0, none⟩) L c) (putS t i s)) ∧ Below W.heap.size W w') := Lib.hid fun W g c B hW ho => by
    have hN : NdsAt W (.slice (some ⟨g, 0, none⟩) L c) (putS t i s) := by
      refine .inr ⟨g, 0, c, by rw [hlen], ?_, fun j u hj => ?_⟩
      · rcases own_form ho with ⟨hv, _⟩ | ⟨g', c', hv, _, hg'⟩
        · cases hv
        · cases hv; exact hg'
      · have := ho.cells (g := g) rfl j u hj
        rw [Go.WideShapes.add_plain] at this; exact this
    exact ⟨hN, (fun _ _ _ e => by cases e; exact (own_cap ho).1), made_any sy _ _ W hN (Lib.hid (HS.out.below hW)) HKp⟩
  obtain ⟨em, hem⟩ : ∃ em, (chkT sy (putS t i s)).2 = em := ⟨_, rfl⟩
  obtain ⟨F, hF⟩ : ∃ F : Value → Value, ∀ vv, F vv = if em = 0 then vv else .slice none 0 0 := ⟨_, fun _ => rfl⟩
  have HM : Hid (∀ vv, madeV sy vv (putS t i s) = .tuple #[F vv, .int .i64 em]) := Lib.hid fun vv => by unfold madeV; rw [hem, hF]
  have HFF := Lib.hid hF
  rw [hem] at HV
  rw [hn, hsl] at C1
  rw [hn] at C2
  have HEnd := Lib.hid hEnd
  have HN := Lib.hid hn
  have hi0' : (0 : Int) ≤ (i : Int) := Int.natCast_nonneg _
  have hi1' : (i : Int) < (n : Int) := by omega
  have hcap : n ≤ ct := by have := hcv _ _ _ rfl; omega
  rw [hn, hsl]
  clear HS KB hc0 ha0 hct hcs t1 t2 t3 s1 s2 s3 hi0 hi1 hcellt hcells hkl hq hEnd hlen hflat hem hn hsl HKt HKp hcv hF hL
  go_enter Tryz.func19, Tryz.ntmps19
  go_wp2_with fail
  refine C1.out.mono ?_
  rintro e' w2 ⟨rfl, hb2⟩
  have hB2 := (below_b1 w (.cells #[.slice (some ⟨gt, ot, none⟩) n ct, .slice (some ⟨gs, os, none⟩) sl cs] 22)).trans (hb2.mono (by rw [World.size_alloc]; omega))
  go_wp2_with fail
  refine (C2.out w2 hB2).mono ?_
  rintro e' w3 ⟨_, hok, hb3⟩
  obtain ⟨ve, rfl, ge, rfl, hge, hgl, hgc⟩ := hok HA.out
  have d0 := hgc i q HEnd.out
  rw [HN.out]
  have hB3 := hB2.trans (hb3.mono hB2.size)
  clear hok hgc C1 C2 hb2 hb3
  go_wp2_with fail
  -- MARK3
  obtain ⟨W4, hW4⟩ : ∃ W4, W4 = w3.alloc (.cells #[.slice (some ⟨gt, ot, none⟩) n ct, .slice (some ⟨ge, 0, none⟩) n n] 52) := ⟨_, rfl⟩
  have hB4 : Below w.heap.size w W4 := by rw [hW4]; exact hB3.alloc hB3.size _
  have hsz4 : W4.heap.size = w3.heap.size + 1 := by rw [hW4, World.size_alloc]
  have d1 : W4.cell? ⟨w3.heap.size, 1, none⟩ = some (.slice (some ⟨ge, 0, none⟩) n n) := by
    rw [hW4]; exact (box_facts (World.alloc_heap_new w3 (.cells #[.slice (some ⟨gt, ot, none⟩) n ct, .slice (some ⟨ge, 0, none⟩) n n] 52))).2.1
  have d2 : W4.cell? ⟨ge, i, none⟩ = some (.int .i64 (q : Int)) := by rw [hW4]; exact (World.cell?_alloc_lt _ _ _ hgl).trans d0
  have hgt4 : gt < W4.heap.size := Nat.lt_of_lt_of_le hgt hB4.size
  rw [← hW4]
  obtain ⟨g9, hg9⟩ : ∃ g9, w3.heap.size = g9 := ⟨_, rfl⟩
  rw [hg9] at d1 hsz4 hgl ⊢
  have HB4 := Lib.hid hB4
  clear hW4 d0 hg9
  have hx1 : (i : Int) ≤ (ct : Int) := by omega
  have hx2 : (q : Int) ≤ (n : Int) := by omega
  have hx3 : (0 : Int) ≤ (q : Int) := Int.natCast_nonneg _
  by_cases hce : ct = q
  · have hqn : q = n := by omega
    subst hce
    subst hqn
    go_region_held3 (fun w' => w'.cell? ⟨g9, 1, none⟩ = some (.slice (some ⟨ge, 0, none⟩) ct ct) ∧ w'.cell? ⟨ge, i, none⟩ = some (.int .i64 (ct : Int))) (go_keep) (first
      | ((go_at_call 43; refine (C3.out W4 _ _ _ _ _ _ hsz4 (by omega) HB4.out (by first | exact .inl rfl | exact .inr ⟨rfl, rfl⟩) hgt4).mono ?_; rintro e' w5 ⟨g5, c5, rfl, ho5, hb5⟩; have hb5w := HB4.out.trans (hb5.mono HB4.out.size); have hm5 := Lib.hid (C4.out w5 g5 c5 _ hb5w ho5); have k1 := (hb5.cell (p := ⟨g9, 1, none⟩) (by show g9 < W4.heap.size; omega)).trans d1; have k2 := (hb5.cell (p := ⟨ge, i, none⟩) (by show ge < W4.heap.size; omega)).trans d2; clear ho5))
      | ((go_at_call 42; refine hm5.out.2.2.mono ?_; rintro e' w6 ⟨rfl, hb6⟩; rw [HM.out]; have k3 := (hb6.cell (p := ⟨g9, 1, none⟩) (by show g9 < w5.heap.size; have := hb5.size; omega)).trans k1; have k4 := (hb6.cell (p := ⟨ge, i, none⟩) (by show ge < w5.heap.size; have := hb5.size; omega)).trans k2)))
    -- MARK4
    all_goals go_wp2
    all_goals go_ret2
    all_goals exact ⟨F (.slice (some ⟨g5, 0, none⟩) L c5), by rw [HV.out]; rfl, fun h => (by rw [HV.out] at h; rw [HFF.out, if_neg h]), fun h => (by rw [HV.out] at h; rw [HFF.out, if_pos h, Int.toNat_natCast]; exact ⟨hm5.out.1.below hb6 (Nat.le_refl _), hm5.out.2.1⟩), hb5w.trans (hb6.mono hb5w.size)⟩
  · have hqc : ¬ (ct ≤ q) := by omega
    go_region_held3 (fun w' => w'.cell? ⟨g9, 1, none⟩ = some (.slice (some ⟨ge, 0, none⟩) n n) ∧ w'.cell? ⟨ge, i, none⟩ = some (.int .i64 (q : Int))) (go_keep) (first
      | ((go_at_call 43; refine (C3.out W4 _ _ _ _ _ _ hsz4 (by omega) HB4.out (by first | exact .inl rfl | exact .inr ⟨rfl, rfl⟩) hgt4).mono ?_; rintro e' w5 ⟨g5, c5, rfl, ho5, hb5⟩; have hb5w := HB4.out.trans (hb5.mono HB4.out.size); have hm5 := Lib.hid (C4.out w5 g5 c5 _ hb5w ho5); have k1 := (hb5.cell (p := ⟨g9, 1, none⟩) (by show g9 < W4.heap.size; omega)).trans d1; have k2 := (hb5.cell (p := ⟨ge, i, none⟩) (by show ge < W4.heap.size; omega)).trans d2; clear ho5))
      | ((go_at_call 42; refine hm5.out.2.2.mono ?_; rintro e' w6 ⟨rfl, hb6⟩; rw [HM.out]; have k3 := (hb6.cell (p := ⟨g9, 1, none⟩) (by show g9 < w5.heap.size; have := hb5.size; omega)).trans k1; have k4 := (hb6.cell (p := ⟨ge, i, none⟩) (by show ge < w5.heap.size; have := hb5.size; omega)).trans k2)))
    -- MARK5
    all_goals go_wp2
    all_goals go_ret2
    all_goals exact ⟨F (.slice (some ⟨g5, 0, none⟩) L c5), by rw [HV.out]; rfl, fun h => (by rw [HV.out] at h; rw [HFF.out, if_neg h]), fun h => (by rw [HV.out] at h; rw [HFF.out, if_pos h, Int.toNat_natCast]; exact ⟨hm5.out.1.below hb6 (Nat.le_refl _), hm5.out.2.1⟩), hb5w.trans (hb6.mono hb5w.size)⟩
end Go.Proofs.YtkngkajojcmmlaaGreatDoor

/- Shape. -/
namespace Go.Proofs.YtkngkajojcmmlaaGreatDoor
open Go.RowKit Go.PlainAid

/-- What Shape returns. -/
def shapeS (l : List Int) : List Nat × Int := if 2000 < l.length then ([], 3) else if l.any (fun x => decide (x < 0)) then ([], 7) else if trB (l.map Int.toNat) then (endsL (l.map Int.toNat), 0) else ([], 6)
def ShapeV (l : List Int) (w : World) (e : Ending) (w' : World) : Prop :=
  ∃ v, e = .returned (.tuple #[v, .int .i64 (shapeS l).2]) ∧ IntRow w' v ((shapeS l).1.map fun q : Nat => (q : Int)) ∧ Below w.heap.size w w'
theorem shape_long {l : List Int} (h : 2000 < l.length) : shapeS l = ([], 3) := by unfold shapeS; rw [if_pos h]
theorem shape_neg {l : List Int} (h : ¬ 2000 < l.length) {k : Nat} {x : Int} (hk : l[k]? = some x) (hx : x < 0) : shapeS l = ([], 7) := by
  unfold shapeS
  rw [if_neg h, if_pos (List.any_eq_true.2 ⟨x, List.mem_of_getElem? hk, decide_eq_true hx⟩)]
theorem shape_else {l : List Int} (h : ¬ 2000 < l.length) (hx : ∀ (k : Nat) (x : Int), l[k]? = some x → 0 ≤ x) : shapeS l = if trB (l.map Int.toNat) then (endsL (l.map Int.toNat), 0) else ([], 6) := by
  unfold shapeS
  have : l.any (fun x => decide (x < 0)) = false := by
    rw [List.any_eq_false]
    intro x hm
    obtain ⟨k, hk⟩ := List.getElem?_of_mem hm
    have := hx k x hk
    simp; omega
  rw [if_neg h, this, if_neg (by decide)]
theorem row_nil (w : World) : IntRow w (.slice none 0 0) [] := ⟨none, 0, rfl, .inl rfl⟩

set_option maxRecDepth 50000 in
set_option maxHeartbeats 3200000 in
theorem Shape_any (v : Value) (l : List Int) (w : World) (h : IntRow w v l) : Calls Tryz.prog 20 #[v] w (ShapeV l w) := by
  obtain ⟨a, c, rfl, hA⟩ := h
  by_cases hlong : 2000 < l.length
  · have HV := Lib.hid (shape_long hlong)
    obtain ⟨n, hn⟩ : ∃ n, l.length = n := ⟨_, rfl⟩
    have hd : decide ((2000 : Int) < (n : Int)) = true := decide_eq_true (by omega)
    rw [hn]
    clear hA hlong hn
    go_enter Tryz.func20, Tryz.ntmps20
    go_wp2_with fail
    go_ret2
    exact ⟨_, by rw [HV.out]; rfl, by rw [HV.out]; exact row_nil _, Below.refl _ _⟩
  · have HL := Lib.hid hlong
    have HA := Lib.hid hA
    obtain ⟨n, hn⟩ : ∃ n, l.length = n := ⟨_, rfl⟩
    have HN := Lib.hid hn
    have hd : decide ((2000 : Int) < (n : Int)) = false := decide_eq_false (by omega)
    have hn2 : n ≤ 2000 := by omega
    rw [hn]
    clear hA hlong hn
    go_enter Tryz.func20, Tryz.ntmps20
    go_wp2_with fail
    -- MARK1
    go_loop [12] (fun x => ∃ k : Nat, x = .int .i64 (k : Int) ∧ k ≤ n ∧ Hid (∀ (j : Nat) (x : Int), j < k → l[j]? = some x → 0 ≤ x)) (fun x => n - (intOf x).toNat)
    case atStart => exact ⟨0, rfl, Nat.zero_le _, Lib.hid (fun j x h => by omega)⟩
    case round =>
      obtain ⟨k, rfl, hk, HP⟩ := hrel
      have hk0 : (0 : Int) ≤ (k : Int) := Int.natCast_nonneg _
      by_cases hlt : k < n
      · obtain ⟨x, hx⟩ : ∃ x, l[k]? = some x := ⟨_, List.getElem?_eq_getElem (by rw [HN.out]; exact hlt)⟩
        rcases HA.out with hnil | ⟨g, off, rfl, hg, hc⟩
        · rw [hnil] at hx; cases hx
        have d0 := hc k x hx
        have HX := Lib.hid hx
        have hk1 : (k : Int) < (n : Int) := by omega
        clear hx hc
        by_cases hneg : x < 0
        · have HV := Lib.hid (shape_neg HL.out HX.out hneg)
          have hd2 : decide (x < 0) = true := decide_eq_true hneg
          clear hneg
          go_wp2_with fail
          go_ret2
          exact ⟨_, by rw [HV.out]; rfl, by rw [HV.out]; exact row_nil _, Below.refl _ _⟩
        · have hd2 : decide (x < 0) = false := decide_eq_false hneg
          have HP2 : Hid (∀ (j : Nat) (x : Int), j < k + 1 → l[j]? = some x → 0 ≤ x) := Lib.hid fun j y hj hy => by
            by_cases e : j = k
            · subst e; rw [HX.out] at hy; have := Option.some.inj hy; omega
            · exact HP.out j y (by omega) hy
          clear hneg
          go_wp2_with fail
          go_round
          case rel => exact ⟨k + 1, by go_num, by omega, HP2⟩
          case measure => simp [intOf]; omega
      · obtain rfl : k = n := by omega
        have HV := Lib.hid (shape_else HL.out fun j x hj => HP.out j x (by rw [← HN.out]; exact (List.getElem?_eq_some_iff.1 hj).1) hj)
        have hkl : (l.map Int.toNat).length = k := by rw [List.length_map, HN.out]
        have C := Lib.hid (endsOf_any a k c (l.map Int.toNat) w hkl hn2 (Lib.hid fun hpos => by
          rcases HA.out with hnil | ⟨g, off, e, hg, hc⟩
          · have := HN.out; rw [hnil] at this; simp at this; omega
          · refine ⟨g, off, e, hg, fun j q hj => ?_⟩
            rw [List.getElem?_map] at hj
            cases hq : l[j]? with
            | none => rw [hq] at hj; cases hj
            | some x =>
              rw [hq] at hj
              have hx0 := HP.out j x (by rw [← HN.out]; exact (List.getElem?_eq_some_iff.1 hq).1) hq
              have hxq : x.toNat = q := Option.some.inj hj
              rw [hc j x hq]
              congr 2; omega))
        have HKL := Lib.hid hkl
        clear hkl
        go_wp2_with fail
        -- MARK2
        refine C.out.mono ?_
        rintro e w1 ⟨ve, rfl, hyes, hno, hb⟩
        obtain ⟨b, hbE⟩ : ∃ b, trB (l.map Int.toNat) = b := ⟨_, rfl⟩
        rw [hbE] at hyes hno ⊢
        have HBE := Lib.hid hbE
        clear hbE C
        cases b with
        | true =>
          obtain ⟨ge, rfl, _, hgl, hgc⟩ := hyes rfl
          have HGC := Lib.hid hgc
          clear hgc hyes hno
          rw [HKL.out]
          go_wp2_with fail
          go_ret2
          refine ⟨_, by rw [HV.out, HBE.out]; rfl, ?_, hb⟩
          rw [HV.out, HBE.out]
          refine ⟨_, _, by rw [if_pos rfl]; show _ = Value.slice _ (List.map _ (endsL _)).length _; rw [List.length_map, endsL_len, HKL.out]; rfl, .inr ⟨ge, 0, rfl, hgl, fun j x hj => ?_⟩⟩
          rw [if_pos rfl] at hj
          replace hj : ((endsL (l.map Int.toNat)).map fun q : Nat => (q : Int))[j]? = some x := hj
          rw [List.getElem?_map] at hj
          cases hq : (endsL (l.map Int.toNat))[j]? with
          | none => rw [hq] at hj; cases hj
          | some q =>
            rw [hq] at hj
            rw [Nat.zero_add, HGC.out j q hq]
            cases hj; rfl
        | false =>
          obtain rfl := hno rfl
          clear hyes hno
          go_wp2_with fail
          go_ret2
          refine ⟨_, by rw [HV.out, HBE.out]; rfl, ?_, hb⟩
          rw [HV.out, HBE.out]
          exact row_nil _
end Go.Proofs.YtkngkajojcmmlaaGreatDoor
