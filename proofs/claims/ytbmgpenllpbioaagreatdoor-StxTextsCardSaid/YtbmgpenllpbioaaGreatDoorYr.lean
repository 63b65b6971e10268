/- The printing's visit of a leaf. -/
import Derived.Test.YtbmgpenllpbioaaGreatDoorYp
namespace Go.Proofs.YtbmgpenllpbioaaGreatDoor
open Go.RowKit Go.PlainAid

theorem cnt0_le (a : List Nat) : (cntA 0 a).length ≤ a.length := by
  unfold cntA; rw [if_pos rfl]
  have := (List.dropWhile_suffix (l := decT a) (p := fun x => x == 0)).length_le
  have h2 := decT_len a
  show (popZ (decT a)).length ≤ _
  unfold popZ; omega
theorem bytes_str {w : World} {B n : Nat} {v : Value} {out s : List UInt8} (hn : out.length = n) (h : w.ownsRow B 5 1 v (n + s.length) (out.map bc ++ Lib.strCells (str s))) : w.ownsRow B 5 1 v (out ++ s).length ((out ++ s).map bc) := by
  rw [List.length_append, List.map_append, hn]; exact h
theorem PrV.slice {B base N : Nat} {va vt : Value} {a : List Nat} {out : List UInt8} {nc : Array Value} {w0 W : World} (h : PrV B base N va vt a out nc w0 W) : ∃ b c, vt = .slice b out.length c := own_lenR h.ot
theorem PrV.slice2 {B base N : Nat} {va vt : Value} {a : List Nat} {out : List UInt8} {nc : Array Value} {w0 W : World} (h : PrV B base N va vt a out nc w0 W) : ∃ b c, va = .slice b a.length c := own_lenR h.ol
set_option maxRecDepth 50000 in
set_option maxHeartbeats 6400000 in
theorem visitLeaf_any (B base k : Nat) (x : Sx) (va vt : Value) (a : List Nat) (out : List UInt8) (w0 W : World) (h : PrU B base va vt a out w0 W) (hc : x.c = 0) (hs : StB a) (hl : a.length ≤ 5000) (ht : topN a) (ho : out.length ≤ 1000000000)
    (T : STab w0) (hp : x.p.length ≤ 100000) (hss : x.s.length ≤ 100000) (hn : i64r x.n) :
    Calls Tryz.prog 66 #[.pointer (some ⟨B, 0, none⟩), .int .i64 (k : Int), sxA x] W fun e w' => e = .returned (.int .i64 (leafS x).2) ∧ ∃ va' vt', PrV B base W.heap.size va' vt' (cntA 0 a) (prO x a out) (sxC x).toArray w0 w' := by
  have hst : PrV B base W.heap.size va vt a out (sxC x).toArray w0 (W.alloc (.cells (sxC x).toArray 28)) := by
    have h' := h.below (below_b1 W (.cells (sxC x).toArray 28))
    exact ⟨h'.bx, h'.ol, h'.ot, World.alloc_heap_new _ _, h'.be, h'.sz, h'.wB, h'.wb⟩
  have CL := Lib.hid (leaf_any x (W.alloc (.cells (sxC x).toArray 28)) (T.below hst.be) hp hss hn)
  have hll := leafS_len hss hn
  have HPO : Hid (∀ s, (leafS x).1 = s → prO x a out = ((out ++ s) ++ List.replicate (a.length - (cntA 0 a).length) 41) ++ (if cntA 0 a = [] then [] else [32])) := Lib.hid (by rintro s rfl; unfold prO; rw [if_neg (by omega)])
  obtain ⟨⟨s, er⟩, hq⟩ : ∃ r, leafS x = r := ⟨_, rfl⟩
  have HV := Lib.hid (HPO.out s (by rw [hq]))
  rw [hq] at CL hll ⊢
  unfold strE at CL
  simp only at CL hll ⊢
  have HCt : Hid (∀ va' vt' W' out', PrV B base W.heap.size va' vt' a out' (sxC x).toArray w0 W' → Calls Tryz.prog 75 #[.pointer (some ⟨B, 0, none⟩), .int .i64 0] W' fun e w' => e = .returned (.int .i64 (cntAV 0 a)) ∧ ∃ va', PrV B base W.heap.size va' vt' (cntA 0 a) out' (sxC x).toArray w0 w') := Lib.hid fun va' vt' W' out' hW => hW.count (k := 0) (by decide) hs hl ht
  obtain ⟨a', ha'⟩ : ∃ a', cntA 0 a = a' := ⟨_, rfl⟩
  obtain ⟨D, hD⟩ : ∃ D, a.length - a'.length = D := ⟨_, rfl⟩
  have hle := cnt0_le a
  have HCv : Hid (cntAV 0 a = (D : Int)) := Lib.hid (by unfold cntAV; rw [if_pos rfl, ha', ← hD]; rw [ha'] at hle; omega)
  rw [ha', hD] at HV
  rw [ha'] at HCt ⊢
  rw [HCv.out] at HCt
  have hDl : D ≤ 5000 := by omega
  obtain ⟨r, hr⟩ : ∃ r, a'.length = r := ⟨_, rfl⟩
  have HR := Lib.hid hr
  obtain ⟨m, hm⟩ : ∃ m, out.length = m := ⟨_, rfl⟩
  obtain ⟨sl, hsl⟩ : ∃ m, s.length = m := ⟨_, rfl⟩
  have HM := Lib.hid hm
  have HSL := Lib.hid hsl
  have HS := Lib.hid hst
  rw [hm] at ho
  rw [hsl] at hll
  have hzS : (str s).size = sl := by rw [str_size, hsl]
  obtain ⟨T0, hT0⟩ : ∃ T0, str s = T0 := ⟨_, rfl⟩
  have HT0 := Lib.hid hT0
  rw [hT0] at CL hzS
  obtain ⟨x0, x1, x2, x3, x4, x5, x6, x7⟩ := x
  simp only at hc
  subst hc
  unfold sxC at HS CL HCt ⊢
  unfold sxA sxC at CL
  simp only at HS CL HCt ⊢
  show Calls _ _ #[_, _, .agg #[.int .i64 x0, .int .i64 0, .int .i64 x2, .string (str x3), .string (str x4), .int .i64 x5, .int .i64 x6, .int .i64 x7]] _ _
  obtain ⟨S, hS⟩ : ∃ S, str x3 = S := ⟨_, rfl⟩
  obtain ⟨P, hP⟩ : ∃ P, str x4 = P := ⟨_, rfl⟩
  rw [hS] at HS CL HCt ⊢
  rw [hP] at HS CL HCt ⊢
  obtain ⟨i0, hi, hz0, hz1, hz2⟩ := info_parts2 infoU8
  obtain ⟨d0, d1, d2, d3, d4, d5, d6, d7⟩ := box8_facts HS.out.nd
  clear h hst hm hs hl ht hS hP hq hsl hT0 hle ha' hD hr T hp hss hn HPO HCv
  go_enter Tryz.func66, Tryz.ntmps66
  go_wp2_with fail
  refine CL.out.mono ?_
  rintro e w1 ⟨rfl, hb1⟩
  have HS1 := Lib.hid (HS.out.below hb1)
  obtain ⟨b1, c1, hv1⟩ := HS1.out.slice
  rw [HM.out] at hv1
  subst hv1
  obtain ⟨a0, a1, a2⟩ := box2_fr HS1.out.bx
  have HO1 : Hid (w1.ownsRow base 5 1 (.slice b1 m c1) m (out.map bc)) := Lib.hid (by have := HS1.out.ot; rw [HM.out] at this; exact this)
  have hs1 := HS1.out.sz
  clear hb1 d0 d1 d2 d3 d4 d5 d6 d7
  go_wp2_with (at_builtin; refine Lib.wpList_append_own_string _ rfl _ _ 88 9 rfl base 5 i0 Tryz.underlying88 Tryz.underlying9 hi hz0 hz1 hz2 _ _ _ rfl HO1.out _ rfl (by unfold maxLen; omega) (by omega) hs1 ?_; intro v4 w4 hown4 hgrow4 _; rw [hzS] at hown4; obtain ⟨b4, cb4, rfl⟩ := own_lenR hown4; obtain ⟨_, k1, k2⟩ := box2_fr (HS1.out.mid (Below.refl _ _) hgrow4); have HP4 := Lib.hid (HS1.out.push (out' := out ++ s) (Below.refl _ _) hgrow4 (bytes_str HM.out (by rw [HSL.out, HT0.out]; exact hown4))); clear hown4 hgrow4)
  -- MARK1
  obtain ⟨W5, hW5⟩ : ∃ W5, W5 = w4.setCell ⟨B, 1, none⟩ (.slice b4 (m + sl) cb4) := ⟨_, rfl⟩
  rw [← hW5] at HP4 ⊢
  clear hW5 k1 k2 a0 a1 a2
  refine (HCt.out _ _ _ _ HP4.out).mono ?_
  rintro e w6 ⟨rfl, va6, hst6⟩
  have HP6 := Lib.hid hst6
  clear hst6
  go_wp2_with fail
  -- MARK2
  go_loopw [45] (fun x45 wr => ∃ (i : Nat) (b : Option Addr) (c : Nat), x45 = .int .i64 (i : Int) ∧ i ≤ D ∧ Hid (PrV B base W.heap.size va6 (.slice b (m + sl + i) c) a' ((out ++ s) ++ List.replicate i 41) #[.int .i64 x0, .int .i64 0, .int .i64 x2, .string S, .string P, .int .i64 x5, .int .i64 x6, .int .i64 x7] w0 wr)) (fun x45 _ => D - (intOf x45).toNat)
  case atStart => exact ⟨0, b4, cb4, rfl, Nat.zero_le _, by rw [List.replicate_zero, List.append_nil]; exact HP6⟩
  case round =>
    obtain ⟨i, b, c, rfl, hi2, HPi⟩ := hrel
    have hi0 : (0 : Int) ≤ (i : Int) := Int.natCast_nonneg _
    have HLn : Hid (((out ++ s) ++ List.replicate i (41 : UInt8)).length = m + sl + i) := Lib.hid (by rw [List.length_append, List.length_append, List.length_replicate, HM.out, HSL.out])
    have HOi : Hid (wr.ownsRow base 5 1 (.slice b (m + sl + i) c) (m + sl + i) (((out ++ s) ++ List.replicate i 41).map bc)) := Lib.hid (by have := HPi.out.ot; rw [HLn.out] at this; exact this)
    obtain ⟨a0, a1, a2⟩ := box2_fr HPi.out.bx
    have hsi := HPi.out.sz
    by_cases hlt : i < D
    · have hd : (i : Int) < (D : Int) := by omega
      go_wp2_with (at_builtin; refine wpList_append_own _ rfl _ _ 88 rfl base 5 i0 (.int .u8 0) 1 1 Tryz.underlying88 hi hz0 hz1 hz2 rfl (by decide) _ _ _ rfl (HOi.out.alloc _) ⟨wr.heap.size, 0, none⟩ 1 1 [.int .u8 41] rfl rfl (new_cellsX _ _ _ _ rfl) (one_u8 41) (by unfold maxLen; omega) (by omega) (by rw [World.size_alloc]; omega) ?_; intro v8 w8 hown8 hgrow8 _; obtain ⟨b8, cb8, rfl⟩ := own_lenR hown8; obtain ⟨_, k1, k2⟩ := box2_fr (HPi.out.mid (below_b1 _ _) hgrow8); have HP8 := Lib.hid (HPi.out.push (out' := ((out ++ s) ++ List.replicate i 41) ++ [41]) (below_b1 _ _) hgrow8 (bytes_push (c := 41) (by decide) HLn.out hown8)); clear hown8 hgrow8)
      -- MARK3
      exact ⟨⟨i + 1, b8, cb8, by go_num, by omega, by
        have e : List.replicate (i + 1) (41 : UInt8) = List.replicate i 41 ++ [41] := List.replicate_succ'
        rw [e, ← List.append_assoc]; exact HP8⟩, by simp [intOf]; omega⟩
    · obtain rfl : i = D := by omega
      obtain ⟨ba, ca, hva⟩ := HPi.out.slice2
      rw [HR.out] at hva
      subst hva
      by_cases hr0 : r = 0
      · subst hr0
        have HW : Hid (prO ⟨x0, 0, x2, x3, x4, x5, x6, x7⟩ a out = (out ++ s) ++ List.replicate i 41) := Lib.hid (by rw [HV.out, if_pos (List.length_eq_zero_iff.1 HR.out), List.append_nil])
        go_wp2_with fail
        -- MARK4
        go_ret
        exact ⟨rfl, _, _, by rw [HW.out]; exact HPi.out⟩
      · have hr1 : decide ((0 : Int) < (r : Int)) = true := decide_eq_true (by omega)
        have hr2 : 0 < r := by omega
        have HW : Hid (prO ⟨x0, 0, x2, x3, x4, x5, x6, x7⟩ a out = ((out ++ s) ++ List.replicate i 41) ++ [32]) := Lib.hid (by rw [HV.out, if_neg (fun e => hr0 (by rw [← HR.out, e]; rfl))])
        go_wp2_with (at_builtin; refine wpList_append_own _ rfl _ _ 88 rfl base 5 i0 (.int .u8 0) 1 1 Tryz.underlying88 hi hz0 hz1 hz2 rfl (by decide) _ _ _ rfl (HOi.out.alloc _) ⟨wr.heap.size, 0, none⟩ 1 1 [.int .u8 32] rfl rfl (new_cellsX _ _ _ _ rfl) (one_u8 32) (by unfold maxLen; omega) (by omega) (by rw [World.size_alloc]; omega) ?_; intro v8 w8 hown8 hgrow8 _; obtain ⟨b8, cb8, rfl⟩ := own_lenR hown8; obtain ⟨_, k1, k2⟩ := box2_fr (HPi.out.mid (below_b1 _ _) hgrow8); have HP8 := Lib.hid (HPi.out.push (out' := ((out ++ s) ++ List.replicate i 41) ++ [32]) (below_b1 _ _) hgrow8 (bytes_push (c := 32) (by decide) HLn.out hown8)); clear hown8 hgrow8)
        -- MARK5
        go_ret
        exact ⟨rfl, _, _, by rw [HW.out]; exact HP8.out⟩
-- MARK9
end Go.Proofs.YtbmgpenllpbioaaGreatDoor
