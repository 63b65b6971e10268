/- isInteger, Integer, wordToken. -/
import Derived.Test.YtemoeohchhpilaaDoorLt
import Derived.Test.YtemoeohchhpilaaDoorShelfT
import Derived.Shelf.Strings.SlTrimAscii
import Derived.WalkSmall
namespace Go.Proofs.YtemoeohchhpilaaDoor
open Go.RowKit Go.PlainAid

def RangeIs (w : World) : Prop := ∃ tp p, w.var? Tryd.prog "strconv.ErrRange" = some #[.iface tp p]
theorem range_below {B : Nat} {w w' : World} (h : RangeIs w) (hb : Below B w w') (hB : 4 < B) : RangeIs w' := by
  obtain ⟨tp, p, h⟩ := h; exact ⟨tp, p, var?_below hb (by kernel_rfl) hB h⟩
theorem bytesWorld_below (w : World) (e : TypeId) (t : ByteArray) : Below w.heap.size w (Lib.bytesWorld w e t) := ⟨rfl, rfl, rfl, by rw [Lib.bytesWorld_size]; omega, fun k hk => Lib.bytesWorld_at_old w e t k hk⟩
theorem parse_ok (s : ByteArray) (hs : s.size ≤ 1000000000) (v : Int) (h : Lib.parseIntB 64 s.data.toList = .ok v) (w : World) :
    Calls Tryd.prog 24 #[.string s, .int .i64 10, .int .i64 64] w fun e w' => e = .returned (.tuple #[.int .i64 v, .nilIface]) ∧ Below w.heap.size w w' :=
  (Tryd.strconv_ParseInt_10_at64_ok s (by omega) v h w).mono fun e w' ⟨he, hw⟩ => ⟨he, by
    rcases hw with rfl | ⟨t, rfl⟩
    · exact Below.refl _ _
    · exact bytesWorld_below _ _ _⟩
theorem parse_rng (s : ByteArray) (hs : s.size ≤ 1000000000) (h : Lib.parseIntB 64 s.data.toList = .range) (w : World) (hr : RangeIs w) :
    Calls Tryd.prog 24 #[.string s, .int .i64 10, .int .i64 64] w fun e w' => ∃ (N : Nat) (m : Int), e = .returned (.tuple #[.int .i64 m, .iface 85 (.pointer (some ⟨N, 0, none⟩))]) ∧ Below w.heap.size w w' := by
  obtain ⟨tp, p, hr⟩ := hr
  exact (Tryd.strconv_ParseInt_10_at64_range_var s (by omega) h tp p w hr).mono fun e w' ⟨N, he, _, _, hb⟩ => ⟨N, _, he, hb⟩

theorem trim_dig (s : List UInt8) (w : World) (hs : s.length ≤ 1000000) : Calls Tryd.prog 37 #[.string (str s), .string ⟨#[48, 49, 50, 51, 52, 53, 54, 55, 56, 57]⟩] w fun e w' => e = .returned (.string (str (Lib.trimS s digS))) ∧ Below w.heap.size w w' :=
  Any.strings_Trim_laid Tryd.lays160 (by kernel_rfl) (str s) ⟨#[48, 49, 50, 51, 52, 53, 54, 55, 56, 57]⟩ w (by rw [str_size]; omega) (by decide) (ascii_of_all (by decide))
theorem extr_1 (c : UInt8) (t : List UInt8) : (str (c :: t)).extract 1 (t.length + 1) = str t := by
  rw [← str_data ((str (c :: t)).extract 1 _), Lib.extract_data, str_list]
  congr 1
  show (List.take _ (List.drop 1 (c :: t))) = t
  rw [List.drop_succ_cons, List.drop_zero, List.take_of_length_le (by omega)]

set_option maxRecDepth 50000 in
set_option maxHeartbeats 1600000 in
theorem integer_cons (c : UInt8) (t : List UInt8) (w : World) (hl : (c :: t).length ≤ 1000000) : Calls Tryd.prog 23 #[.string (str (c :: t))] w fun e w' => e = .returned (.bool (intB (c :: t))) ∧ Below w.heap.size w w' := by
  have CT : Hid (∀ (s : List UInt8) W, s.length ≤ 1000000 → Calls Tryd.prog 37 #[.string (str s), .string ⟨#[48, 49, 50, 51, 52, 53, 54, 55, 56, 57]⟩] W fun e w' => e = .returned (.string (str (Lib.trimS s digS))) ∧ Below W.heap.size W w') := Lib.hid fun s W hs => trim_dig s W hs
  obtain ⟨S, hS⟩ : ∃ S, str (c :: t) = S := ⟨_, rfl⟩
  have hsz : S.size = t.length + 1 := by rw [← hS, str_size]; rfl
  have hx : S.extract 1 (t.length + 1) = str t := by rw [← hS]; exact extr_1 c t
  have h0 : 0 < S.size := by omega
  have hb0 : ((S[0]'h0).toNat : Int) = (c.toNat : Int) := by rw [← bt_get S 0 h0, ← hS, bt_str _ 0 (by simp)]; rfl
  have hz : ∀ u : List UInt8, ((str (Lib.trimS u digS)).toList == []) = u.all (digS.contains ·) := fun u => by
    rw [emp_str, Bool.eq_iff_iff, beq_iff_eq]; exact trim_nil u digS
  have hS1 : (S.toList == []) = false := by rw [← hS, emp_str]; rfl
  have hS2 : S.toList.isEmpty = false := by rw [← hS, emp_str]; rfl
  by_cases hc : c = 43 ∨ c = 45
  · have HV : Hid (intB (c :: t) = (decide (t ≠ []) && t.all (digS.contains ·))) := Lib.hid (by rw [int_cons, if_pos hc])
    have HL : Hid (t.length ≤ 1000000) := Lib.hid (by simp at hl; omega)
    have hor : (((S[0]'h0).toNat : Int) == 43) = true ∨ ((((S[0]'h0).toNat : Int) == 43) = false ∧ (((S[0]'h0).toNat : Int) == 45) = true) := by
      rw [hb0]; rcases hc with rfl | rfl
      · exact .inl rfl
      · exact .inr ⟨rfl, rfl⟩
    have hzt := hz t
    obtain ⟨Z, hZ⟩ : ∃ Z, str (Lib.trimS t digS) = Z := ⟨_, rfl⟩
    have CT2 := Lib.hid (fun W => CT.out t W HL.out)
    rw [hZ] at CT2 hzt
    obtain ⟨bb, hbb⟩ : ∃ bb, t.all (digS.contains ·) = bb := ⟨_, rfl⟩
    rw [hbb] at hzt HV
    rw [hS]
    clear hb0 hz hc hS hZ hbb hl CT
    by_cases ht : t = []
    · subst ht
      have ht1 : ((str ([] : List UInt8)).toList == []) = true := by rw [emp_str]; rfl
      have ht2 : (str ([] : List UInt8)).toList.isEmpty = true := by rw [emp_str]; rfl
      have HV2 : Hid (intB (c :: []) = false) := Lib.hid (by rw [HV.out]; rfl)
      clear HV
      rcases hor with e1 | ⟨e1, e2⟩ <;> (
        go_enter Tryd.func23, Tryd.ntmps23
        go_wp2_with fail
        go_ret
        exact ⟨ret_bool (by rw [HV2.out]), Below.refl _ _⟩)
    · have ht1 : ((str t).toList == []) = false := by rw [emp_str]; exact beq_eq_false_iff_ne.2 ht
      have ht2 : (str t).toList.isEmpty = false := by rw [emp_str]; cases t with | nil => exact absurd rfl ht | cons _ _ => rfl
      have HV2 : Hid (intB (c :: t) = bb) := Lib.hid (by rw [HV.out, decide_eq_true ht]; rfl)
      clear HV ht
      rcases hor with e1 | ⟨e1, e2⟩ <;> (
        go_enter Tryd.func23, Tryd.ntmps23
        go_wp2_with (go_at_call 37; refine (CT2.out _).mono ?_; rintro e w1 ⟨rfl, hb1⟩)
        go_ret
        exact ⟨ret_bool (by rw [HV2.out]), hb1⟩)
  · have HV : Hid (intB (c :: t) = (c :: t).all (digS.contains ·)) := Lib.hid (by rw [int_cons, if_neg hc])
    have e1 : (((S[0]'h0).toNat : Int) == 43) = false := by
      rw [hb0, beq_eq_false_iff_ne]; intro e; exact hc (.inl (UInt8.toNat_inj.1 (by show c.toNat = 43; omega)))
    have e2 : (((S[0]'h0).toNat : Int) == 45) = false := by
      rw [hb0, beq_eq_false_iff_ne]; intro e; exact hc (.inr (UInt8.toNat_inj.1 (by show c.toNat = 45; omega)))
    have hzt := hz (c :: t)
    obtain ⟨Z, hZ⟩ : ∃ Z, str (Lib.trimS (c :: t) digS) = Z := ⟨_, rfl⟩
    have CT2 := Lib.hid (fun W => CT.out (c :: t) W hl)
    rw [hZ] at CT2 hzt
    rw [hS] at CT2
    obtain ⟨bb, hbb⟩ : ∃ bb, (c :: t).all (digS.contains ·) = bb := ⟨_, rfl⟩
    rw [hbb] at hzt HV
    rw [hS]
    clear hb0 hz hc hS hZ hbb hl CT
    go_enter Tryd.func23, Tryd.ntmps23
    go_wp2_with (go_at_call 37; refine (CT2.out _).mono ?_; rintro e w1 ⟨rfl, hb1⟩)
    go_ret
    exact ⟨ret_bool (by rw [HV.out]), hb1⟩
theorem integer_nil (w : World) : Calls Tryd.prog 23 #[.string (str [])] w fun e w' => e = .returned (.bool (intB [])) ∧ Below w.heap.size w w' := by
  have ht1 : ((str ([] : List UInt8)).toList == []) = true := by rw [emp_str]; rfl
  have ht2 : (str ([] : List UInt8)).toList.isEmpty = true := by rw [emp_str]; rfl
  have HV : Hid (intB [] = false) := Lib.hid rfl
  go_enter Tryd.func23, Tryd.ntmps23
  go_wp2_with fail
  go_ret
  exact ⟨ret_bool (by rw [HV.out]), Below.refl _ _⟩
theorem isInt_any (x : List UInt8) (w : World) (hl : x.length ≤ 1000000) : Calls Tryd.prog 23 #[.string (str x)] w fun e w' => e = .returned (.bool (intB x)) ∧ Below w.heap.size w w' := by
  cases x with
  | nil => exact integer_nil w
  | cons c t => exact integer_cons c t w hl

def intV (x : List UInt8) : Value := .tuple #[.int .i64 (intE x).1, .int .i64 (intE x).2]
set_option maxRecDepth 50000 in
set_option maxHeartbeats 1600000 in
theorem Integer_any (x : List UInt8) (w : World) (hl : x.length ≤ 1000000) (R : RangeIs w) (hg : 4 < w.heap.size) :
    Calls Tryd.prog 15 #[.string (str x)] w fun e w' => e = .returned (intV x) ∧ Below w.heap.size w w' := by
  have CI := Lib.hid (isInt_any x w hl)
  have hs : (str x).size ≤ 1000000000 := by rw [str_size]; omega
  cases hb : intB x
  · have HV : Hid (intV x = .tuple #[.int .i64 0, .int .i64 6]) := Lib.hid (by unfold intV; rw [intE_no hb])
    rw [hb] at CI
    obtain ⟨S, hS⟩ : ∃ S, str x = S := ⟨_, rfl⟩
    rw [hS] at CI ⊢
    clear hb hs hS R
    go_enter Tryd.func15, Tryd.ntmps15
    go_wp2_with fail
    refine CI.out.mono ?_
    rintro e w1 ⟨rfl, hb1⟩
    go_wp2_with fail
    go_ret2
    exact ⟨by rw [HV.out]; rfl, hb1⟩
  · have hp := parse_int hb
    by_cases hf : fits (numI x)
    · rw [if_pos hf] at hp
      obtain ⟨v, hv⟩ : ∃ v, numI x = v := ⟨_, rfl⟩
      have HV : Hid (intV x = .tuple #[.int .i64 v, .int .i64 0]) := Lib.hid (by unfold intV; rw [intE_ok hb hf, hv])
      rw [hv] at hp
      have CP := Lib.hid (fun W => parse_ok (str x) hs v hp W)
      rw [hb] at CI
      obtain ⟨S, hS⟩ : ∃ S, str x = S := ⟨_, rfl⟩
      rw [hS] at CI CP ⊢
      clear hb hs hS R hf hp hv
      go_enter Tryd.func15, Tryd.ntmps15
      go_wp2_with fail
      refine CI.out.mono ?_
      rintro e w1 ⟨rfl, hb1⟩
      go_wp2_with fail
      refine (CP.out w1).mono ?_
      rintro e w2 ⟨rfl, hb2⟩
      go_wp2_with fail
      go_ret2
      exact ⟨by rw [HV.out]; rfl, hb1.trans (hb2.mono hb1.size)⟩
    · rw [if_neg hf] at hp
      have HV : Hid (intV x = .tuple #[.int .i64 0, .int .i64 7]) := Lib.hid (by unfold intV; rw [intE_rng hb hf])
      have CP := Lib.hid (fun W (hW : Below w.heap.size w W) => parse_rng (str x) hs hp W (range_below R hW hg))
      rw [hb] at CI
      obtain ⟨S, hS⟩ : ∃ S, str x = S := ⟨_, rfl⟩
      rw [hS] at CI CP ⊢
      clear hb hs hS R hf hp
      go_enter Tryd.func15, Tryd.ntmps15
      go_wp2_with fail
      refine CI.out.mono ?_
      rintro e w1 ⟨rfl, hb1⟩
      go_wp2_with fail
      refine (CP.out w1 hb1).mono ?_
      rintro e w2 ⟨N, m, rfl, hb2⟩
      go_wp2_with fail
      go_ret2
      exact ⟨by rw [HV.out]; rfl, hb1.trans (hb2.mono hb1.size)⟩

set_option maxRecDepth 50000 in
set_option maxHeartbeats 3200000 in
theorem wordT_any (a : Option Addr) (n c : Nat) (l : List UInt8) (i j : Nat) (w : World) (hv : BytesAt w (.slice a n c) l) (hcap : n ≤ c) (hij : i ≤ j) (hj : j ≤ n) (hl : n ≤ 1000000) (hn : l.length = n) (R : RangeIs w) (hg : 4 < w.heap.size) :
    Calls Tryd.prog 29 #[.slice a n c, .agg #[.int .i64 (i : Int), .int .i64 (j : Int)]] w fun e w' => e = .returned (tokV (wordT (seg l i j)) i j) ∧ Below w.heap.size w w' := by
  obtain ⟨W0, hW0⟩ : ∃ W0, W0 = (w.alloc (.cells #[.int .i64 (i : Int), .int .i64 (j : Int)] 27)).alloc (.cells #[.int .i64 0, .int .i64 0, .int .i64 0, .int .i64 0, .string ⟨#[]⟩] 33) := ⟨_, rfl⟩
  have hsz : W0.heap.size = w.heap.size + 2 := by rw [hW0]; simp
  have hB0 : Below w.heap.size w W0 := by rw [hW0]; exact (below_b1 _ _).alloc (by simp) _
  have b1 : W0.heap[w.heap.size]? = some (.cells #[.int .i64 (i : Int), .int .i64 (j : Int)] 27 (0, 0)) := by
    rw [hW0]; exact (Below.heap_alloc _ _ _ (by simp only [World.size_alloc]; omega)).trans (World.alloc_heap_new _ _)
  have b2 : W0.heap[w.heap.size + 1]? = some (.cells #[.int .i64 0, .int .i64 0, .int .i64 0, .int .i64 0, .string ⟨#[]⟩] 33 (0, 0)) := by
    rw [hW0]; have := World.alloc_heap_new (w.alloc (.cells #[.int .i64 (i : Int), .int .i64 (j : Int)] 27)) (.cells #[.int .i64 0, .int .i64 0, .int .i64 0, .int .i64 0, .string ⟨#[]⟩] 33); rwa [World.size_alloc] at this
  have hxl : (seg l i j).length = j - i := by unfold seg; rw [List.length_take, List.length_drop]; omega
  obtain ⟨x, hx⟩ : ∃ x, seg l i j = x := ⟨_, rfl⟩
  have hcv := conv_seg (RowAt.below hv hB0 (Nat.le_refl _)) hij hj hcap
  rw [hx] at hcv hxl ⊢
  have CI := Integer_any x W0 (by omega) (range_below R hB0 hg) (Nat.lt_of_lt_of_le hg hB0.size)
  unfold intV at CI
  have HE := intE_e x
  have HT : Hid (∀ y e, intE x = (y, e) → wordT x = if e = 0 then (5, y, [], 0) else if e = 7 then (0, 0, [], 7) else if 24 < x.length then (0, 0, [], 3) else (7, 0, x, 0)) := Lib.hid fun y e h => by unfold wordT; rw [h]
  obtain ⟨y, er, hy⟩ : ∃ y er, intE x = (y, er) := ⟨_, _, rfl⟩
  rw [hy] at CI HE
  have HY := HT.out y er hy
  simp only at CI HE
  have HCI := Lib.hid CI
  rw [hW0] at hcv
  have hA1 : (0 : Int) ≤ (i : Int) := Int.natCast_nonneg _
  have hA2 : (i : Int) ≤ (j : Int) := by omega
  have hA3 : (j : Int) ≤ (c : Int) := by omega
  have HB1 := Lib.hid b1
  have HB2 := Lib.hid b2
  have HB0 := Lib.hid hB0
  have HZ := Lib.hid hsz
  obtain ⟨m, hm0⟩ : ∃ m, j - i = m := ⟨_, rfl⟩
  have hm : (str x).size = m := by rw [str_size, hxl, hm0]
  rw [hxl, hm0] at HY
  have hm1 : m ≤ 1000000 := by omega
  clear hm0
  clear hv R hg hx b1 b2 hsz hB0 hy CI HT hxl hn
  by_cases hci : c = i
  all_goals
    first
      | (rw [if_pos hci] at hcv; subst hci; rw [Nat.sub_self] at hcv)
      | rw [if_neg hci] at hcv
    go_enter Tryd.func29, Tryd.ntmps29
    go_wp2_with fail
    rw [← hW0]
    refine HCI.out.mono ?_
    rintro e w1 ⟨rfl, hb1⟩
    clear hcv hW0 hA1 hA2 hA3 HCI
    have d1 := (hb1.block w.heap.size (by rw [HZ.out]; omega)).trans HB1.out
    have d2 := (hb1.block (w.heap.size + 1) (by rw [HZ.out]; omega)).trans HB2.out
    have HBW := Lib.hid (HB0.out.trans (hb1.mono (by rw [HZ.out]; omega)))
    obtain ⟨s0, s1⟩ := box2_facts d1
    obtain ⟨⟨t0, t1, t2, t3, t4⟩, u0, u1, u2, u3, u4⟩ := box5_facts d2
    have HD2 := Lib.hid d2
    clear d1 d2 hb1
    have hcase : (er = 0 ∧ Hid (wordT x = (5, y, [], 0))) ∨ (er = 7 ∧ Hid (wordT x = (0, 0, [], 7))) ∨ (er = 6 ∧ 24 < m ∧ Hid (wordT x = (0, 0, [], 3))) ∨ (er = 6 ∧ m ≤ 24 ∧ Hid (wordT x = (7, 0, x, 0))) := by
      rcases HE with h | h | h
      · left; exact ⟨h, Lib.hid (by rw [HY, if_pos h])⟩
      · right; left; have h2 : er = 7 := (Prod.mk.inj h).2; exact ⟨h2, Lib.hid (by rw [HY, if_neg (by omega), if_pos h2])⟩
      · have h2 : er = 6 := (Prod.mk.inj h).2
        by_cases h3 : 24 < m
        · right; right; left; exact ⟨h2, h3, Lib.hid (by rw [HY, if_neg (by omega), if_neg (by omega), if_pos h3])⟩
        · right; right; right; exact ⟨h2, by omega, Lib.hid (by rw [HY, if_neg (by omega), if_neg (by omega), if_neg h3])⟩
    clear HE HY
    rcases hcase with ⟨rfl, HV⟩ | ⟨rfl, HV⟩ | ⟨rfl, h24, HV⟩ | ⟨rfl, h24, HV⟩
    all_goals
      go_wp2_with fail
      -- MARK1
      (try simp only [Exit.inBlock, Exit.then])
      refine bodyPost_ret (results_boxT rfl _ _ (w.heap.size + 1) _ _ _ _ _ _ rfl (set_five _ _ _ _ _ HD2.out)) rfl ?_
      exact ⟨by rw [HV.out]; rfl, below_five HBW.out (by omega) _ _ _ _ _⟩
end Go.Proofs.YtemoeohchhpilaaDoor
