/- The reference of layer 9: Ids, Has, Add, Drop, Flip. -/
import Derived.Test.YtchnmbfeaaialaaDoorSrc
namespace Go.Proofs.YtchnmbfeaaialaaDoor
open Go.RowKit Go.PlainAid

theorem flip_in {l : List Nat} {k : Nat} (hl : asc l) (h : k ∈ l) : mg true false true l [k] = mg true false false l [k] :=
  asc_ext (asc_mg' hl (asc_one k)) (asc_mg' hl (asc_one k)) fun z => by
    rw [mem_mg' hl (asc_one k), mem_mg' hl (asc_one k), List.mem_singleton]
    constructor
    · rintro (⟨a, b, c⟩ | ⟨a, b, c⟩ | ⟨a, b, c⟩)
      · exact .inl ⟨a, b, rfl⟩
      · cases c
      · subst b; exact absurd h a
    · rintro (⟨a, b, c⟩ | ⟨a, b, c⟩ | ⟨a, b, c⟩)
      · exact .inl ⟨a, b, rfl⟩
      · cases c
      · cases c
theorem flip_out {l : List Nat} {k : Nat} (hl : asc l) (h : k ∉ l) : mg true false true l [k] = mg true true true l [k] :=
  asc_ext (asc_mg' hl (asc_one k)) (asc_mg' hl (asc_one k)) fun z => by
    rw [mem_mg' hl (asc_one k), mem_mg' hl (asc_one k), List.mem_singleton]
    constructor
    · rintro (⟨a, b, c⟩ | ⟨a, b, c⟩ | ⟨a, b, c⟩)
      · exact .inl ⟨a, b, rfl⟩
      · cases c
      · exact .inr (.inr ⟨a, b, rfl⟩)
    · rintro (⟨a, b, c⟩ | ⟨a, b, c⟩ | ⟨a, b, c⟩)
      · exact .inl ⟨a, b, rfl⟩
      · subst b; exact absurd a h
      · exact .inr (.inr ⟨a, b, rfl⟩)
theorem strE_l (S : List UInt8) (e : Int) : strE (S, e) = .tuple #[.string (str S), .int .i64 e] := rfl
set_option maxRecDepth 50000 in
theorem rIds_any (L : List UInt8) (w : World) (hL : L.length ≤ 100000) : Calls Tryd.prog 14 #[.string (str L)] w (IdsV L w) := by
  have C := Lib.hid (rcheck_any L w (by omega))
  by_cases hc : chkE L = 0
  · obtain ⟨l, rfl, h⟩ := set_of hc
    have CI := Lib.hid (fun W => rids_any l W h.lt (by have := h.few; omega))
    have HV : Hid (idsS (setL l) = (l, 0)) := Lib.hid (by unfold idsS; rw [if_neg (by rw [h.chk]; simp), h.ids])
    rw [hc] at C
    obtain ⟨S, hS⟩ : ∃ S, str (setL l) = S := ⟨_, rfl⟩
    rw [hS] at C CI ⊢
    clear hS h hc hL
    go_enter Tryd.func14, Tryd.ntmps14
    go_wp2_with fail
    refine C.out.mono ?_
    rintro e w1 ⟨rfl, hb1⟩
    go_wp2_with fail
    refine (CI.out _).mono ?_
    rintro e w2 ⟨v, rfl, hown, hb2⟩
    go_wp2_with fail
    go_ret2
    exact ⟨v, by rw [HV.out]; rfl, by rw [HV.out]; exact own_mono hown hb1.size, below_step hb1 hb2⟩
  · have HV : Hid (idsS L = ([], chkE L)) := Lib.hid (by unfold idsS; rw [if_pos hc])
    obtain ⟨e0, he0⟩ : ∃ e, chkE L = e := ⟨_, rfl⟩
    rw [he0] at hc C HV
    have hne : (e0 != 0) = true := bne_iff_ne.2 hc
    obtain ⟨S, hS⟩ : ∃ S, str L = S := ⟨_, rfl⟩
    rw [hS] at C ⊢
    clear hS hc he0 hL
    go_enter Tryd.func14, Tryd.ntmps14
    go_wp2_with fail
    refine C.out.mono ?_
    rintro e w1 ⟨rfl, hb1⟩
    go_wp2_with fail
    go_ret2
    exact ⟨.slice none 0 0, by rw [HV.out]; rfl, by rw [HV.out]; exact ⟨rfl, .inl ⟨rfl, rfl⟩⟩, hb1⟩
set_option maxRecDepth 50000 in
theorem rHas_any (A : List UInt8) (n : Int) (w : World) (hA : A.length ≤ 100000) :
    Calls Tryd.prog 19 #[.string (str A), .int .i64 n] w fun e w' => e = .returned (.tuple #[.bool (hasS A n).1, .int .i64 (hasS A n).2]) ∧ Below w.heap.size w w' := by
  have C := Lib.hid (rone_any A n w (by omega))
  by_cases hc : oneE A n = 0
  · obtain ⟨l, rfl, hl⟩ := set_of (oneE_ok hc).1
    obtain ⟨k, rfl⟩ : ∃ k : Nat, n = k := ⟨n.toNat, by have := (oneE_ok hc).2.1; omega⟩
    have hk : k < 65536 := by have := (oneE_ok hc).2.2; omega
    rw [hc] at C
    have C1 := Lib.hid (fun W => rhas_any l k W hl.lt (by have := hl.few; omega) hk)
    have HV : Hid (hasS (setL l) (k : Int) = (decide (k ∈ l), 0)) := Lib.hid (has_set hl hk)
    obtain ⟨b, hb⟩ : ∃ b, decide (k ∈ l) = b := ⟨_, rfl⟩
    rw [hb] at C1 HV
    clear hb
    obtain ⟨S, hS⟩ : ∃ S, str (setL l) = S := ⟨_, rfl⟩
    rw [hS] at C C1 ⊢
    clear hS hl hc hA
    go_enter Tryd.func19, Tryd.ntmps19
    go_wp2_with fail
    refine C.out.mono ?_
    rintro e w1 ⟨rfl, hb1⟩
    go_wp2_with fail
    refine (C1.out _).mono ?_
    rintro e w2 ⟨rfl, hb2⟩
    have hbA := below_step hb1 hb2
    go_wp2_with fail

    go_ret2
    exact ⟨by rw [HV.out]; rfl, hbA⟩
  · have HV : Hid (hasS A n = (false, oneE A n)) := Lib.hid (by unfold hasS; rw [decide_eq_false (fun h => hc h.1)])
    obtain ⟨e0, he0⟩ : ∃ e, oneE A n = e := ⟨_, rfl⟩
    rw [he0] at hc C HV
    have hne : (e0 != 0) = true := bne_iff_ne.2 hc
    have heq : (e0 == 0) = false := beq_eq_false_iff_ne.2 hc
    obtain ⟨S, hS⟩ : ∃ S, str A = S := ⟨_, rfl⟩
    rw [hS] at C ⊢
    clear hS hc he0 hA
    go_enter Tryd.func19, Tryd.ntmps19
    go_wp2_with fail
    refine C.out.mono ?_
    rintro e w1 ⟨rfl, hb1⟩
    go_wp2_with fail
    go_ret2
    exact ⟨by rw [HV.out]; rfl, hb1⟩
set_option maxRecDepth 50000 in
theorem rAdd_any (A : List UInt8) (n : Int) (w : World) (hA : A.length ≤ 100000) :
    Calls Tryd.prog 21 #[.string (str A), .int .i64 n] w fun e w' => e = .returned (strE (oneS true true true A n)) ∧ Below w.heap.size w w' := by
  have C := Lib.hid (rone_any A n w (by omega))
  by_cases hc : oneE A n = 0
  · obtain ⟨l, rfl, hl⟩ := set_of (oneE_ok hc).1
    obtain ⟨k, rfl⟩ : ∃ k : Nat, n = k := ⟨n.toNat, by have := (oneE_ok hc).2.1; omega⟩
    have hk : k < 65536 := by have := (oneE_ok hc).2.2; omega
    rw [hc] at C
    have C1 := Lib.hid (fun W => rwith_any l k W hl.up hl.lt (by have := hl.few; omega) hk)
    have C2 := Lib.hid (fun W => rset_any (mg true true true l [k]) W (by have := mg_len' true true true l [k]; have := hl.few; have e1 : ([k] : List Nat).length = 1 := rfl; omega))
    have HV := Lib.hid (one_set (f := true) (b := true) (s := true) hl hk)
    obtain ⟨R, hR⟩ : ∃ R, str (setL (mg true true true l [k])) = R := ⟨_, rfl⟩
    rw [hR] at C1 C2
    obtain ⟨S2, e2, h2⟩ := strE_two (outS (mg true true true l [k]))
    rw [h2] at C2
    have HV : Hid (strE (oneS true true true (setL l) (k : Int)) = .tuple #[.string S2, .int .i64 e2]) := Lib.hid (by rw [HV.out, h2])
    clear hR h2
    obtain ⟨S, hS⟩ : ∃ S, str (setL l) = S := ⟨_, rfl⟩
    rw [hS] at C C1 ⊢
    clear hS hl hc hA
    go_enter Tryd.func21, Tryd.ntmps21
    go_wp2_with fail
    refine C.out.mono ?_
    rintro e w1 ⟨rfl, hb1⟩
    go_wp2_with fail
    refine (C1.out _).mono ?_
    rintro e w2 ⟨rfl, hb2⟩
    have hbA := below_step hb1 hb2
    go_wp2_with fail
    refine (C2.out _).mono ?_
    rintro e w3 ⟨rfl, rfl⟩
    go_wp2_with fail
    go_ret2
    exact ⟨by rw [HV.out]; rfl, hbA⟩
  · have HV : Hid (strE (oneS true true true A n) = strE ([], oneE A n)) := Lib.hid (by rw [one_no hc])
    obtain ⟨e0, he0⟩ : ∃ e, oneE A n = e := ⟨_, rfl⟩
    rw [he0] at hc C HV
    have hne : (e0 != 0) = true := bne_iff_ne.2 hc
    have heq : (e0 == 0) = false := beq_eq_false_iff_ne.2 hc
    obtain ⟨S, hS⟩ : ∃ S, str A = S := ⟨_, rfl⟩
    rw [hS] at C ⊢
    clear hS hc he0 hA
    go_enter Tryd.func21, Tryd.ntmps21
    go_wp2_with fail
    refine C.out.mono ?_
    rintro e w1 ⟨rfl, hb1⟩
    go_wp2_with fail
    go_ret2
    exact ⟨by rw [HV.out]; rfl, hb1⟩
set_option maxRecDepth 50000 in
theorem rDrop_any (A : List UInt8) (n : Int) (w : World) (hA : A.length ≤ 100000) :
    Calls Tryd.prog 23 #[.string (str A), .int .i64 n] w fun e w' => e = .returned (strE (oneS true false false A n)) ∧ Below w.heap.size w w' := by
  have C := Lib.hid (rone_any A n w (by omega))
  by_cases hc : oneE A n = 0
  · obtain ⟨l, rfl, hl⟩ := set_of (oneE_ok hc).1
    obtain ⟨k, rfl⟩ : ∃ k : Nat, n = k := ⟨n.toNat, by have := (oneE_ok hc).2.1; omega⟩
    have hk : k < 65536 := by have := (oneE_ok hc).2.2; omega
    rw [hc] at C
    have C1 := Lib.hid (fun W => rwithout_any l k W hl.up hl.lt (by have := hl.few; omega) hk)
    have HV : Hid (strE (oneS true false false (setL l) (k : Int)) = .tuple #[.string (str (setL (mg true false false l [k]))), .int .i64 0]) := Lib.hid (by rw [one_set hl hk, out_ok (Nat.le_trans (mi_le l [k]) hl.few)]; rfl)
    obtain ⟨R, hR⟩ : ∃ R, str (setL (mg true false false l [k])) = R := ⟨_, rfl⟩
    rw [hR] at C1 HV
    clear hR
    obtain ⟨S, hS⟩ : ∃ S, str (setL l) = S := ⟨_, rfl⟩
    rw [hS] at C C1 ⊢
    clear hS hl hc hA
    go_enter Tryd.func23, Tryd.ntmps23
    go_wp2_with fail
    refine C.out.mono ?_
    rintro e w1 ⟨rfl, hb1⟩
    go_wp2_with fail
    refine (C1.out _).mono ?_
    rintro e w2 ⟨rfl, hb2⟩
    have hbA := below_step hb1 hb2
    go_wp2_with fail

    go_ret2
    exact ⟨by rw [HV.out]; rfl, hbA⟩
  · have HV : Hid (strE (oneS true false false A n) = strE ([], oneE A n)) := Lib.hid (by rw [one_no hc])
    obtain ⟨e0, he0⟩ : ∃ e, oneE A n = e := ⟨_, rfl⟩
    rw [he0] at hc C HV
    have hne : (e0 != 0) = true := bne_iff_ne.2 hc
    have heq : (e0 == 0) = false := beq_eq_false_iff_ne.2 hc
    obtain ⟨S, hS⟩ : ∃ S, str A = S := ⟨_, rfl⟩
    rw [hS] at C ⊢
    clear hS hc he0 hA
    go_enter Tryd.func23, Tryd.ntmps23
    go_wp2_with fail
    refine C.out.mono ?_
    rintro e w1 ⟨rfl, hb1⟩
    go_wp2_with fail
    go_ret2
    exact ⟨by rw [HV.out]; rfl, hb1⟩
set_option maxRecDepth 50000 in
theorem rFlip_any (A : List UInt8) (n : Int) (w : World) (hA : A.length ≤ 100000) :
    Calls Tryd.prog 25 #[.string (str A), .int .i64 n] w fun e w' => e = .returned (strE (oneS true false true A n)) ∧ Below w.heap.size w w' := by
  have C := Lib.hid (rHas_any A n w hA)
  have CA := Lib.hid (fun W => rAdd_any A n W hA)
  have CD := Lib.hid (fun W => rDrop_any A n W hA)
  obtain ⟨b, hb⟩ : ∃ b, (hasS A n).1 = b := ⟨_, rfl⟩
  obtain ⟨e0, he0⟩ : ∃ b, (hasS A n).2 = b := ⟨_, rfl⟩
  have he1 : e0 = oneE A n := by rw [← he0]; rfl
  rw [hb, he0] at C
  have HD : Hid (b = true → e0 = 0 ∧ oneS true false true A n = oneS true false false A n) := Lib.hid fun h => by
    rw [h] at hb
    have h1 := of_decide_eq_true hb
    obtain ⟨l, rfl, hl⟩ := set_of (oneE_ok h1.1).1
    obtain ⟨k, rfl⟩ : ∃ k : Nat, n = k := ⟨n.toNat, by have := (oneE_ok h1.1).2.1; omega⟩
    have hk : k < 65536 := by have := (oneE_ok h1.1).2.2; omega
    have h2 := h1.2
    rw [hl.ids, Int.toNat_natCast] at h2
    exact ⟨he1.trans h1.1, by rw [one_set hl hk, one_set hl hk, flip_in hl.up h2]⟩
  have HA : Hid (b = false → oneS true false true A n = oneS true true true A n) := Lib.hid fun h => by
    rw [h] at hb
    have h1 := of_decide_eq_false hb
    by_cases h0 : oneE A n = 0
    · obtain ⟨l, rfl, hl⟩ := set_of (oneE_ok h0).1
      obtain ⟨k, rfl⟩ : ∃ k : Nat, n = k := ⟨n.toNat, by have := (oneE_ok h0).2.1; omega⟩
      have hk : k < 65536 := by have := (oneE_ok h0).2.2; omega
      have h2 : k ∉ l := fun h => h1 ⟨h0, by rw [hl.ids, Int.toNat_natCast]; exact h⟩
      rw [one_set hl hk, one_set hl hk, flip_out hl.up h2]
    · rw [one_no h0, one_no h0]
  obtain ⟨S, hS⟩ : ∃ S, str A = S := ⟨_, rfl⟩
  rw [hS] at C CA CD ⊢
  clear hS hb he0 he1 hA
  cases b with
  | true =>
    obtain ⟨rfl, hv⟩ := HD.out rfl
    rw [hv]
    obtain ⟨S2, e2, h2⟩ := strE_two (oneS true false false A n)
    rw [h2] at CD ⊢
    clear HA HD CA h2 hv
    go_enter Tryd.func25, Tryd.ntmps25
    go_wp2_with fail
    refine C.out.mono ?_
    rintro e w1 ⟨rfl, hb1⟩
    go_wp2_with fail
    refine (CD.out _).mono ?_
    rintro e w2 ⟨rfl, hb2⟩
    have hbA := below_step hb1 hb2
    go_wp2_with fail
    go_ret2
    exact ⟨rfl, hbA⟩
  | false =>
    have hv := HA.out rfl
    rw [hv]
    obtain ⟨S2, e2, h2⟩ := strE_two (oneS true true true A n)
    rw [h2] at CA ⊢
    clear HA HD CD h2 hv
    by_cases hz : e0 = 0
    · subst hz
      go_enter Tryd.func25, Tryd.ntmps25
      go_wp2_with fail
      refine C.out.mono ?_
      rintro e w1 ⟨rfl, hb1⟩
      go_wp2_with fail
      refine (CA.out _).mono ?_
      rintro e w2 ⟨rfl, hb2⟩
      have hbA := below_step hb1 hb2
      go_wp2_with fail
      go_ret2
      exact ⟨rfl, hbA⟩
    · have heq : (e0 == 0) = false := beq_eq_false_iff_ne.2 hz
      clear hz
      go_enter Tryd.func25, Tryd.ntmps25
      go_wp2_with fail
      refine C.out.mono ?_
      rintro e w1 ⟨rfl, hb1⟩
      go_wp2_with fail
      refine (CA.out _).mono ?_
      rintro e w2 ⟨rfl, hb2⟩
      have hbA := below_step hb1 hb2
      go_wp2_with fail
      go_ret2
      exact ⟨rfl, hbA⟩
end Go.Proofs.YtchnmbfeaaialaaDoor
