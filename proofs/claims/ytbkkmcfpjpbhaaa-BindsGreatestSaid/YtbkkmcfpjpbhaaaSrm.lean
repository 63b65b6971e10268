/- The reference of layer 9: Union, Minus, Meet, Sub, Relate. -/
import Derived.Test.YtbkkmcfpjpbhaaaSrd
namespace Go.Proofs.Ytbkkmcfpjpbhaaa
open Go.RowKit Go.PlainAid

theorem asc_take {m : List Nat} (h : asc m) (k : Nat) : asc (m.take k) := List.Pairwise.sublist (List.take_sublist k m) h
theorem lt_take {m : List Nat} (h : ∀ n ∈ m, n < 65536) (k : Nat) : ∀ n ∈ m.take k, n < 65536 := fun n hn => h n (List.mem_of_mem_take hn)
theorem nat_own {w : World} {B n : Nat} {v : Value} {l : List Nat} (h : w.ownsRow B 3 1 v n (natC l)) (hn : l.length = n) : NatAt w v l :=
  num_nat (num_own (l := l.map fun n : Nat => (n : Int)) (by
    have e : intC (l.map fun n : Nat => (n : Int)) = natC l := by unfold intC natC; rw [List.map_map]; rfl
    rw [e]; exact h) (by rw [List.length_map, hn]))
set_option maxRecDepth 100000 in
set_option maxHeartbeats 3200000 in
theorem rMinus_any (A B : List UInt8) (w : World) (hA : A.length ≤ 100000) (hB : B.length ≤ 100000) :
    Calls Try.prog 50 #[.string (str A), .string (str B)] w fun e w' => e = .returned (strE (mrgS true false false A B)) ∧ Below w.heap.size w w' := by
  have C := Lib.hid (rtwo_any A B w (by omega) (by omega))
  by_cases hc : twoE A B = 0
  · obtain ⟨l, rfl, hl⟩ := set_of (twoE_ok hc).1
    obtain ⟨m, rfl, hm⟩ := set_of (twoE_ok hc).2
    have CI := Lib.hid (fun W => rids_any m W hm.lt (by have := hm.few; omega))
    have CW : Hid (∀ (k x : Nat) (W : World), m[k]? = some x → Calls Try.prog 57 #[.string (str (setL (mi l (m.take k)))), .int .i64 (x : Int)] W fun e w' => e = .returned (.string (str (setL (mi l (m.take (k + 1)))))) ∧ Below W.heap.size W w') := Lib.hid fun k x W hk => by
      have h1 := rwithout_any (mi l (m.take k)) x W (asc_mg' hl.up (asc_take hm.up k)) (mg_lt64 hl.up (asc_take hm.up k) hl.lt (lt_take hm.lt k)) (by have h2 := mg_len' true false false l (m.take k); have h3 := hl.few; have h4 := hm.few; rw [List.length_take] at h2; show (mg true false false l (m.take k)).length ≤ _; omega) (hm.lt x (List.mem_of_getElem? hk))
      rw [show mg true false false (mi l (m.take k)) [x] = mi l (m.take (k + 1)) from mi_cut hl.up hm.up hk] at h1
      exact h1
    have HV : Hid (strE (mrgS true false false (setL l) (setL m)) = .tuple #[.string (str (setL (mi l m))), .int .i64 0]) := Lib.hid (by rw [mrg_set hl hm, out_ok (Nat.le_trans (mi_le l m) hl.few)]; rfl)
    obtain ⟨F, hF⟩ : ∃ F : Nat → ByteArray, ∀ k, str (setL (mi l (m.take k))) = F k := ⟨_, fun _ => rfl⟩
    obtain ⟨n, hn⟩ : ∃ n, m.length = n := ⟨_, rfl⟩
    have hF0 : str (setL l) = F 0 := by rw [← hF, List.take_zero]; show _ = str (setL (mg true false false l [])); rw [mg_nil2]; rfl
    have hFn : str (setL (mi l m)) = F n := by rw [← hF, List.take_of_length_le (by omega)]
    simp only [hF] at CW
    rw [hFn] at HV
    have HL := Lib.hid hn
    have hnb : n ≤ 10000 := by rw [← hn]; exact hm.few
    rw [hc] at C
    rw [hn] at CI
    rw [hF0] at C ⊢
    obtain ⟨T, hT⟩ : ∃ S, str (setL m) = S := ⟨_, rfl⟩
    rw [hT] at C CI ⊢
    clear hT hF hF0 hFn hl hm hc hA hB hn
    go_enter Try.func50, Try.ntmps50
    go_wp2_with fail
    refine C.out.mono ?_
    rintro e w1 ⟨rfl, hb1⟩
    go_wp2_with fail
    refine (CI.out _).mono ?_
    rintro e w2 ⟨v, rfl, hown, hb2⟩
    have hB2 := below_step hb1 hb2
    obtain ⟨a, n', c, rfl, hn', hcap, hrow⟩ := nat_own hown HL.out
    obtain rfl : n' = n := hn'.trans HL.out
    have HR := Lib.hid hrow
    have HB2 := Lib.hid hB2
    clear hown hrow hcap hn'
    go_wp2_with fail
    -- MARK1
    go_loopw [0, 8] (fun x0 x8 wr => ∃ (k : Nat), x8 = .int .i64 (k : Int) ∧ k ≤ n' ∧ x0 = .string (F k) ∧ Below w2.heap.size w2 wr) (fun _ x8 _ => n' - (intOf x8).toNat)
    case atStart => exact ⟨0, rfl, Nat.zero_le _, rfl, Below.refl _ _⟩
    case round =>
      obtain ⟨k, rfl, hk, rfl, hbel⟩ := hrel
      by_cases hlt : k < n'
      · obtain ⟨x, hxk⟩ : ∃ x, m[k]? = some x := ⟨_, List.getElem?_eq_getElem (by rw [HL.out]; exact hlt)⟩
        rcases HR.out with hl0 | ⟨g, off, rfl, hg, hcell⟩
        · rw [hl0] at hxk; cases hxk
        have c0 := (hbel.cell (p := ⟨g, off + k, none⟩) hg).trans (hcell k x hxk)
        have hd : decide ((k : Int) < (n' : Int)) = true := decide_eq_true (by omega)
        have hk0 : (0 : Int) ≤ (k : Int) := Int.natCast_nonneg _
        have hk1 : (k : Int) < (n' : Int) := by omega
        have CWk := Lib.hid (fun W => CW.out k x W hxk)
        clear hcell hxk
        go_wp2_with fail
        -- MARK2
        refine (CWk.out _).mono ?_
        rintro e w3 ⟨rfl, hb3⟩
        have hB3 := below_step hbel hb3
        go_wp2_with fail
        exact ⟨⟨k + 1, by go_num, by omega, rfl, hB3⟩, by simp [intOf]; omega⟩
      · obtain rfl : k = n' := by omega
        have hd : decide ((k : Int) < (k : Int)) = false := decide_eq_false (Int.lt_irrefl _)
        have hBE := below_step HB2.out hbel
        go_wp2_with fail
        go_ret2
        exact ⟨by rw [HV.out]; rfl, hBE⟩
  · have HV : Hid (strE (mrgS true false false A B) = strE ([], twoE A B)) := Lib.hid (by rw [mrg_no hc])
    obtain ⟨e0, he0⟩ : ∃ e, twoE A B = e := ⟨_, rfl⟩
    rw [he0] at hc C HV
    have hne : (e0 != 0) = true := bne_iff_ne.2 hc
    have heq : (e0 == 0) = false := beq_eq_false_iff_ne.2 hc
    obtain ⟨S, hS⟩ : ∃ S, str A = S := ⟨_, rfl⟩
    obtain ⟨T, hT⟩ : ∃ S, str B = S := ⟨_, rfl⟩
    rw [hS, hT] at C ⊢
    clear hS hT hc he0 hA hB
    go_enter Try.func50, Try.ntmps50
    go_wp2_with fail
    refine C.out.mono ?_
    rintro e w1 ⟨rfl, hb1⟩
    go_wp2_with fail
    go_ret2
    exact ⟨by rw [HV.out]; rfl, hb1⟩
set_option maxRecDepth 100000 in
set_option maxHeartbeats 3200000 in
theorem rUnion_any (A B : List UInt8) (w : World) (hA : A.length ≤ 100000) (hB : B.length ≤ 100000) :
    Calls Try.prog 27 #[.string (str A), .string (str B)] w fun e w' => e = .returned (strE (mrgS true true true A B)) ∧ Below w.heap.size w w' := by
  have C := Lib.hid (rtwo_any A B w (by omega) (by omega))
  by_cases hc : twoE A B = 0
  · obtain ⟨l, rfl, hl⟩ := set_of (twoE_ok hc).1
    obtain ⟨m, rfl, hm⟩ := set_of (twoE_ok hc).2
    have CI := Lib.hid (fun W => rids_any m W hm.lt (by have := hm.few; omega))
    have CW : Hid (∀ (k x : Nat) (W : World), m[k]? = some x → Calls Try.prog 43 #[.string (str (setL (un l (m.take k)))), .int .i64 (x : Int)] W fun e w' => e = .returned (.string (str (setL (un l (m.take (k + 1)))))) ∧ Below W.heap.size W w') := Lib.hid fun k x W hk => by
      have h1 := rwith_any (un l (m.take k)) x W (asc_mg' hl.up (asc_take hm.up k)) (mg_lt64 hl.up (asc_take hm.up k) hl.lt (lt_take hm.lt k)) (by have h2 := mg_len' true true true l (m.take k); have h3 := hl.few; have h4 := hm.few; rw [List.length_take] at h2; show (mg true true true l (m.take k)).length ≤ _; omega) (hm.lt x (List.mem_of_getElem? hk))
      rw [show mg true true true (un l (m.take k)) [x] = un l (m.take (k + 1)) from un_put hl.up hm.up hk] at h1
      exact h1
    have CE := Lib.hid (fun W => rset_any (un l m) W (by have h2 := mg_len' true true true l m; have h3 := hl.few; have h4 := hm.few; show (mg true true true l m).length ≤ _; omega))
    obtain ⟨S2, e2, h2⟩ := strE_two (outS (un l m))
    have HV : Hid (strE (mrgS true true true (setL l) (setL m)) = .tuple #[.string S2, .int .i64 e2]) := Lib.hid (by rw [mrg_set hl hm]; exact h2)
    rw [h2] at CE
    clear h2
    obtain ⟨F, hF⟩ : ∃ F : Nat → ByteArray, ∀ k, str (setL (un l (m.take k))) = F k := ⟨_, fun _ => rfl⟩
    obtain ⟨n, hn⟩ : ∃ n, m.length = n := ⟨_, rfl⟩
    have hF0 : str (setL l) = F 0 := by rw [← hF, List.take_zero]; show _ = str (setL (mg true true true l [])); rw [mg_nil2]; rfl
    have hFn : str (setL (un l m)) = F n := by rw [← hF, List.take_of_length_le (by omega)]
    simp only [hF] at CW
    rw [hFn] at CE
    have HL := Lib.hid hn
    have hnb : n ≤ 10000 := by rw [← hn]; exact hm.few
    rw [hc] at C
    rw [hn] at CI
    rw [hF0] at C ⊢
    obtain ⟨T, hT⟩ : ∃ S, str (setL m) = S := ⟨_, rfl⟩
    rw [hT] at C CI ⊢
    clear hT hF hF0 hFn hl hm hc hA hB hn
    go_enter Try.func27, Try.ntmps27
    go_wp2_with fail
    refine C.out.mono ?_
    rintro e w1 ⟨rfl, hb1⟩
    go_wp2_with fail
    refine (CI.out _).mono ?_
    rintro e w2 ⟨v, rfl, hown, hb2⟩
    have hB2 := below_step hb1 hb2
    obtain ⟨a, n', c, rfl, hn', hcap, hrow⟩ := nat_own hown HL.out
    obtain rfl : n' = n := hn'.trans HL.out
    have HR := Lib.hid hrow
    have HB2 := Lib.hid hB2
    clear hown hrow hcap hn'
    go_wp2_with fail
    -- MARK1
    go_loopw [0, 8] (fun x0 x8 wr => ∃ (k : Nat), x8 = .int .i64 (k : Int) ∧ k ≤ n' ∧ x0 = .string (F k) ∧ Below w2.heap.size w2 wr) (fun _ x8 _ => n' - (intOf x8).toNat)
    case atStart => exact ⟨0, rfl, Nat.zero_le _, rfl, Below.refl _ _⟩
    case round =>
      obtain ⟨k, rfl, hk, rfl, hbel⟩ := hrel
      by_cases hlt : k < n'
      · obtain ⟨x, hxk⟩ : ∃ x, m[k]? = some x := ⟨_, List.getElem?_eq_getElem (by rw [HL.out]; exact hlt)⟩
        rcases HR.out with hl0 | ⟨g, off, rfl, hg, hcell⟩
        · rw [hl0] at hxk; cases hxk
        have c0 := (hbel.cell (p := ⟨g, off + k, none⟩) hg).trans (hcell k x hxk)
        have hd : decide ((k : Int) < (n' : Int)) = true := decide_eq_true (by omega)
        have hk0 : (0 : Int) ≤ (k : Int) := Int.natCast_nonneg _
        have hk1 : (k : Int) < (n' : Int) := by omega
        have CWk := Lib.hid (fun W => CW.out k x W hxk)
        clear hcell hxk
        go_wp2_with fail
        -- MARK2
        refine (CWk.out _).mono ?_
        rintro e w3 ⟨rfl, hb3⟩
        have hB3 := below_step hbel hb3
        go_wp2_with fail
        exact ⟨⟨k + 1, by go_num, by omega, rfl, hB3⟩, by simp [intOf]; omega⟩
      · obtain rfl : k = n' := by omega
        have hd : decide ((k : Int) < (k : Int)) = false := decide_eq_false (Int.lt_irrefl _)
        have hBE := below_step HB2.out hbel
        go_wp2_with fail
        refine (CE.out _).mono ?_
        rintro e w3 ⟨rfl, rfl⟩
        go_wp2_with fail
        go_ret2
        exact ⟨by rw [HV.out]; rfl, hBE⟩
  · have HV : Hid (strE (mrgS true true true A B) = strE ([], twoE A B)) := Lib.hid (by rw [mrg_no hc])
    obtain ⟨e0, he0⟩ : ∃ e, twoE A B = e := ⟨_, rfl⟩
    rw [he0] at hc C HV
    have hne : (e0 != 0) = true := bne_iff_ne.2 hc
    have heq : (e0 == 0) = false := beq_eq_false_iff_ne.2 hc
    obtain ⟨S, hS⟩ : ∃ S, str A = S := ⟨_, rfl⟩
    obtain ⟨T, hT⟩ : ∃ S, str B = S := ⟨_, rfl⟩
    rw [hS, hT] at C ⊢
    clear hS hT hc he0 hA hB
    go_enter Try.func27, Try.ntmps27
    go_wp2_with fail
    refine C.out.mono ?_
    rintro e w1 ⟨rfl, hb1⟩
    go_wp2_with fail
    go_ret2
    exact ⟨by rw [HV.out]; rfl, hb1⟩
set_option maxRecDepth 100000 in
theorem rSub_any (A B : List UInt8) (w : World) (hA : A.length ≤ 100000) (hB : B.length ≤ 100000) :
    Calls Try.prog 39 #[.string (str A), .string (str B)] w fun e w' => e = .returned (.tuple #[.bool (subS A B).1, .int .i64 (subS A B).2]) ∧ Below w.heap.size w w' := by
  have C := Lib.hid (rMinus_any A B w hA hB)
  by_cases hc : twoE A B = 0
  · obtain ⟨l, rfl, hl⟩ := set_of (twoE_ok hc).1
    obtain ⟨m, rfl, hm⟩ := set_of (twoE_ok hc).2
    rw [mrg_set hl hm, out_ok (Nat.le_trans (mi_le l m) hl.few), strE_l] at C
    obtain ⟨b, hb⟩ : ∃ b, decide (∀ z ∈ l, z ∈ m) = b := ⟨_, rfl⟩
    have HV : Hid (subS (setL l) (setL m) = (b, 0)) := Lib.hid (by rw [sub_set hl hm, hb])
    obtain ⟨S, hS⟩ : ∃ S, str (setL l) = S := ⟨_, rfl⟩
    obtain ⟨T, hT⟩ : ∃ S, str (setL m) = S := ⟨_, rfl⟩
    obtain ⟨D, hD⟩ : ∃ S, str (setL (mg true false false l m)) = S := ⟨_, rfl⟩
    have hz : D.toList.isEmpty = b := by
      rw [← hD, ByteArray.toList_eq, str_list, ← hb, Bool.eq_iff_iff, List.isEmpty_iff, decide_eq_true_iff, set_nil]
      exact sub_mi hl.up hm.up
    rw [hD] at C
    rw [hS, hT] at C ⊢
    clear hS hT hD hl hm hc hA hB hb
    go_enter Try.func39, Try.ntmps39
    go_wp2_with fail
    refine C.out.mono ?_
    rintro e w1 ⟨rfl, hb1⟩
    go_wp2_with fail
    go_ret2
    exact ⟨by rw [HV.out]; rfl, hb1⟩
  · have HV : Hid (subS A B = (false, twoE A B)) := Lib.hid (by unfold subS; rw [decide_eq_false (fun h => hc h.1)])
    rw [mrg_no hc, strE_l] at C
    obtain ⟨e0, he0⟩ : ∃ e, twoE A B = e := ⟨_, rfl⟩
    rw [he0] at hc C HV
    have hne : (e0 != 0) = true := bne_iff_ne.2 hc
    have heq : (e0 == 0) = false := beq_eq_false_iff_ne.2 hc
    obtain ⟨S, hS⟩ : ∃ S, str A = S := ⟨_, rfl⟩
    obtain ⟨T, hT⟩ : ∃ S, str B = S := ⟨_, rfl⟩
    rw [hS, hT] at C ⊢
    clear hS hT hc he0 hA hB
    go_enter Try.func39, Try.ntmps39
    go_wp2_with fail
    refine C.out.mono ?_
    rintro e w1 ⟨rfl, hb1⟩
    go_wp2_with fail
    go_ret2
    exact ⟨by rw [HV.out]; rfl, hb1⟩
-- MARK9
end Go.Proofs.Ytbkkmcfpjpbhaaa
