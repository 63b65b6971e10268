/- The law ScopesSubsets. -/
import Derived.Test.YtchnmbfeaaialaaDoorSw
namespace Go.Proofs.YtchnmbfeaaialaaDoor
open Go.RowKit Go.PlainAid

set_option maxRecDepth 100000 in
set_option maxHeartbeats 6400000 in
theorem lawLs_any (SA SB SC : ByteArray) (w : World) (T : STab w) :
    Calls Tryd.prog 8 #[.string SA, .string SB, .string SC] w fun e w' => e = .returned (.bool true) ∧ Below w.heap.size w w' := by
  have CAw := Lib.hid (fun W (hW : Below w.heap.size w W) => awake_any W (T.below hW))
  clear T
  obtain ⟨A, hA, lA⟩ := str_of SA
  obtain ⟨B, hB, lB⟩ := str_of SB
  obtain ⟨C, hC, lC⟩ := str_of SC
  by_cases h0 : 300 < SA.size
  · have d0 : decide ((300 : Int) < (SA.size : Int)) = true := decide_eq_true (by omega)
    go_enter Tryd.func8, Tryd.ntmps8
    go_wp2_with fail
    refine (CAw.out _ (Below.refl _ _)).mono ?_
    rintro e w9 ⟨rfl, hb9⟩
    go_wp2_with fail
    go_ret
    exact ⟨rfl, hb9⟩
  have d0 : decide ((300 : Int) < (SA.size : Int)) = false := decide_eq_false (by omega)
  by_cases h1 : 300 < SB.size
  · have d1 : decide ((300 : Int) < (SB.size : Int)) = true := decide_eq_true (by omega)
    go_enter Tryd.func8, Tryd.ntmps8
    go_wp2_with fail
    refine (CAw.out _ (Below.refl _ _)).mono ?_
    rintro e w9 ⟨rfl, hb9⟩
    go_wp2_with fail
    go_ret
    exact ⟨rfl, hb9⟩
  have d1 : decide ((300 : Int) < (SB.size : Int)) = false := decide_eq_false (by omega)
  by_cases h2 : 300 < SC.size
  · have d2 : decide ((300 : Int) < (SC.size : Int)) = true := decide_eq_true (by omega)
    go_enter Tryd.func8, Tryd.ntmps8
    go_wp2_with fail
    refine (CAw.out _ (Below.refl _ _)).mono ?_
    rintro e w9 ⟨rfl, hb9⟩
    go_wp2_with fail
    go_ret
    exact ⟨rfl, hb9⟩
  have d2 : decide ((300 : Int) < (SC.size : Int)) = false := decide_eq_false (by omega)
  have K0 := Lib.hid (fun W => check_any A W (by omega))
  rw [hA] at K0
  have K1 := Lib.hid (fun W => check_any B W (by omega))
  rw [hB] at K1
  have K2 := Lib.hid (fun W => check_any C W (by omega))
  rw [hC] at K2
  by_cases g0 : chkE A = 0
  case neg =>
    have n0 : (chkE A != 0) = true := bne_iff_ne.2 g0
    obtain ⟨q0, hq0⟩ : ∃ q, chkE A = q := ⟨_, rfl⟩
    rw [hq0] at n0 K0
    clear g0 hq0
    go_enter Tryd.func8, Tryd.ntmps8
    go_wp2_with fail
    refine (K0.out _).mono ?_
    rintro e w1 ⟨rfl, hb1⟩
    have hB1 := hb1
    go_wp2_with fail
    refine (CAw.out _ hB1).mono ?_
    rintro e w9 ⟨rfl, hb9⟩
    go_wp2_with fail
    go_ret
    exact ⟨rfl, below_step hB1 hb9⟩
  rw [g0] at K0
  by_cases g1 : chkE B = 0
  case neg =>
    have n1 : (chkE B != 0) = true := bne_iff_ne.2 g1
    obtain ⟨q1, hq1⟩ : ∃ q, chkE B = q := ⟨_, rfl⟩
    rw [hq1] at n1 K1
    clear g1 hq1
    go_enter Tryd.func8, Tryd.ntmps8
    go_wp2_with fail
    refine (K0.out _).mono ?_
    rintro e w1 ⟨rfl, hb1⟩
    have hB1 := hb1
    go_wp2_with fail
    refine (K1.out _).mono ?_
    rintro e w2 ⟨rfl, hb2⟩
    have hB2 := below_step hB1 hb2
    go_wp2_with fail
    refine (CAw.out _ hB2).mono ?_
    rintro e w9 ⟨rfl, hb9⟩
    go_wp2_with fail
    go_ret
    exact ⟨rfl, below_step hB2 hb9⟩
  rw [g1] at K1
  by_cases g2 : chkE C = 0
  case neg =>
    have n2 : (chkE C != 0) = true := bne_iff_ne.2 g2
    obtain ⟨q2, hq2⟩ : ∃ q, chkE C = q := ⟨_, rfl⟩
    rw [hq2] at n2 K2
    clear g2 hq2
    go_enter Tryd.func8, Tryd.ntmps8
    go_wp2_with fail
    refine (K0.out _).mono ?_
    rintro e w1 ⟨rfl, hb1⟩
    have hB1 := hb1
    go_wp2_with fail
    refine (K1.out _).mono ?_
    rintro e w2 ⟨rfl, hb2⟩
    have hB2 := below_step hB1 hb2
    go_wp2_with fail
    refine (K2.out _).mono ?_
    rintro e w3 ⟨rfl, hb3⟩
    have hB3 := below_step hB2 hb3
    go_wp2_with fail
    refine (CAw.out _ hB3).mono ?_
    rintro e w9 ⟨rfl, hb9⟩
    go_wp2_with fail
    go_ret
    exact ⟨rfl, below_step hB3 hb9⟩
  rw [g2] at K2
  obtain ⟨a, eA, ha⟩ := set_of g0
  obtain ⟨b, eB, hb⟩ := set_of g1
  obtain ⟨c, eC, hc⟩ := set_of g2
  have fa := few_of eA (by omega)
  have fb := few_of eB (by omega)
  have fc := few_of eC (by omega)
  rw [eA] at hA
  rw [eB] at hB
  rw [eC] at hC
  clear lA lB lC eA eB eC g0 g1 g2 h0 h1 h2
  have mab : SetOf (me a b) := SetOf.mg ha hb (Nat.le_trans (ml a b) (by omega))
  have dab : SetOf (mi a b) := SetOf.mg ha hb (Nat.le_trans (dl a b) (by omega))
  have sab : SetOf (un a b) := SetOf.mg ha hb (Nat.le_trans (ul a b) (by omega))
  have lab := ul a b
  have kab := ml a b
  have jab := dl a b
  have S1 := Lib.hid (fun W => subS_c ha hb W)
  have S2 := Lib.hid (fun W => subS_c hb hc W)
  have S3 := Lib.hid (fun W => subS_c ha hc W)
  have S4 := Lib.hid (fun W => subS_c hb ha W)
  have U1 := Lib.hid (fun W => unionS ha hb (by omega) W)
  have M1 := Lib.hid (fun W => meetS ha hb (by omega) W)
  have D1 := Lib.hid (fun W => minusS ha hb (by omega) W)
  have U2 := Lib.hid (fun W => unionS dab mab (by rw [mi_me ha.up hb.up]; omega) W)
  have M2 := Lib.hid (fun W => meetS dab hb (by rw [mi_none ha.up hb.up]; exact Nat.zero_le _) W)
  have R1 := Lib.hid (fun W => rel_any (setL a) (setL b) W (by rw [setL_len]; omega) (by rw [setL_len]; omega))
  rw [mi_me ha.up hb.up] at U2
  rw [mi_none ha.up hb.up] at M2
  obtain ⟨i1, hi1⟩ : ∃ q, decide (∀ z ∈ a, z ∈ b) = q := ⟨_, rfl⟩
  obtain ⟨i2, hi2⟩ : ∃ q, decide (∀ z ∈ b, z ∈ c) = q := ⟨_, rfl⟩
  obtain ⟨i3, hi3⟩ : ∃ q, decide (∀ z ∈ a, z ∈ c) = q := ⟨_, rfl⟩
  obtain ⟨i4, hi4⟩ : ∃ q, decide (∀ z ∈ b, z ∈ a) = q := ⟨_, rfl⟩
  have F1 : ((str (setL (un a b))).toList == SB.toList) = i1 := by
    rw [← hB, str_eqb, ← hi1, Bool.eq_iff_iff, decide_eq_true_iff, decide_eq_true_iff, set_eq sab hb]; exact sub_un ha.up hb.up
  have F2 : ((str (setL (me a b))).toList == SA.toList) = i1 := by
    rw [← hA, str_eqb, ← hi1, Bool.eq_iff_iff, decide_eq_true_iff, decide_eq_true_iff, set_eq mab ha]; exact sub_me ha.up hb.up
  have F3 : (str (setL (mi a b))).toList.isEmpty = i1 := by
    rw [empty_eq, str_size, setL_len, ← hi1, Bool.eq_iff_iff, decide_eq_true_iff, decide_eq_true_iff, ← sub_mi ha.up hb.up, ← List.length_eq_zero_iff]
    have : ∀ q : Nat, 2 * q = 0 ↔ q = 0 := fun q => by omega
    exact this _
  have F4 : (SA.toList == SB.toList) = (i1 && i4) := by
    rw [← hA, ← hB, str_eqb, ← hi1, ← hi4, Bool.eq_iff_iff, Bool.and_eq_true, decide_eq_true_iff, decide_eq_true_iff, decide_eq_true_iff, set_eq ha hb]
    exact ⟨fun e => by subst e; exact ⟨fun _ h => h, fun _ h => h⟩, fun h => asc_ext ha.up hb.up fun z => ⟨h.1 z, h.2 z⟩⟩
  have F5 : i1 = true → i2 = true → i3 = true := fun h1 h2 => by
    rw [← hi1, decide_eq_true_iff] at h1
    rw [← hi2, decide_eq_true_iff] at h2
    rw [← hi3, decide_eq_true_iff]
    exact fun z hz => h2 z (h1 z hz)
  have F6 : (str (setL [])).toList.isEmpty = true := by rw [empty_eq]; rfl
  have FR : relS (setL a) (setL b) = if i1 && i4 then (0, 0) else if i1 then (1, 0) else if i4 then (2, 0) else (3, 0) := by
    unfold relS
    rw [if_neg (by rw [twoE_set ha.chk hb.chk]; simp), sub_set ha hb, sub_set hb ha, hi1, hi4]
    have : (setL a = setL b) ↔ (i1 && i4) = true := by rw [← F4, ← hA, ← hB, str_eqb, decide_eq_true_iff]
    by_cases h : setL a = setL b
    · rw [if_pos h, if_pos (this.1 h)]
    · rw [if_neg h, if_neg (fun h2 => h (this.2 h2))]
  rw [FR] at R1
  rw [hi1] at S1
  rw [hi2] at S2
  rw [hi3] at S3
  rw [hi4] at S4
  rw [hA] at S1 S3 S4 U1 M1 D1 U2 R1
  rw [hB] at S1 S2 S4 U1 M1 D1 M2 R1
  rw [hC] at S2 S3
  obtain ⟨Uab, e1⟩ : ∃ q, str (setL (un a b)) = q := ⟨_, rfl⟩
  obtain ⟨Mab, e2⟩ : ∃ q, str (setL (me a b)) = q := ⟨_, rfl⟩
  obtain ⟨Dab, e3⟩ : ∃ q, str (setL (mi a b)) = q := ⟨_, rfl⟩
  obtain ⟨Zz, e4⟩ : ∃ q, str (setL []) = q := ⟨_, rfl⟩
  rw [e1] at U1 F1
  rw [e2] at M1 U2 F2
  rw [e3] at D1 U2 M2 F3
  rw [e4] at M2 F6
  clear e1 e2 e3 e4 hA hB hC sab mab dab lab kab jab hi1 hi2 hi3 hi4 FR ha hb hc fa fb fc
  have hcase : (i1 = false) ∨ (i1 = true ∧ i2 = false) ∨ (i1 = true ∧ i2 = true ∧ i3 = true) := by
    cases i1
    · exact .inl rfl
    · cases i2
      · exact .inr (.inl ⟨rfl, rfl⟩)
      · exact .inr (.inr ⟨rfl, rfl, F5 rfl rfl⟩)
  clear F5
  rcases hcase with rfl | ⟨rfl, rfl⟩ | ⟨rfl, rfl, rfl⟩ <;> cases i4
  all_goals simp only [Bool.and_true, Bool.and_false, if_true, if_false, Bool.false_eq_true] at R1 F4
  all_goals
    go_enter Tryd.func8, Tryd.ntmps8
    go_wp2_with fail
    refine (K0.out _).mono ?_
    rintro e w1 ⟨rfl, hb1⟩
    have hB1 := hb1
    go_wp2_with fail
    refine (K1.out _).mono ?_
    rintro e w2 ⟨rfl, hb2⟩
    have hB2 := below_step hB1 hb2
    go_wp2_with fail
    refine (K2.out _).mono ?_
    rintro e w3 ⟨rfl, hb3⟩
    have hB3 := below_step hB2 hb3
    go_wp2_with fail
    refine (S1.out _).mono ?_
    rintro e w4 ⟨rfl, hb4⟩
    have hB4 := below_step hB3 hb4
    go_wp2_with fail
    refine (U1.out _).mono ?_
    rintro e w5 ⟨rfl, hb5⟩
    have hB5 := below_step hB4 hb5
    go_wp2_with fail
    refine (M1.out _).mono ?_
    rintro e w6 ⟨rfl, hb6⟩
    have hB6 := below_step hB5 hb6
    go_wp2_with fail
    refine (D1.out _).mono ?_
    rintro e w7 ⟨rfl, hb7⟩
    have hB7 := below_step hB6 hb7
    go_wp2_with fail
    refine (U2.out _).mono ?_
    rintro e w8 ⟨rfl, hb8⟩
    have hB8 := below_step hB7 hb8
    go_wp2_with fail
    refine (M2.out _).mono ?_
    rintro e w9 ⟨rfl, hb9⟩
    have hB9 := below_step hB8 hb9
    go_wp2_with fail
    refine (S2.out _).mono ?_
    rintro e w10 ⟨rfl, hb10⟩
    have hB10 := below_step hB9 hb10
    go_wp2_with fail
    refine (S3.out _).mono ?_
    rintro e w11 ⟨rfl, hb11⟩
    have hB11 := below_step hB10 hb11
    go_wp2_with fail
    refine (S4.out _).mono ?_
    rintro e w12 ⟨rfl, hb12⟩
    have hB12 := below_step hB11 hb12
    go_wp2_with fail
    refine (R1.out _).mono ?_
    rintro e w13 ⟨rfl, hb13⟩
    have hB13 := below_step hB12 hb13
    go_wp2_with fail
    refine (CAw.out _ hB13).mono ?_
    rintro e wz ⟨rfl, hbz⟩
    go_wp2_with fail
    go_ret
    exact ⟨rfl, below_step hB13 hbz⟩
end Go.Proofs.YtchnmbfeaaialaaDoor
