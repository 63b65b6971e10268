/- The law ScopesChecks. -/
import Derived.Test.YtchnmbfeaaialaaDoorSlf
import Derived.Test.YtchnmbfeaaialaaDoorSro
import Derived.Test.YtchnmbfeaaialaaDoorSarg
namespace Go.Proofs.YtchnmbfeaaialaaDoor
open Go.RowKit Go.PlainAid

set_option maxRecDepth 100000 in
set_option maxHeartbeats 12800000 in
theorem lawCk_any (SA : ByteArray) (v : Value) (l : List Int) (w : World) (hv : NumAt w v l) (T : STab w) :
    Calls Tryd.prog 3 #[.string SA, v] w fun e w' => e = .returned (.bool true) ∧ Below w.heap.size w w' := by
  have CAw := Lib.hid (fun W (hW : Below w.heap.size w W) => awake_any W (T.below hW))
  clear T
  have CF := Lib.hid (far_any SA w)
  have HVw := Lib.hid (fun W (hW : Below w.heap.size w W) => hv.below hW (Nat.le_refl _))
  obtain ⟨a, n, c, rfl, hn, _, _⟩ := hv
  obtain ⟨A, hA, lA⟩ := str_of SA
  by_cases hf : farB SA.size = true
  · rw [hf] at CF
    clear hf lA hA
    go_enter Tryd.func3, Tryd.ntmps3
    go_wp2_with fail
    refine CF.out.mono ?_
    rintro e w0 ⟨rfl, rfl⟩
    go_wp2_with fail
    refine (CAw.out _ (Below.refl _ _)).mono ?_
    rintro e w9 ⟨rfl, hb9⟩
    go_wp2_with fail
    go_ret
    exact ⟨rfl, hb9⟩
  rw [Bool.not_eq_true] at hf
  have hlen := far_no hf
  rw [hf] at CF
  clear hf
  by_cases h3 : 10010 < n
  · have d3 : decide ((10010 : Int) < (n : Int)) = true := decide_eq_true (by omega)
    have d1 : decide ((300 : Int) < (n : Int)) = true := decide_eq_true (by omega)
    have d2 : decide ((n : Int) < (9990 : Int)) = false := decide_eq_false (by omega)
    go_enter Tryd.func3, Tryd.ntmps3
    go_wp2_with fail
    refine CF.out.mono ?_
    rintro e w0 ⟨rfl, rfl⟩
    go_wp2_with fail
    refine (CAw.out _ (Below.refl _ _)).mono ?_
    rintro e w9 ⟨rfl, hb9⟩
    go_wp2_with fail
    go_ret
    exact ⟨rfl, hb9⟩
  have d3 : decide ((10010 : Int) < (n : Int)) = false := decide_eq_false (by omega)
  by_cases h1 : 300 < n ∧ n < 9990
  · have d1 : decide ((300 : Int) < (n : Int)) = true := decide_eq_true (by omega)
    have d2 : decide ((n : Int) < (9990 : Int)) = true := decide_eq_true (by omega)
    go_enter Tryd.func3, Tryd.ntmps3
    go_wp2_with fail
    refine CF.out.mono ?_
    rintro e w0 ⟨rfl, rfl⟩
    go_wp2_with fail
    refine (CAw.out _ (Below.refl _ _)).mono ?_
    rintro e w9 ⟨rfl, hb9⟩
    go_wp2_with fail
    go_ret
    exact ⟨rfl, hb9⟩
  have O1 := Lib.hid (fun W hW => of_any _ l W (HVw.out W hW) (by omega))
  have O2 := Lib.hid (fun W hW => rOf_any _ l W (HVw.out W hW) (by omega))
  have I1 := Lib.hid (fun W => idsP_any A W (by omega))
  have I2 := Lib.hid (fun W => rIds_any A W (by omega))
  have K1 := Lib.hid (fun W => check_any A W (by omega))
  have K2 := Lib.hid (fun W => rcheck_any A W (by omega))
  unfold IdsV at I1 I2
  have hLl : (idsS A).1.length ≤ 1000000 := by
    unfold idsS
    split
    · exact Nat.zero_le _
    · show (idsL A).length ≤ _; rw [ids_len]; omega
  obtain ⟨⟨L, e3⟩, hL⟩ : ∃ r, idsS A = r := ⟨_, rfl⟩
  rw [hL] at I1 I2 hLl
  obtain ⟨⟨R, e4⟩, hR⟩ : ∃ r, ofS l = r := ⟨_, rfl⟩
  rw [hR] at O1 O2
  simp only at O1 O2 I1 I2 hLl
  obtain ⟨RS, hRS⟩ : ∃ r, str R = r := ⟨_, rfl⟩
  rw [hRS] at O1 O2
  obtain ⟨e5, he5⟩ : ∃ r, chkE A = r := ⟨_, rfl⟩
  rw [he5] at K1 K2
  rw [hA] at I1 I2 K1 K2
  have CN := Lib.hid (fun v1 v2 W h1 h2 => ints_any v1 v2 L W h1 h2 hLl)
  clear hL hR hRS he5 hA lA hlen hLl HVw hn
  have hsp : (decide ((300 : Int) < (n : Int)) = true ∧ decide ((n : Int) < (9990 : Int)) = false) ∨ decide ((300 : Int) < (n : Int)) = false := by
    by_cases h : 300 < n
    · exact .inl ⟨decide_eq_true (by omega), decide_eq_false (by omega)⟩
    · exact .inr (decide_eq_false (by omega))
  clear h1 h3
  rcases hsp with ⟨d1, d2⟩ | d1
  all_goals
    go_enter Tryd.func3, Tryd.ntmps3
    go_wp2_with fail
    refine CF.out.mono ?_
    rintro e w0 ⟨rfl, rfl⟩
    go_wp2_with fail
    refine (O1.out _ (Below.refl _ _)).mono ?_
    rintro e w1 ⟨rfl, hb1⟩
    go_wp2_with fail
    refine (O2.out _ hb1).mono ?_
    rintro e w2 ⟨rfl, hb2⟩
    have hB2 := below_step hb1 hb2
    go_wp2_with fail
    -- MARK1
    refine (I1.out _).mono ?_
    rintro e w3 ⟨v3, rfl, ho3, hb3⟩
    have hB3 := below_step hB2 hb3
    have N3 := Lib.hid (nat_own ho3 rfl)
    clear ho3
    go_wp2_with fail
    refine (I2.out _).mono ?_
    rintro e w4 ⟨v4, rfl, ho4, hb4⟩
    have hB4 := below_step hB3 hb4
    have N34 := Lib.hid (N3.out.below hb4 (Nat.le_refl _))
    have N4 := Lib.hid (nat_own ho4 rfl)
    clear ho4 N3
    go_wp2_with fail
    refine (K1.out _).mono ?_
    rintro e w5 ⟨rfl, hb5⟩
    have hB5 := below_step hB4 hb5
    go_wp2_with fail
    refine (K2.out _).mono ?_
    rintro e w6 ⟨rfl, hb6⟩
    have hB6 := below_step hB5 hb6
    have hb46 := below_step hb5 hb6
    have CN6 := Lib.hid (CN.out v3 v4 w6 (N34.out.below hb46 (Nat.le_refl _)) (N4.out.below hb46 (Nat.le_refl _)))
    go_wp2_with fail
    -- MARK2
    refine CN6.out.mono ?_
    rintro e w7 ⟨rfl, hb7⟩
    have hB7 := below_step hB6 hb7
    go_wp2_with fail
    refine (CAw.out _ hB7).mono ?_
    rintro e wz ⟨rfl, hbz⟩
    go_wp2_with fail
    go_ret
    exact ⟨rfl, below_step hB7 hbz⟩
-- MARK9
end Go.Proofs.YtchnmbfeaaialaaDoor
