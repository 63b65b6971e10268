/- The law ScopesMeets. -/
import Derived.Test.YtchnmbfeaaialaaDoorSw
import Derived.Test.YtchnmbfeaaialaaDoorSrm
namespace Go.Proofs.YtchnmbfeaaialaaDoor
open Go.RowKit Go.PlainAid

set_option maxRecDepth 100000 in
set_option maxHeartbeats 12800000 in
theorem lawMe_any (SA SB : ByteArray) (w : World) (T : STab w) :
    Calls Tryd.prog 5 #[.string SA, .string SB] w fun e w' => e = .returned (.bool true) ∧ Below w.heap.size w w' := by
  have CAw := Lib.hid (fun W (hW : Below w.heap.size w W) => awake_any W (T.below hW))
  clear T
  obtain ⟨A, hA, lA⟩ := str_of SA
  obtain ⟨B, hB, lB⟩ := str_of SB
  by_cases h0 : 300 < SA.size
  · have d0 : decide ((300 : Int) < (SA.size : Int)) = true := decide_eq_true (by omega)
    go_enter Tryd.func5, Tryd.ntmps5
    go_wp2_with fail
    refine (CAw.out _ (Below.refl _ _)).mono ?_
    rintro e w9 ⟨rfl, hb9⟩
    go_wp2_with fail
    go_ret
    exact ⟨rfl, hb9⟩
  have d0 : decide ((300 : Int) < (SA.size : Int)) = false := decide_eq_false (by omega)
  by_cases h1 : 300 < SB.size
  · have d1 : decide ((300 : Int) < (SB.size : Int)) = true := decide_eq_true (by omega)
    go_enter Tryd.func5, Tryd.ntmps5
    go_wp2_with fail
    refine (CAw.out _ (Below.refl _ _)).mono ?_
    rintro e w9 ⟨rfl, hb9⟩
    go_wp2_with fail
    go_ret
    exact ⟨rfl, hb9⟩
  have d1 : decide ((300 : Int) < (SB.size : Int)) = false := decide_eq_false (by omega)
  have U1 := Lib.hid (fun W => union_any A B W (by omega) (by omega))
  have U2 := Lib.hid (fun W => rUnion_any A B W (by omega) (by omega))
  have M1 := Lib.hid (fun W => meet_any A B W (by omega) (by omega))
  have M2 := Lib.hid (fun W => rMeet_any A B W (by omega) (by omega))
  have D1 := Lib.hid (fun W => minus_any A B W (by omega) (by omega))
  have D2 := Lib.hid (fun W => rMinus_any A B W (by omega) (by omega))
  have S1 := Lib.hid (fun W => sub_any A B W (by omega) (by omega))
  have S2 := Lib.hid (fun W => rSub_any A B W (by omega) (by omega))
  have R1 := Lib.hid (fun W => rel_any A B W (by omega) (by omega))
  have R2 := Lib.hid (fun W => rRelate_any A B W (by omega) (by omega))
  obtain ⟨SU, eU, hU⟩ := strE_two (mrgS true true true A B)
  rw [hU] at U1 U2
  obtain ⟨SM, eM, hM⟩ := strE_two (mrgS false true false A B)
  rw [hM] at M1 M2
  obtain ⟨SD, eD, hD⟩ := strE_two (mrgS true false false A B)
  rw [hD] at D1 D2
  obtain ⟨⟨vS, eS⟩, hS⟩ : ∃ r, subS A B = r := ⟨_, rfl⟩
  rw [hS] at S1 S2
  obtain ⟨⟨vR, eR⟩, hR⟩ : ∃ r, relS A B = r := ⟨_, rfl⟩
  rw [hR] at R1 R2
  rw [hA, hB] at U1 U2 M1 M2 D1 D2 S1 S2 R1 R2
  clear hU hM hD hS hR hA hB lA lB h0 h1
  simp only at S1 S2 R1 R2
  go_enter Tryd.func5, Tryd.ntmps5
  go_wp2_with fail
  refine (U1.out _).mono ?_
  rintro e w1 ⟨rfl, hb1⟩
  have hB1 := hb1
  go_wp2_with fail
  -- MARK1
  refine (U2.out _).mono ?_
  rintro e w2 ⟨rfl, hb2⟩
  have hB2 := below_step hB1 hb2
  go_wp2_with fail
  -- MARK2
  refine (M1.out _).mono ?_
  rintro e w3 ⟨rfl, hb3⟩
  have hB3 := below_step hB2 hb3
  go_wp2_with fail
  -- MARK3
  refine (M2.out _).mono ?_
  rintro e w4 ⟨rfl, hb4⟩
  have hB4 := below_step hB3 hb4
  go_wp2_with fail
  -- MARK4
  refine (D1.out _).mono ?_
  rintro e w5 ⟨rfl, hb5⟩
  have hB5 := below_step hB4 hb5
  go_wp2_with fail
  -- MARK5
  refine (D2.out _).mono ?_
  rintro e w6 ⟨rfl, hb6⟩
  have hB6 := below_step hB5 hb6
  go_wp2_with fail
  -- MARK6
  refine (S1.out _).mono ?_
  rintro e w7 ⟨rfl, hb7⟩
  have hB7 := below_step hB6 hb7
  go_wp2_with fail
  -- MARK7
  refine (S2.out _).mono ?_
  rintro e w8 ⟨rfl, hb8⟩
  have hB8 := below_step hB7 hb8
  go_wp2_with fail
  -- MARK8
  refine (R1.out _).mono ?_
  rintro e w9 ⟨rfl, hb9⟩
  have hB9 := below_step hB8 hb9
  go_wp2_with fail
  -- MARK9
  refine (R2.out _).mono ?_
  rintro e w10 ⟨rfl, hb10⟩
  have hB10 := below_step hB9 hb10
  go_wp2_with fail
  -- MARK10
  refine (CAw.out _ hB10).mono ?_
  rintro e wz ⟨rfl, hbz⟩
  go_wp2_with fail
  go_ret
  exact ⟨rfl, below_step hB10 hbz⟩
-- MARK9
end Go.Proofs.YtchnmbfeaaialaaDoor
