/- The law ScopesChanges. -/
import Derived.Test.YtchnmbfeaaialaaDoorSlf
import Derived.Test.YtchnmbfeaaialaaDoorSrd
namespace Go.Proofs.YtchnmbfeaaialaaDoor
open Go.RowKit Go.PlainAid

set_option maxRecDepth 100000 in
set_option maxHeartbeats 12800000 in
theorem lawCh_any (SA : ByteArray) (p : Int) (w : World) (T : STab w) :
    Calls Tryd.prog 4 #[.string SA, .int .i64 p] w fun e w' => e = .returned (.bool true) ∧ Below w.heap.size w w' := by
  have CAw := Lib.hid (fun W (hW : Below w.heap.size w W) => awake_any W (T.below hW))
  clear T
  have CF := Lib.hid (far_any SA w)
  obtain ⟨A, hA, lA⟩ := str_of SA
  by_cases hf : farB SA.size = true
  · rw [hf] at CF
    clear hf lA hA
    go_enter Tryd.func4, Tryd.ntmps4
    go_wp2_with fail
    refine CF.out.mono ?_
    rintro e w1 ⟨rfl, rfl⟩
    go_wp2_with fail
    refine (CAw.out _ (Below.refl _ _)).mono ?_
    rintro e w9 ⟨rfl, hb9⟩
    go_wp2_with fail
    go_ret
    exact ⟨rfl, hb9⟩
  rw [Bool.not_eq_true] at hf
  have hlen := far_no hf
  rw [hf] at CF
  have H1 := Lib.hid (fun W => hasI_any A p W (by omega))
  have H2 := Lib.hid (fun W => rHas_any A p W (by omega))
  have G1 := Lib.hid (fun W => add_any A p W (by omega))
  have G2 := Lib.hid (fun W => rAdd_any A p W (by omega))
  have D1 := Lib.hid (fun W => drop_any A p W (by omega))
  have D2 := Lib.hid (fun W => rDrop_any A p W (by omega))
  have F1 := Lib.hid (fun W => flip_any A p W (by omega))
  have F2 := Lib.hid (fun W => rFlip_any A p W (by omega))
  obtain ⟨⟨hb, he⟩, hh⟩ : ∃ r, hasS A p = r := ⟨_, rfl⟩
  rw [hh] at H1 H2
  obtain ⟨SG, eG, hG⟩ := strE_two (oneS true true true A p)
  rw [hG] at G1 G2
  obtain ⟨SD, eD, hD⟩ := strE_two (oneS true false false A p)
  rw [hD] at D1 D2
  obtain ⟨SF, eF, hF⟩ := strE_two (oneS true false true A p)
  rw [hF] at F1 F2
  rw [hA] at H1 H2 G1 G2 D1 D2 F1 F2
  clear hh hG hD hF hA lA hf hlen
  simp only at H1 H2
  go_enter Tryd.func4, Tryd.ntmps4
  go_wp2_with fail
  refine CF.out.mono ?_
  rintro e w0 ⟨rfl, rfl⟩
  go_wp2_with fail
  refine (H1.out _).mono ?_
  rintro e w1 ⟨rfl, hb1⟩
  have hB1 := hb1
  go_wp2_with fail
  -- MARK1
  refine (H2.out _).mono ?_
  rintro e w2 ⟨rfl, hb2⟩
  have hB2 := below_step hB1 hb2
  go_wp2_with fail
  -- MARK2
  refine (G1.out _).mono ?_
  rintro e w3 ⟨rfl, hb3⟩
  have hB3 := below_step hB2 hb3
  go_wp2_with fail
  -- MARK3
  refine (G2.out _).mono ?_
  rintro e w4 ⟨rfl, hb4⟩
  have hB4 := below_step hB3 hb4
  go_wp2_with fail
  -- MARK4
  refine (D1.out _).mono ?_
  rintro e w5 ⟨rfl, hb5⟩
  have hB5 := below_step hB4 hb5
  go_wp2_with fail
  -- MARK5
  refine (D2.out _).mono ?_
  rintro e w6 ⟨rfl, hb6⟩
  have hB6 := below_step hB5 hb6
  go_wp2_with fail
  -- MARK6
  refine (F1.out _).mono ?_
  rintro e w7 ⟨rfl, hb7⟩
  have hB7 := below_step hB6 hb7
  go_wp2_with fail
  -- MARK7
  refine (F2.out _).mono ?_
  rintro e w8 ⟨rfl, hb8⟩
  have hB8 := below_step hB7 hb8
  go_wp2_with fail
  -- MARK8
  refine (CAw.out _ hB8).mono ?_
  rintro e wz ⟨rfl, hbz⟩
  go_wp2_with fail
  go_ret
  exact ⟨rfl, below_step hB8 hbz⟩
-- MARK9
end Go.Proofs.YtchnmbfeaaialaaDoor
