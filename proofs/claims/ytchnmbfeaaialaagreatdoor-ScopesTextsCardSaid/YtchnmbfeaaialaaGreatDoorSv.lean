/- within, Sub, Relate, Has of scopes. -/
import Derived.Test.YtchnmbfeaaialaaGreatDoorSu
namespace Go.Proofs.YtchnmbfeaaialaaGreatDoor
open Go.RowKit Go.PlainAid

set_option maxRecDepth 100000 in
theorem within_any (l m : List Nat) (w : World) (hl : SetOf l) (hm : SetOf m) :
    Calls Tryz.prog 29 #[.string (str (setL l)), .string (str (setL m))] w fun e w' => e = .returned (.bool (decide (∀ z ∈ l, z ∈ m))) ∧ Below w.heap.size w w' := by
  have C := Lib.hid (merge_any true false false l m w hl.lt hm.lt (by have := hl.few; omega) (by have := hm.few; omega))
  unfold choV at C
  obtain ⟨R, hR⟩ : ∃ R, str (setL (mg true false false l m)) = R := ⟨_, rfl⟩
  have e1 : R.toList.isEmpty = decide (∀ z ∈ l, z ∈ m) := by
    rw [← hR, empty_eq, str_size, setL_len, Bool.eq_iff_iff, decide_eq_true_iff, decide_eq_true_iff, ← sub_mi hl.up hm.up]
    have : ∀ q : List Nat, 2 * q.length = 0 ↔ q = [] := fun q => by rw [← List.length_eq_zero_iff]; omega
    exact this _
  obtain ⟨b, hb⟩ : ∃ b, decide (∀ z ∈ l, z ∈ m) = b := ⟨_, rfl⟩
  rw [hb] at e1 ⊢
  rw [hR] at C
  obtain ⟨S, hS⟩ : ∃ S, str (setL l) = S := ⟨_, rfl⟩
  obtain ⟨T, hT⟩ : ∃ T, str (setL m) = T := ⟨_, rfl⟩
  rw [hS, hT] at C ⊢
  clear hR hb hS hT
  go_enter Tryz.func29, Tryz.ntmps29
  go_wp2_with fail
  refine C.out.mono ?_
  rintro e w1 ⟨rfl, hb1⟩
  go_wp2_with fail
  -- MARK1
  go_ret
  exact ⟨rfl, hb1⟩
set_option maxRecDepth 100000 in
theorem rel_any (A B : List UInt8) (w : World) (hA : A.length ≤ 100000) (hB : B.length ≤ 100000) :
    Calls Tryz.prog 12 #[.string (str A), .string (str B)] w fun e w' => e = .returned (.tuple #[.int .i64 (relS A B).1, .int .i64 (relS A B).2]) ∧ Below w.heap.size w w' := by
  have C := Lib.hid (checkTwo_any A B w (by omega) (by omega))
  by_cases h0 : twoE A B = 0
  · obtain ⟨l, rfl, hl⟩ := set_of (twoE_ok h0).1
    obtain ⟨m, rfl, hm⟩ := set_of (twoE_ok h0).2
    have C1 := Lib.hid (fun W => within_any l m W hl hm)
    have C2 := Lib.hid (fun W => within_any m l W hm hl)
    obtain ⟨b1, hb1⟩ : ∃ b, decide (∀ z ∈ l, z ∈ m) = b := ⟨_, rfl⟩
    obtain ⟨b2, hb2⟩ : ∃ b, decide (∀ z ∈ m, z ∈ l) = b := ⟨_, rfl⟩
    obtain ⟨S, hS⟩ : ∃ S, str (setL l) = S := ⟨_, rfl⟩
    obtain ⟨T, hT⟩ : ∃ T, str (setL m) = T := ⟨_, rfl⟩
    have HV : Hid (relS (setL l) (setL m) = if setL l = setL m then (0, 0) else if b1 then (1, 0) else if b2 then (2, 0) else (3, 0)) := Lib.hid (by
      unfold relS; rw [if_neg (by simpa using h0), sub_set hl hm, sub_set hm hl, hb1, hb2])
    obtain ⟨b0, hb0⟩ : ∃ b, decide (setL l = setL m) = b := ⟨_, rfl⟩
    have e0 : (S.toList == T.toList) = b0 := by
      rw [← hb0, ← hS, ← hT, ByteArray.toList_eq, ByteArray.toList_eq, str_list, str_list, Bool.eq_iff_iff, beq_iff_eq, decide_eq_true_iff]
    have HW : Hid (relS (setL l) (setL m) = if b0 then (0, 0) else if b1 then (1, 0) else if b2 then (2, 0) else (3, 0)) := Lib.hid (by rw [HV.out, ← hb0]; simp)
    rw [h0] at C
    rw [hb1] at C1
    rw [hb2] at C2
    rw [hS, hT] at C C1 C2 ⊢
    clear hb0 hb1 hb2 hS hT h0 hl hm HV
    cases b0 <;> cases b1 <;> cases b2
    all_goals
      go_enter Tryz.func12, Tryz.ntmps12
      go_wp2_with fail
      refine C.out.mono ?_
      rintro e w1 ⟨rfl, hb1⟩
      go_wp2_with fail
      first
        | (go_ret2; exact ⟨by rw [HW.out]; rfl, hb1⟩)
        | (refine (C1.out _).mono ?_
           rintro e w2 ⟨rfl, hb2⟩
           have hbA := below_step hb1 hb2
           go_wp2_with fail
           first
             | (go_ret2; exact ⟨by rw [HW.out]; rfl, hbA⟩)
             | (refine (C2.out _).mono ?_
                rintro e w3 ⟨rfl, hb3⟩
                have hbB := below_step hbA hb3
                go_wp2_with fail
                go_ret2
                exact ⟨by rw [HW.out]; rfl, hbB⟩))
  · have HV : relS A B = (0, twoE A B) := by unfold relS; rw [if_pos h0]
    rw [HV]
    obtain ⟨e0, he0⟩ : ∃ e, twoE A B = e := ⟨_, rfl⟩
    rw [he0] at h0 C ⊢
    have hne : (e0 != 0) = true := bne_iff_ne.2 h0
    obtain ⟨S, hS⟩ : ∃ S, str A = S := ⟨_, rfl⟩
    obtain ⟨T, hT⟩ : ∃ T, str B = T := ⟨_, rfl⟩
    rw [hS, hT] at C ⊢
    clear hS hT h0 HV he0
    go_enter Tryz.func12, Tryz.ntmps12
    go_wp2_with fail
    refine C.out.mono ?_
    rintro e w1 ⟨rfl, hb1⟩
    go_wp2_with fail
    go_ret2
    exact ⟨rfl, hb1⟩
end Go.Proofs.YtchnmbfeaaialaaGreatDoor
