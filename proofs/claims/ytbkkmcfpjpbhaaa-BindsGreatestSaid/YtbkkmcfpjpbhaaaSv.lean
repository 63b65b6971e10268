/- within, Sub, Relate, Has of scopes. -/
import Derived.Test.YtbkkmcfpjpbhaaaSu
namespace Go.Proofs.Ytbkkmcfpjpbhaaa
open Go.RowKit Go.PlainAid

set_option maxRecDepth 100000 in
theorem within_any (l m : List Nat) (w : World) (hl : SetOf l) (hm : SetOf m) :
    Calls Try.prog 60 #[.string (str (setL l)), .string (str (setL m))] w fun e w' => e = .returned (.bool (decide (∀ z ∈ l, z ∈ m))) ∧ Below w.heap.size w w' := by
  have C := Lib.hid (merge_any true false false l m w hl.lt hm.lt (by have := hl.few; omega) (by have := hm.few; omega))
  unfold choV at C
  obtain ⟨R, hR⟩ : ∃ R, str (setL (mg true false false l m)) = R := ⟨_, rfl⟩
  have e1 : R.toList.isEmpty = decide (∀ z ∈ l, z ∈ m) := by
    rw [← hR, empty_eq, str_size, setL_len, Bool.eq_iff_iff, decide_eq_true_iff, decide_eq_true_iff, ← sub_mi hl.up hm.up]
    have : ∀ q : List Nat, 2 * q.length = 0 ↔ q = [] := fun q => by rw [← List.length_eq_zero_iff]; omega
    exact this _
  obtain ⟨b, hb⟩ : ∃ b, decide (∀ z ∈ l, z ∈ m) = b := ⟨_, rfl⟩
  rw [hb] at e1 ⊢
  rw [hR] at C
  obtain ⟨S, hS⟩ : ∃ S, str (setL l) = S := ⟨_, rfl⟩
  obtain ⟨T, hT⟩ : ∃ T, str (setL m) = T := ⟨_, rfl⟩
  rw [hS, hT] at C ⊢
  clear hR hb hS hT
  go_enter Try.func60, Try.ntmps60
  go_wp2_with fail
  refine C.out.mono ?_
  rintro e w1 ⟨rfl, hb1⟩
  go_wp2_with fail
  -- MARK1
  go_ret
  exact ⟨rfl, hb1⟩
set_option maxRecDepth 100000 in
theorem sub_any (A B : List UInt8) (w : World) (hA : A.length ≤ 100000) (hB : B.length ≤ 100000) :
    Calls Try.prog 56 #[.string (str A), .string (str B)] w fun e w' => e = .returned (.tuple #[.bool (subS A B).1, .int .i64 (subS A B).2]) ∧ Below w.heap.size w w' := by
  have C := Lib.hid (checkTwo_any A B w (by omega) (by omega))
  by_cases h0 : twoE A B = 0
  · obtain ⟨l, rfl, hl⟩ := set_of (twoE_ok h0).1
    obtain ⟨m, rfl, hm⟩ := set_of (twoE_ok h0).2
    have CW := Lib.hid (fun W => within_any l m W hl hm)
    rw [sub_set hl hm]
    rw [h0] at C
    obtain ⟨b, hb⟩ : ∃ b, decide (∀ z ∈ l, z ∈ m) = b := ⟨_, rfl⟩
    rw [hb] at CW ⊢
    obtain ⟨S, hS⟩ : ∃ S, str (setL l) = S := ⟨_, rfl⟩
    obtain ⟨T, hT⟩ : ∃ T, str (setL m) = T := ⟨_, rfl⟩
    rw [hS, hT] at C CW ⊢
    clear hb hS hT h0 hl hm
    go_enter Try.func56, Try.ntmps56
    go_wp2_with fail
    refine C.out.mono ?_
    rintro e w1 ⟨rfl, hb1⟩
    go_wp2_with fail
    refine (CW.out _).mono ?_
    rintro e w2 ⟨rfl, hb2⟩
    go_wp2_with fail
    go_ret2
    exact ⟨rfl, below_step hb1 hb2⟩
  · have HV : subS A B = (false, twoE A B) := by unfold subS; rw [decide_eq_false (fun h => h0 h.1)]
    rw [HV]
    obtain ⟨e0, he0⟩ : ∃ e, twoE A B = e := ⟨_, rfl⟩
    rw [he0] at h0 C ⊢
    have hne : (e0 != 0) = true := bne_iff_ne.2 h0
    obtain ⟨S, hS⟩ : ∃ S, str A = S := ⟨_, rfl⟩
    obtain ⟨T, hT⟩ : ∃ T, str B = T := ⟨_, rfl⟩
    rw [hS, hT] at C ⊢
    clear hS hT h0 HV he0
    go_enter Try.func56, Try.ntmps56
    go_wp2_with fail
    refine C.out.mono ?_
    rintro e w1 ⟨rfl, hb1⟩
    go_wp2_with fail
    go_ret2
    exact ⟨rfl, hb1⟩
end Go.Proofs.Ytbkkmcfpjpbhaaa
