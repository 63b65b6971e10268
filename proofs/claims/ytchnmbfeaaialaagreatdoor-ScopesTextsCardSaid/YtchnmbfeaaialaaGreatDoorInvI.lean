/- Int and Digits are inverse to each other; runs of numbers and their texts: mathematics. -/
import Derived.Test.YtchnmbfeaaialaaGreatDoorInvN
import Derived.Lib.Join
namespace Go.Proofs.YtchnmbfeaaialaaGreatDoor
open Go.RowKit Go.PlainAid

theorem itoa_nat (u : Nat) : Lib.itoa (u : Int) = Lib.decDigits u := Lib.itoa_nonneg u
theorem natL_head {a : List UInt8} (h : natL a = true) : ∃ c t, a = c :: t ∧ 48 ≤ c.toNat ∧ c.toNat ≤ 57 := by
  obtain ⟨h1, h2, _⟩ := natL_iff.1 h
  cases a with
  | nil => exact absurd rfl h1
  | cons c t => exact ⟨c, t, rfl, (digL_cons h2).1⟩
theorem decL_nat {a : List UInt8} (h : natL a = true) : decL a = true ∧ valL a = (numFrom 0 a : Int) := by
  obtain ⟨c, t, rfl, h1, h2⟩ := natL_head h
  have hc : c ≠ 45 := by rintro rfl; revert h1; decide
  have e1 : negL (c :: t) = false := by simp [negL, hc]
  refine ⟨?_, ?_⟩
  · have : decL (c :: t) = natL (c :: t) := by unfold decL; split <;> simp_all
    rw [this]; exact h
  · unfold valL digsL; rw [e1]; rfl
theorem dec_itoa (n : Int) : decL (Lib.itoa n) = true ∧ valL (Lib.itoa n) = n := by
  by_cases h : n < 0
  · obtain ⟨u, hu, rfl⟩ : ∃ u : Nat, 1 ≤ u ∧ n = -(u : Int) := ⟨n.natAbs, by omega, by omega⟩
    rw [Lib.itoa_neg u hu]
    have hN := dec_natL u
    have hV := dec_num u
    refine ⟨?_, ?_⟩
    · obtain ⟨c, t, he, h1, h2⟩ := natL_head hN
      have hc : c ≠ 48 := by
        rintro rfl
        have := (natL_iff.1 hN).2.2 (by rw [he]; rfl)
        rw [he] at this
        have : t = [] := List.eq_nil_of_length_eq_zero (by simpa using this)
        subst this
        rw [he] at hV
        have : numFrom 0 [48] = 0 := rfl
        omega
      rw [he] at hN ⊢
      unfold decL
      simp only [hN, Bool.true_and]
      simp [hc]
    · unfold valL digsL
      have e1 : negL (45 :: Lib.decDigits u) = true := by simp [negL]
      rw [e1]
      show -(numFrom 0 (Lib.decDigits u) : Int) = _
      rw [hV]
  · obtain ⟨u, rfl⟩ : ∃ u : Nat, n = (u : Int) := ⟨n.toNat, by omega⟩
    rw [itoa_nat]
    have := decL_nat (dec_natL u)
    rw [dec_num] at this
    exact this
theorem itoa_dec {l : List UInt8} (h : decL l = true) : Lib.itoa (valL l) = l := by
  match l with
  | [] => cases h
  | a :: r =>
    by_cases ha : a = 45
    · subst ha
      have hN : natL r = true ∧ r.head? ≠ some 48 := by
        unfold decL at h
        simp only [Bool.and_eq_true] at h
        refine ⟨h.1, fun e => ?_⟩
        rw [e] at h; simp at h
      have hV : valL (45 :: r) = -(numFrom 0 r : Int) := rfl
      have hp : 1 ≤ numFrom 0 r := by
        apply Classical.byContradiction
        intro e
        have h0 : numFrom 0 r = numFrom 0 [48] := by show _ = 0; omega
        have := nat_inj hN.1 (by decide) h0
        rw [this] at hN
        exact hN.2 rfl
      rw [hV, Lib.itoa_neg _ hp, ← natL_dec hN.1]
    · have hN : natL (a :: r) = true := by
        have : decL (a :: r) = natL (a :: r) := by unfold decL; split <;> simp_all
        rw [← this]; exact h
      rw [(decL_nat hN).2, itoa_nat, ← natL_dec hN]
theorem int_digits {n : Int} (hn : i64r n) : intS (Lib.itoa n) n n = (n, 0) := by
  obtain ⟨h1, h2⟩ := dec_itoa n
  unfold intS
  rw [if_pos h1, h2, if_pos ⟨hn, Int.le_refl _, Int.le_refl _⟩]
theorem digits_int {l : List UInt8} {a b : Int} (h : (intS l a b).2 = 0) : Lib.itoa (intS l a b).1 = l := by
  unfold intS at h ⊢
  by_cases h1 : decL l = true
  · rw [if_pos h1] at h ⊢
    by_cases h2 : fits (valL l) ∧ a ≤ valL l ∧ valL l ≤ b
    · rw [if_pos h2]; exact itoa_dec h1
    · rw [if_neg h2] at h; cases h
  · rw [if_neg h1] at h; cases h
end Go.Proofs.YtchnmbfeaaialaaGreatDoor
