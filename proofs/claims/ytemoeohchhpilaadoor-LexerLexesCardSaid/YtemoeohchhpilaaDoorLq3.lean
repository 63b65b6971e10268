/- The reference's Symbol and Check. -/
import Derived.Test.YtemoeohchhpilaaDoorLq2
namespace Go.Proofs.YtemoeohchhpilaaDoor
open Go.RowKit Go.PlainAid

theorem symL_isw (x : List UInt8) : symL x = (iswB x && !intB x && decide (x.length ≤ 24)) := by
  unfold symL iswB
  cases decide (x ≠ []) <;> cases decide (x.length ≤ 24) <;> cases intB x <;> cases decide (wordN x = x.length) <;> rfl
theorem itoa_ne (n : Int) : Lib.itoa n ≠ [] := by
  have h : ∀ u, Lib.decDigits u ≠ [] := fun u e => by
    have h1 := Lib.decDigits_length u
    have h2 := Lib.nDigits_pos u
    rw [e] at h1; simp at h1; omega
  unfold Lib.itoa
  split
  · simp
  · exact h _
theorem ck_kind {k n : Int} {x : List UInt8} (h : kdB k n (x == []) = false) : ckT k n x = 2 := by unfold ckT; rw [if_pos h]
theorem ck_else {k n : Int} {x : List UInt8} (h : kdB k n (x == []) = true) (h7 : k ≠ 7) : ckT k n x = if txT k n x = [] then 7 else 0 := by
  unfold ckT; rw [if_neg (by rw [h]; simp), if_neg (fun e => h7 e.1)]
theorem ck_7 {x : List UInt8} : ckT 7 0 x = if symL x = true then 0 else 6 := by
  unfold ckT
  rw [if_neg (by rw [kd_7]; decide)]
  cases h : symL x
  · rw [if_pos ⟨rfl, rfl⟩, if_neg (by simp)]
  · rw [if_neg (by simp), if_pos rfl]
    have hx : x ≠ [] := by rintro rfl; rw [symL_nil] at h; cases h
    rw [if_neg (by show txT 7 0 x ≠ []; unfold txT; rw [if_neg (by omega), if_pos rfl]; exact hx)]
theorem tx_1 (n : Int) (x : List UInt8) : txT 1 n x = if n = 1 then [40] else if n = 2 then [91] else [] := by
  unfold txT marksS; rw [if_neg (by omega), if_neg (by omega)]
  by_cases h1 : n = 1
  · subst h1; rfl
  · by_cases h2 : n = 2
    · subst h2; rfl
    · rw [if_neg h1, if_neg h2]; simp [txGo, Ne.symm h1, Ne.symm h2]
theorem tx_2 (n : Int) (x : List UInt8) : txT 2 n x = if n = 1 then [41] else if n = 2 then [93] else [] := by
  unfold txT marksS; rw [if_neg (by omega), if_neg (by omega)]
  by_cases h1 : n = 1
  · subst h1; rfl
  · by_cases h2 : n = 2
    · subst h2; rfl
    · rw [if_neg h1, if_neg h2]; simp [txGo, Ne.symm h1, Ne.symm h2]
theorem tx_6 (n : Int) (x : List UInt8) : txT 6 n x = if n = 0 then [35, 102] else if n = 1 then [35, 116] else [] := by
  unfold txT marksS; rw [if_neg (by omega), if_neg (by omega)]
  by_cases h1 : n = 0
  · subst h1; rfl
  · by_cases h2 : n = 1
    · subst h2; rfl
    · rw [if_neg h1, if_neg h2]; simp [txGo, Ne.symm h1, Ne.symm h2]
theorem tx_34 : txT 3 0 [] = [39] ∧ txT 4 0 [] = [35, 59] := ⟨rfl, rfl⟩
-- MARK9
end Go.Proofs.YtemoeohchhpilaaDoor
