/- What a fault says of the text before it (mathematics). -/
import Derived.Test.YtemoeohchhpilaaDoorLlw
namespace Go.Proofs.YtemoeohchhpilaaDoor

theorem tok_cut {L : List UInt8} {k : Nat} (hk : tokN L ≤ k) : tokN (L.take k) = tokN L ∧ tokT (L.take k) = tokT L := by
  have hw : (clsP L).2 ≤ tokN L := by unfold tokN; (repeat' split) <;> omega
  have hc := cls_cut (L := L) (k := k) (by omega)
  have hN : tokN (L.take k) = tokN L := by
    unfold tokN at hk ⊢
    rw [hc, drop_take']
    by_cases h : isWc (clsP L).1 = true
    · rw [if_pos h] at hk ⊢
      rw [if_pos h]
      have : wordN ((L.drop (clsP L).2).take (k - (clsP L).2)) = wordN (L.drop (clsP L).2) := run_cut _ _ _ _ (Nat.le_refl _) (by unfold wordN at hk; omega)
      rw [this]
    · rw [if_neg h] at hk ⊢
      rw [if_neg h]
      by_cases h5 : (clsP L).1 = 5
      · rw [if_pos h5] at hk ⊢
        rw [if_pos h5]
        by_cases h59 : (L.drop (clsP L).2).head? = some 59
        · rw [if_pos h59] at hk ⊢
          have : ((L.drop (clsP L).2).take (k - (clsP L).2)).head? = some 59 := by
            cases hq : L.drop (clsP L).2 with
            | nil => rw [hq] at h59; cases h59
            | cons a r =>
              rw [hq] at h59
              obtain ⟨j, hj⟩ : ∃ j, k - (clsP L).2 = j + 1 := ⟨k - (clsP L).2 - 1, by omega⟩
              rw [hj, List.take_succ_cons]; exact h59
          rw [if_pos this]
        · rw [if_neg h59] at hk ⊢
          have h60 : ¬ ((L.drop (clsP L).2).take (k - (clsP L).2)).head? = some 59 := by
            intro e
            apply h59
            cases hq : L.drop (clsP L).2 with
            | nil => rw [hq, List.take_nil] at e; cases e
            | cons a r =>
              rw [hq] at e
              cases hj : k - (clsP L).2 with
              | zero => rw [hj] at e; cases e
              | succ j => rw [hj, List.take_succ_cons] at e; exact e
          rw [if_neg h60]
          have : wordN ((L.drop (clsP L).2).take (k - (clsP L).2)) = wordN (L.drop (clsP L).2) := run_cut _ _ _ _ (Nat.le_refl _) (by unfold wordN at hk; omega)
          rw [this]
      · rw [if_neg h5, if_neg h5]
  refine ⟨hN, ?_⟩
  unfold tokT
  rw [hc, hN, List.take_take, Nat.min_eq_left hk]
theorem take_ne {L : List UInt8} {k : Nat} (hL : L ≠ []) (hk : 1 ≤ k) : L.take k ≠ [] := by
  intro e
  have := congrArg List.length e
  rw [List.length_take, List.length_nil] at this
  have := List.length_pos_iff.2 hL
  omega
/-- The first token of a cut text. -/
theorem first_cut {off : Nat} {L : List UInt8} {k : Nat} (h : L.drop (spN L) ≠ []) (hk : spN L + tokN (L.drop (spN L)) ≤ k) : firstS off (L.take k) = firstS off L ∧ spN (L.take k) = spN L ∧ tokN ((L.take k).drop (spN L)) = tokN (L.drop (spN L)) := by
  have hp := tokN_pos (L.drop (spN L))
  have hs := sp_cut _ L k (Nat.le_refl _) (by omega)
  have hd : (L.take k).drop (spN L) = (L.drop (spN L)).take (k - spN L) := drop_take'
  obtain ⟨h1, h2⟩ := tok_cut (L := L.drop (spN L)) (k := k - spN L) (by omega)
  refine ⟨?_, hs, by rw [hd, h1]⟩
  rw [firstS_pos h, firstS_pos (by rw [hs, hd]; exact take_ne h (by omega)), hs, hd, h1, h2]
/-- A fault. -/
theorem lex_fault : ∀ (f off : Nat) (L : List UInt8), L.length ≤ f → (lexO off L).2.2 ≠ 0 →
    ∃ m, L.drop m ≠ [] ∧ spN (L.drop m) = 0 ∧ (tokT (L.drop m)).2.2.2 ≠ 0 ∧ lexO off L = ([], (((off + m : Nat) : Int), ((off + (m + tokN (L.drop m)) : Nat) : Int)), (tokT (L.drop m)).2.2.2) ∧ (lexO off (L.take m)).2.2 = 0 := by
  intro f
  induction f with
  | zero =>
    intro off L h he
    obtain rfl : L = [] := List.eq_nil_of_length_eq_zero (by omega)
    rw [lexO_none (by rw [firstS_nil])] at he
    exact absurd rfl he
  | succ f ih =>
    intro off L h he
    by_cases h4 : (firstS off L).2 = 4
    · rw [lexO_none h4] at he; exact absurd rfl he
    have hne : L.drop (spN L) ≠ [] := fun e => h4 (firstS_none.2 e)
    have hpos := firstS_pos (off := off) hne
    by_cases h0 : (firstS off L).2 = 0
    · have hst := stepN_le hne
      have hr := lexO_ok h0
      by_cases h2 : (lexO (off + (spN L + tokN (L.drop (spN L)))) (L.drop (spN L + tokN (L.drop (spN L))))).2.2 = 0
      · rw [if_pos h2] at hr; rw [hr] at he; exact absurd rfl he
      · rw [if_neg h2] at hr
        obtain ⟨m, m1, m2, m3, m4, m5⟩ := ih _ (L.drop (spN L + tokN (L.drop (spN L)))) (by rw [List.length_drop]; omega) h2
        obtain ⟨q, hq⟩ : ∃ q, spN L + tokN (L.drop (spN L)) = q := ⟨_, rfl⟩
        rw [hq] at hr m1 m2 m3 m4 m5 hst
        rw [List.drop_drop] at m1 m2 m3 m4
        refine ⟨q + m, m1, m2, m3, ?_, ?_⟩
        · rw [hr, m4]
          have e1 : ((off + q + m : Nat) : Int) = ((off + (q + m) : Nat) : Int) := by congr 1; omega
          have e2 : ((off + q + (m + tokN (L.drop (q + m))) : Nat) : Int) = ((off + (q + m + tokN (L.drop (q + m))) : Nat) : Int) := by congr 1; omega
          rw [e1, e2]
        · obtain ⟨c1, c2, c3⟩ := first_cut (off := off) (k := q + m) hne (by omega)
          rw [lexO_ok (by rw [c1]; exact h0), c2, c3, hq]
          have e3 : (L.take (q + m)).drop q = (L.drop q).take m := by rw [drop_take']; congr 1; omega
          rw [e3, if_pos m5]
    · refine ⟨spN L, hne, spN_drop L, ?_, ?_, ?_⟩
      · rw [hpos] at h0; exact h0
      · rw [lexO_bad h4 h0, hpos]
      · have hs := sp_cut _ L (spN L) (Nat.le_refl _) (Nat.le_refl _)
        rw [lexO_none (firstS_none.2 (by rw [hs, List.drop_of_length_le (by rw [List.length_take]; omega)]))]
end Go.Proofs.YtemoeohchhpilaaDoor
