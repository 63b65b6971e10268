/- Two texts with a line's end between them (mathematics of LexerJoins). -/
import Derived.Test.YtlpbhncdkhppkaaDoorLx
namespace Go.Proofs.YtlpbhncdkhppkaaDoor

theorem lexO_e0 (off : Nat) (L : List UInt8) (h : (lexO off L).2.2 = 0) : lexO off L = ((lexO off L).1, (0, 0), 0) := by
  rw [lexO_eq] at h ⊢
  split
  · rfl
  · split
    · split
      · rfl
      · rename_i h4 h0 h1
        rw [if_neg h4, if_pos h0, if_neg h1] at h; exact absurd h h1
    · rename_i h4 h0
      rw [if_neg h4, if_neg h0] at h; exact absurd h h0
theorem cls_app10 {A B : List UInt8} (h : A ≠ []) : clsP (A ++ 10 :: B) = clsP A := by
  by_cases h0 : (dec A).2.2 = 0
  · exact cls_app h0
  · rw [clsP_no h0, clsP_no (dec_app_lo h h0 (by decide))]
theorem word10 (A B : List UInt8) : wordN (A ++ 10 :: B) = wordN A := run_lo isWr (by decide) (by decide +kernel) _ A B (Nat.le_refl _)
theorem line10 (A B : List UInt8) : lineN (A ++ 10 :: B) = lineN A := run_lo notLf (by decide) (by decide) _ A B (Nat.le_refl _)
theorem sp10 : ∀ (f : Nat) (A B : List UInt8), A.length ≤ f → (A.drop (spN A) ≠ [] → spN (A ++ 10 :: B) = spN A) ∧ (A.drop (spN A) = [] → spN (A ++ 10 :: B) = A.length + 1 + spN B) := by
  have hnil : ∀ B : List UInt8, spN (10 :: B) = 1 + spN B := fun B => by rw [spN_space (by rw [cls_10]), cls_10]; rfl
  intro f
  induction f with
  | zero =>
    intro A B h
    obtain rfl : A = [] := List.eq_nil_of_length_eq_zero (by omega)
    exact ⟨fun h => absurd rfl h, fun _ => by rw [List.nil_append, hnil]; simp⟩
  | succ f ih =>
    intro A B h
    by_cases hA : A = []
    · subst hA; exact ⟨fun h => absurd rfl h, fun _ => by rw [List.nil_append, hnil]; simp⟩
    have hc := cls_app10 (B := B) hA
    have hw := clsP_len hA
    have hp := clsP_pos A
    by_cases h1 : (clsP A).1 = 1
    · have e1 := spN_space h1
      have e2 : spN (A ++ 10 :: B) = (clsP A).2 + spN (A.drop (clsP A).2 ++ 10 :: B) := by rw [spN_space (by rw [hc]; exact h1), hc, drop_app hw]
      obtain ⟨i1, i2⟩ := ih (A.drop (clsP A).2) B (by rw [List.length_drop]; omega)
      rw [e1, e2, ← List.drop_drop]
      refine ⟨fun h => by rw [i1 h], fun h => ?_⟩
      rw [i2 h, List.length_drop]; omega
    · by_cases h6 : (clsP A).1 = 6
      · have e1 := spN_semi h6
        have hln : lineN (A.drop (clsP A).2) ≤ (A.drop (clsP A).2).length := runN_le _ _
        rw [List.length_drop] at hln
        have e2 : spN (A ++ 10 :: B) = (clsP A).2 + (lineN (A.drop (clsP A).2) + spN (A.drop ((clsP A).2 + lineN (A.drop (clsP A).2)) ++ 10 :: B)) := by
          rw [spN_semi (by rw [hc]; exact h6), hc, drop_app hw, line10, drop_app (by omega)]
        obtain ⟨i1, i2⟩ := ih (A.drop ((clsP A).2 + lineN (A.drop (clsP A).2))) B (by rw [List.length_drop]; omega)
        have e3 : A.drop (spN A) = (A.drop ((clsP A).2 + lineN (A.drop (clsP A).2))).drop (spN (A.drop ((clsP A).2 + lineN (A.drop (clsP A).2)))) := by
          rw [e1, List.drop_drop]; congr 1; omega
        rw [e3]
        refine ⟨fun h => by rw [e2, i1 h, ← e1], fun h => ?_⟩
        rw [e2, i2 h, List.length_drop]; omega
      · have e1 : spN A = 0 := spN_stop h1 h6
        have e2 : spN (A ++ 10 :: B) = 0 := spN_stop (by rw [hc]; exact h1) (by rw [hc]; exact h6)
        rw [e1, e2, List.drop_zero]
        exact ⟨fun _ => rfl, fun h => absurd h hA⟩
theorem tok10 {A : List UInt8} (B : List UInt8) (hA : A ≠ []) : tokN (A ++ 10 :: B) = tokN A ∧ tokT (A ++ 10 :: B) = tokT A := by
  have hc := cls_app10 (B := B) hA
  have hw := clsP_len hA
  have hN : tokN (A ++ 10 :: B) = tokN A := by
    unfold tokN
    rw [hc, drop_app hw, word10]
    have h59 : (A.drop (clsP A).2 ++ 10 :: B).head? = some 59 ↔ (A.drop (clsP A).2).head? = some 59 := by
      cases A.drop (clsP A).2 with
      | nil => simp
      | cons a r => simp
    by_cases h : isWc (clsP A).1 = true
    · rw [if_pos h, if_pos h]
    · rw [if_neg h, if_neg h]
      by_cases h5 : (clsP A).1 = 5
      · rw [if_pos h5, if_pos h5]
        by_cases h6 : (A.drop (clsP A).2).head? = some 59
        · rw [if_pos h6, if_pos (h59.2 h6)]
        · rw [if_neg h6, if_neg (fun e => h6 (h59.1 e))]
      · rw [if_neg h5, if_neg h5]
  refine ⟨hN, ?_⟩
  unfold tokT
  rw [hc, hN, List.take_append_of_le_length (tokN_le hA)]
/-- Behind spaces. -/
theorem lexO_skip {off s : Nat} {L : List UInt8} (h : spN L = s + spN (L.drop s)) : lexO off L = lexO (off + s) (L.drop s) := by
  have e1 : L.drop (spN L) = (L.drop s).drop (spN (L.drop s)) := by rw [h, List.drop_drop]
  have e2 : firstS off L = firstS (off + s) (L.drop s) := by
    unfold firstS
    rw [e1, h]
    split
    · rfl
    · rw [show off + (s + spN (L.drop s)) = off + s + spN (L.drop s) by omega, show off + (s + spN (L.drop s) + tokN ((L.drop s).drop (spN (L.drop s)))) = off + s + (spN (L.drop s) + tokN ((L.drop s).drop (spN (L.drop s)))) by omega]
  have e5 : tokN (L.drop (spN L)) = tokN ((L.drop s).drop (spN (L.drop s))) := by rw [e1]
  have e3 : L.drop (spN L + tokN (L.drop (spN L))) = (L.drop s).drop (spN (L.drop s) + tokN ((L.drop s).drop (spN (L.drop s)))) := by
    rw [e5]
    obtain ⟨y, hy⟩ : ∃ y, tokN ((L.drop s).drop (spN (L.drop s))) = y := ⟨_, rfl⟩
    rw [hy, h, List.drop_drop, Nat.add_assoc]
  have e4 : off + (spN L + tokN (L.drop (spN L))) = off + s + (spN (L.drop s) + tokN ((L.drop s).drop (spN (L.drop s))))  := by
    rw [e5]; omega
  rw [lexO_eq off L, lexO_eq (off + s) (L.drop s), e2, e3, e4]
/-- A text, a line's end, another text. -/
theorem lex_join : ∀ (f off : Nat) (A B : List UInt8), A.length ≤ f → lexO off (A ++ 10 :: B) = if (lexO off A).2.2 = 0 then (if (lexO (off + A.length + 1) B).2.2 = 0 then ((lexO off A).1 ++ (lexO (off + A.length + 1) B).1, (0, 0), 0) else lexO (off + A.length + 1) B) else lexO off A := by
  intro f
  induction f with
  | zero =>
    intro off A B h
    obtain rfl : A = [] := List.eq_nil_of_length_eq_zero (by omega)
    have hs : spN ([] ++ 10 :: B) = 1 + spN (([] ++ 10 :: B).drop 1) := (sp10 0 [] B (Nat.le_refl _)).2 rfl
    rw [lexO_skip hs, lexO_none (off := off) (L := []) (by rw [firstS_nil])]
    show lexO (off + 1) B = _
    rw [if_pos rfl, List.nil_append]
    show lexO (off + 1) B = if (lexO (off + 1) B).2.2 = 0 then ((lexO (off + 1) B).1, (0, 0), 0) else lexO (off + 1) B
    split
    · rename_i h0; exact lexO_e0 _ _ h0
    · rfl
  | succ f ih =>
    intro off A B h
    obtain ⟨s1, s2⟩ := sp10 _ A B (Nat.le_refl _)
    have hsl := spN_le A
    by_cases hne : A.drop (spN A) = []
    · have hs := s2 hne
      have hd : (A ++ 10 :: B).drop (A.length + 1) = B := by
        rw [show A.length + 1 = A.length + 1 from rfl, ← List.drop_drop, List.drop_left]; rfl
      have e : lexO off (A ++ 10 :: B) = lexO (off + (A.length + 1)) B := by
        have := lexO_skip (off := off) (s := A.length + 1) (L := A ++ 10 :: B) (by rw [hd, hs])
        rw [hd] at this; exact this
      rw [e, lexO_none (off := off) (L := A) (firstS_none.2 hne), if_pos rfl, List.nil_append, show off + (A.length + 1) = off + A.length + 1 by omega]
      split
      · rename_i h0; exact lexO_e0 _ _ h0
      · rfl
    · have hs := s1 hne
      have hd : (A ++ 10 :: B).drop (spN A) = A.drop (spN A) ++ 10 :: B := drop_app hsl
      obtain ⟨t1, t2⟩ := tok10 B hne
      have hne2 : (A ++ 10 :: B).drop (spN (A ++ 10 :: B)) ≠ [] := by rw [hs, hd]; intro e; exact hne (List.append_eq_nil_iff.1 e).1
      have hf : firstS off (A ++ 10 :: B) = firstS off A := by rw [firstS_pos hne2, firstS_pos hne, hs, hd, t1, t2]
      have h4 : (firstS off A).2 ≠ 4 := fun e => hne (firstS_none.1 e)
      by_cases h0 : (firstS off A).2 = 0
      · have hst := stepN_le hne
        have hrest : (A ++ 10 :: B).drop (spN A + tokN (A.drop (spN A))) = A.drop (spN A + tokN (A.drop (spN A))) ++ 10 :: B := drop_app hst.1
        obtain ⟨q, hq⟩ : ∃ q, spN A + tokN (A.drop (spN A)) = q := ⟨_, rfl⟩
        have k1 := lexO_ok (off := off) (L := A ++ 10 :: B) (by rw [hf]; exact h0)
        rw [hs, hd, t1, hrest, hf, hq, ih (off + q) (A.drop q) B (by rw [List.length_drop]; omega)] at k1
        have k2 := lexO_ok h0
        rw [hq] at k2
        have hoff : off + q + (A.drop q).length + 1 = off + A.length + 1 := by rw [List.length_drop]; omega
        rw [hoff] at k1
        rw [k1, k2]
        by_cases ha : (lexO (off + q) (A.drop q)).2.2 = 0
        · rw [if_pos ha, if_pos ha, if_pos rfl]
          by_cases hb : (lexO (off + A.length + 1) B).2.2 = 0
          · rw [if_pos hb, if_pos rfl, if_pos hb]; rfl
          · rw [if_neg hb, if_neg hb, if_neg hb]
        · rw [if_neg ha, if_neg ha, if_neg ha]
      · rw [lexO_bad (off := off) (L := A ++ 10 :: B) (by rw [hf]; exact h4) (by rw [hf]; exact h0), hf, lexO_bad h4 h0, if_neg h0]
/-- A text that stands further behind. -/
def shT (k : Nat) (t : Tok) : Tok := (t.1, t.2.1 + (k : Int), t.2.2.1 + (k : Int), t.2.2.2.1, t.2.2.2.2)
theorem lex_shift (k : Nat) : ∀ (f off : Nat) (L : List UInt8), L.length ≤ f → lexO (off + k) L = if (lexO off L).2.2 = 0 then ((lexO off L).1.map (shT k), (0, 0), 0) else ([], ((lexO off L).2.1.1 + (k : Int), (lexO off L).2.1.2 + (k : Int)), (lexO off L).2.2) := by
  intro f
  induction f with
  | zero =>
    intro off L h
    obtain rfl : L = [] := List.eq_nil_of_length_eq_zero (by omega)
    rw [lexO_none (by rw [firstS_nil]), lexO_none (by rw [firstS_nil])]; rfl
  | succ f ih =>
    intro off L h
    by_cases hne : L.drop (spN L) = []
    · rw [lexO_none (firstS_none.2 hne), lexO_none (firstS_none.2 hne)]; rfl
    have e : firstS (off + k) L = (shT k (firstS off L).1, (firstS off L).2) := by
      rw [firstS_pos hne, firstS_pos hne]
      unfold shT
      simp only [Prod.mk.injEq, and_true, true_and]
      omega
    have h4 : (firstS off L).2 ≠ 4 := fun e => hne (firstS_none.1 e)
    by_cases h0 : (firstS off L).2 = 0
    · have hst := stepN_le hne
      have k1 := lexO_ok (off := off + k) (L := L) (by rw [e]; exact h0)
      have k2 := lexO_ok h0
      obtain ⟨q, hq⟩ : ∃ q, spN L + tokN (L.drop (spN L)) = q := ⟨_, rfl⟩
      rw [hq, e, show off + k + q = off + q + k by omega, ih (off + q) (L.drop q) (by rw [List.length_drop]; omega)] at k1
      rw [hq] at k2
      rw [k1, k2]
      by_cases ha : (lexO (off + q) (L.drop q)).2.2 = 0
      · rw [if_pos ha, if_pos ha, if_pos rfl, if_pos rfl]; rfl
      · rw [if_neg ha, if_neg ha, if_neg ha, if_neg ha]
    · rw [lexO_bad (off := off + k) (by rw [e]; exact h4) (by rw [e]; exact h0), lexO_bad h4 h0, e, if_neg h0]; rfl
end Go.Proofs.YtlpbhncdkhppkaaDoor
