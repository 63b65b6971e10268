/- Tokens as the reference reads them (mathematics). -/
import Derived.Test.YtemoeohchhpilaaDoorLm
namespace Go.Proofs.YtemoeohchhpilaaDoor

theorem clsP_ok {L : List UInt8} (h : (dec L).2.2 = 0) : clsP L = (clsS (dec L).1, (dec L).2.1) := by unfold clsP; rw [if_pos h]
theorem clsP_no {L : List UInt8} (h : (dec L).2.2 ≠ 0) : clsP L = (10, 1) := by unfold clsP; rw [if_neg h]
theorem clsP_lo {c : UInt8} {t : List UInt8} (h : ub c < 128) : clsP (c :: t) = (clsS (ub c), 1) := by
  rw [clsP_ok (by rw [dec_c1 h]), dec_c1 h]
theorem cls_fin : ∀ n : Fin 128, (clsS (ub (UInt8.ofNat n.val)) = 1 ↔ (n.val = 9 ∨ n.val = 10 ∨ n.val = 13 ∨ n.val = 32)) ∧ (clsS (ub (UInt8.ofNat n.val)) = 2 ↔ (n.val = 40 ∨ n.val = 91)) ∧ (clsS (ub (UInt8.ofNat n.val)) = 3 ↔ (n.val = 41 ∨ n.val = 93))
    ∧ (clsS (ub (UInt8.ofNat n.val)) = 4 ↔ n.val = 39) ∧ (clsS (ub (UInt8.ofNat n.val)) = 5 ↔ n.val = 35) ∧ (clsS (ub (UInt8.ofNat n.val)) = 6 ↔ n.val = 59) := by decide +kernel
theorem cls_lo (c : UInt8) (h : ub c < 128) : (clsS (ub c) = 1 ↔ (c = 9 ∨ c = 10 ∨ c = 13 ∨ c = 32)) ∧ (clsS (ub c) = 2 ↔ (c = 40 ∨ c = 91)) ∧ (clsS (ub c) = 3 ↔ (c = 41 ∨ c = 93)) ∧ (clsS (ub c) = 4 ↔ c = 39) ∧ (clsS (ub c) = 5 ↔ c = 35) ∧ (clsS (ub c) = 6 ↔ c = 59) := by
  have hn : c.toNat < 128 := by unfold ub at h; omega
  have H := cls_fin ⟨c.toNat, hn⟩
  have e : UInt8.ofNat c.toNat = c := by simp
  simp only [e] at H
  have E : ∀ k : Nat, k < 256 → (c.toNat = k ↔ c = UInt8.ofNat k) := fun k hk => ⟨fun h => by rw [← h, e], fun h => by rw [h]; simp; omega⟩
  rw [E 9 (by omega), E 10 (by omega), E 13 (by omega), E 32 (by omega), E 40 (by omega), E 91 (by omega), E 41 (by omega), E 93 (by omega), E 39 (by omega), E 35 (by omega), E 59 (by omega)] at H
  exact H
theorem cls_hi_fin : ∀ n : Fin 33, clsS (128 + (n.val : Int)) = 10 := by decide +kernel
theorem cls_hi {r : Int} (h : isR r = true) (hr : 128 ≤ r) : clsS r = 9 ∨ clsS r = 10 := by
  by_cases h1 : 161 ≤ r
  · left; unfold clsS; rw [h, if_neg (by simp), if_pos h1]
  · right
    have := cls_hi_fin ⟨(r - 128).toNat, by omega⟩
    have e : (128 + (((r - 128).toNat : Nat) : Int)) = r := by omega
    rw [← e]; exact this
/-- What begins a text that a rune begins. -/
theorem dec_head {L : List UInt8} (h : (dec L).2.2 = 0) : ∃ c t, L = c :: t ∧ ((ub c < 128 ∧ dec L = (ub c, 1, 0)) ∨ (194 ≤ ub c ∧ 128 ≤ (dec L).1 ∧ isR (dec L).1 = true)) := by
  cases L with
  | nil => rw [dec_nil] at h; cases h
  | cons c t =>
    refine ⟨c, t, rfl, ?_⟩
    obtain ⟨h1, h2, u, h3⟩ := dec_ok (L := c :: t) (r := (dec (c :: t)).1) (n := (dec (c :: t)).2.1) (by rw [← h])
    by_cases hc : ub c < 128
    · exact .inl ⟨hc, dec_c1 hc⟩
    · right
      have hw : wA (ub c) ≠ 0 := fun e => by rw [dec_c0 e] at h; cases h
      have hlo : 194 ≤ ub c := by
        rcases wA_forms (ub c) with a | a | a | a | a
        · omega
        · exact absurd (wA_0 a) hw
        · exact a.1
        · omega
        · omega
      refine ⟨hlo, ?_, h1⟩
      by_cases hr : 128 ≤ (dec (c :: t)).1
      · exact hr
      · exfalso
        have h0 := isR_iff.1 h1
        rw [enc_1 h0.1 (by omega)] at h3
        have hcc : c = u8 (dec (c :: t)).1 := by
          have h4 := congrArg List.head? h3
          rw [List.cons_append, List.head?_cons, List.head?_cons] at h4
          exact Option.some.inj h4
        have h5 : ub c = (dec (c :: t)).1 := (congrArg ub hcc).trans (ub_u8 (by omega))
        omega
theorem cls_head {L : List UInt8} {k : Int} (h : (clsP L).1 = k) (hk : k ≠ 9 ∧ k ≠ 10) : ∃ c t, L = c :: t ∧ ub c < 128 ∧ clsS (ub c) = k ∧ (clsP L).2 = 1 ∧ (dec L).2.2 = 0 := by
  by_cases h0 : (dec L).2.2 = 0
  · rw [clsP_ok h0] at h ⊢
    obtain ⟨c, t, h1, h2⟩ := dec_head h0
    rcases h2 with ⟨h2, h3⟩ | ⟨_, h2, h3⟩
    · exact ⟨c, t, h1, h2, by rw [h3] at h; exact h, by rw [h3], h0⟩
    · rcases cls_hi h3 h2 with h4 | h4 <;> omega
  · rw [clsP_no h0] at h; simp only at h; omega
theorem clsP_at {c : UInt8} {t : List UInt8} (h : ub c < 128) {k : Int} (hk : clsS (ub c) = k) : clsP (c :: t) = (k, 1) := by rw [clsP_lo h, hk]
theorem head_open {L : List UInt8} (h : (clsP L).1 = 2) : ∃ t, (L = 40 :: t ∨ L = 91 :: t) ∧ (clsP L).2 = 1 := by
  obtain ⟨c, t, h1, h2, h3, h4, _⟩ := cls_head h (by omega)
  rcases ((cls_lo c h2).2.1).1 h3 with h5 | h5 <;> subst h5
  · exact ⟨t, .inl h1, h4⟩
  · exact ⟨t, .inr h1, h4⟩
theorem head_close {L : List UInt8} (h : (clsP L).1 = 3) : ∃ t, (L = 41 :: t ∨ L = 93 :: t) ∧ (clsP L).2 = 1 := by
  obtain ⟨c, t, h1, h2, h3, h4, _⟩ := cls_head h (by omega)
  rcases ((cls_lo c h2).2.2.1).1 h3 with h5 | h5 <;> subst h5
  · exact ⟨t, .inl h1, h4⟩
  · exact ⟨t, .inr h1, h4⟩
theorem head_quote {L : List UInt8} (h : (clsP L).1 = 4) : ∃ t, L = 39 :: t ∧ (clsP L).2 = 1 := by
  obtain ⟨c, t, h1, h2, h3, h4, _⟩ := cls_head h (by omega)
  have h5 := ((cls_lo c h2).2.2.2.1).1 h3; subst h5
  exact ⟨t, h1, h4⟩
theorem head_hash {L : List UInt8} (h : (clsP L).1 = 5) : ∃ t, L = 35 :: t ∧ (clsP L).2 = 1 := by
  obtain ⟨c, t, h1, h2, h3, h4, _⟩ := cls_head h (by omega)
  have h5 := ((cls_lo c h2).2.2.2.2.1).1 h3; subst h5
  exact ⟨t, h1, h4⟩
theorem head_semi {L : List UInt8} (h : (clsP L).1 = 6) : ∃ t, L = 59 :: t ∧ (clsP L).2 = 1 := by
  obtain ⟨c, t, h1, h2, h3, h4, _⟩ := cls_head h (by omega)
  have h5 := ((cls_lo c h2).2.2.2.2.2).1 h3; subst h5
  exact ⟨t, h1, h4⟩
theorem cls_40 (t : List UInt8) : clsP (40 :: t) = (2, 1) := clsP_at (by decide) (by decide +kernel)
theorem cls_91 (t : List UInt8) : clsP (91 :: t) = (2, 1) := clsP_at (by decide) (by decide +kernel)
theorem cls_41 (t : List UInt8) : clsP (41 :: t) = (3, 1) := clsP_at (by decide) (by decide +kernel)
theorem cls_93 (t : List UInt8) : clsP (93 :: t) = (3, 1) := clsP_at (by decide) (by decide +kernel)
theorem cls_39 (t : List UInt8) : clsP (39 :: t) = (4, 1) := clsP_at (by decide) (by decide +kernel)
theorem cls_35 (t : List UInt8) : clsP (35 :: t) = (5, 1) := clsP_at (by decide) (by decide +kernel)
theorem cls_59 (t : List UInt8) : clsP (59 :: t) = (6, 1) := clsP_at (by decide) (by decide +kernel)
theorem cls_10 (t : List UInt8) : clsP (10 :: t) = (1, 1) := clsP_at (by decide) (by decide +kernel)
theorem cls_32 (t : List UInt8) : clsP (32 :: t) = (1, 1) := clsP_at (by decide) (by decide +kernel)
theorem mk_other {c : UInt8} {r : List UInt8} (h : c ≠ 40 ∧ c ≠ 91 ∧ c ≠ 41 ∧ c ≠ 93 ∧ c ≠ 39 ∧ c ≠ 35) : mkT (c :: r) = (0, 0, [], 6) := by
  obtain ⟨h1, h2, h3, h4, h5, h6⟩ := h
  have n : ∀ {a : UInt8} {s : List UInt8}, c ≠ a → ¬ (a :: s = c :: r) := fun hne e => hne (List.cons.inj e).1.symm
  unfold mkT marksS
  simp only [mkGo, if_neg (n h1), if_neg (n h2), if_neg (n h3), if_neg (n h4), if_neg (n h5), if_neg (n h6)]
theorem isWc_no {k : Int} (h : k ≠ 9 ∧ k ≠ 7 ∧ k ≠ 8) : isWc k = false := by
  unfold isWc; rw [beq_eq_false_iff_ne.2 h.1, beq_eq_false_iff_ne.2 h.2.1, beq_eq_false_iff_ne.2 h.2.2]; rfl
theorem isWc_iff {k : Int} : isWc k = true ↔ k = 9 ∨ k = 7 ∨ k = 8 := by
  unfold isWc; simp [or_assoc]
theorem tokN_else {L : List UInt8} (h : isWc (clsP L).1 = false) (h5 : (clsP L).1 ≠ 5) : tokN L = (clsP L).2 := by
  unfold tokN; rw [h, if_neg (by decide), if_neg h5]
theorem tokT_else {L : List UInt8} (h : isWc (clsP L).1 = false) : tokT L = mkT (L.take (tokN L)) := by unfold tokT; rw [h, if_neg (by decide)]
theorem tok_40 (t : List UInt8) : tokN (40 :: t) = 1 ∧ tokT (40 :: t) = (1, 1, [], 0) := by
  have h1 : tokN (40 :: t) = 1 := by rw [tokN_else (by rw [cls_40]; rfl) (by rw [cls_40]; decide), cls_40]
  exact ⟨h1, by rw [tokT_else (by rw [cls_40]; rfl), h1]; rfl⟩
theorem tok_91 (t : List UInt8) : tokN (91 :: t) = 1 ∧ tokT (91 :: t) = (1, 2, [], 0) := by
  have h1 : tokN (91 :: t) = 1 := by rw [tokN_else (by rw [cls_91]; rfl) (by rw [cls_91]; decide), cls_91]
  exact ⟨h1, by rw [tokT_else (by rw [cls_91]; rfl), h1]; rfl⟩
theorem tok_41 (t : List UInt8) : tokN (41 :: t) = 1 ∧ tokT (41 :: t) = (2, 1, [], 0) := by
  have h1 : tokN (41 :: t) = 1 := by rw [tokN_else (by rw [cls_41]; rfl) (by rw [cls_41]; decide), cls_41]
  exact ⟨h1, by rw [tokT_else (by rw [cls_41]; rfl), h1]; rfl⟩
theorem tok_93 (t : List UInt8) : tokN (93 :: t) = 1 ∧ tokT (93 :: t) = (2, 2, [], 0) := by
  have h1 : tokN (93 :: t) = 1 := by rw [tokN_else (by rw [cls_93]; rfl) (by rw [cls_93]; decide), cls_93]
  exact ⟨h1, by rw [tokT_else (by rw [cls_93]; rfl), h1]; rfl⟩
theorem tok_39 (t : List UInt8) : tokN (39 :: t) = 1 ∧ tokT (39 :: t) = (3, 0, [], 0) := by
  have h1 : tokN (39 :: t) = 1 := by rw [tokN_else (by rw [cls_39]; rfl) (by rw [cls_39]; decide), cls_39]
  exact ⟨h1, by rw [tokT_else (by rw [cls_39]; rfl), h1]; rfl⟩
theorem tok_skip (t : List UInt8) : tokN (35 :: 59 :: t) = 2 ∧ tokT (35 :: 59 :: t) = (4, 0, [], 0) := by
  have h1 : tokN (35 :: 59 :: t) = 2 := by
    unfold tokN; rw [cls_35, if_neg (by decide), if_pos rfl]; rfl
  exact ⟨h1, by rw [tokT_else (by rw [cls_35]; rfl), h1]; rfl⟩
theorem tok_hash {t : List UInt8} (h : t.head? ≠ some 59) : tokN (35 :: t) = 1 + wordN t ∧ tokT (35 :: t) = if 35 :: t.take (wordN t) = [35, 116] then (6, 1, [], 0) else if 35 :: t.take (wordN t) = [35, 102] then (6, 0, [], 0) else (0, 0, [], 6) := by
  have h1 : tokN (35 :: t) = 1 + wordN t := by
    unfold tokN; rw [cls_35, if_neg (by decide), if_pos rfl]
    show (if t.head? = some 59 then _ else 1 + wordN t) = _
    rw [if_neg h]
  refine ⟨h1, ?_⟩
  rw [tokT_else (by rw [cls_35]; rfl), h1, Nat.add_comm, List.take_succ_cons]
  obtain ⟨x, hx⟩ : ∃ x, t.take (wordN t) = x := ⟨_, rfl⟩
  have h59 : ¬ ([35, 59] = 35 :: x) := by
    intro e
    have e2 := (List.cons.inj e).2
    apply h
    rw [← hx] at e2
    cases t with
    | nil => simp at e2
    | cons a r =>
      cases hw : wordN (a :: r) with
      | zero => rw [hw] at e2; cases e2
      | succ m => rw [hw, List.take_succ_cons] at e2; rw [List.head?_cons, ← (List.cons.inj e2).1]
  rw [hx]
  unfold mkT marksS
  simp only [mkGo]
  rw [if_neg (by simp), if_neg (by simp), if_neg (by simp), if_neg (by simp), if_neg (by simp), if_neg h59]
  by_cases h2 : (35 : UInt8) :: x = [35, 116]
  · rw [if_pos h2, if_neg (by rw [h2]; decide), if_pos h2.symm]
  · rw [if_neg h2]
    by_cases h3 : (35 : UInt8) :: x = [35, 102]
    · rw [if_pos h3, if_pos h3.symm]
    · rw [if_neg h3, if_neg (fun e => h3 e.symm), if_neg (fun e => h2 e.symm)]
theorem tok_other {L : List UInt8} (hL : L ≠ []) (h : isWc (clsP L).1 = false) (h2 : (clsP L).1 ≠ 2) (h3 : (clsP L).1 ≠ 3) (h4 : (clsP L).1 ≠ 4) (h5 : (clsP L).1 ≠ 5) : tokN L = (clsP L).2 ∧ tokT L = (0, 0, [], 6) := by
  refine ⟨tokN_else h h5, ?_⟩
  rw [tokT_else h, tokN_else h h5]
  have hp := clsP_pos L
  cases L with
  | nil => exact absurd rfl hL
  | cons c t =>
    obtain ⟨m, hm⟩ : ∃ m, (clsP (c :: t)).2 = m + 1 := ⟨(clsP (c :: t)).2 - 1, by omega⟩
    rw [hm, List.take_succ_cons]
    refine mk_other ⟨?_, ?_, ?_, ?_, ?_, ?_⟩ <;> (rintro rfl)
    · rw [cls_40] at h2; exact h2 rfl
    · rw [cls_91] at h2; exact h2 rfl
    · rw [cls_41] at h3; exact h3 rfl
    · rw [cls_93] at h3; exact h3 rfl
    · rw [cls_39] at h4; exact h4 rfl
    · rw [cls_35] at h5; exact h5 rfl
theorem tok_word {L : List UInt8} (h : isWc (clsP L).1 = true) : tokN L = wordN L ∧ tokT L = wordT (L.take (wordN L)) ∧ (dec L).2.2 = 0 := by
  have h10 : (clsP L).1 ≠ 10 := by rcases isWc_iff.1 h with e | e | e <;> omega
  obtain ⟨h0, h1⟩ := clsP_in h10
  have e : tokN L = wordN L := by
    unfold tokN wordN
    rw [if_pos h]
    rw [h1] at h ⊢
    rw [runN_step (L := L) h0 (by rw [isWr_c]; exact h)]
  exact ⟨e, by unfold tokT; rw [if_pos h, e], h0⟩

/-- A comment, byte by byte. -/
theorem line_10 (t : List UInt8) : lineN (10 :: t) = 0 := by
  unfold lineN; exact runN_stop (by rw [dec_c1 (by decide)]; decide)
theorem line_lo {c : UInt8} {t : List UInt8} (h : ub c < 128) (h10 : c ≠ 10) : lineN (c :: t) = 1 + lineN t := by
  unfold lineN
  rw [runN_step (by rw [dec_c1 h]) (by rw [dec_c1 h]; unfold notLf; exact decide_eq_true (fun e => h10 (ub_inj (b := 10) e))), dec_c1 h]; rfl
theorem line_hi {L : List UInt8} (h0 : (dec L).2.2 = 0) (hr : (dec L).1 ≠ 10) : lineN L = (dec L).2.1 + lineN (L.drop (dec L).2.1) := by
  unfold lineN; exact runN_step h0 (decide_eq_true hr)
theorem line_bad {L : List UInt8} (h0 : (dec L).2.2 ≠ 0) : lineN L = 0 ∧ spN L = 0 := by
  refine ⟨by unfold lineN; exact runN_stop (fun h => h0 h.1), ?_⟩
  have e := clsP_no h0
  exact spN_stop (by rw [e]; decide) (by rw [e]; decide)
theorem spN_line {L : List UInt8} (h : (clsP L).1 = 6) : spN L = lineN L + spN (L.drop (lineN L)) := by
  obtain ⟨t, rfl, _⟩ := head_semi h
  rw [spN_semi h, cls_59]
  have e : lineN (59 :: t) = 1 + lineN t := line_lo (by decide) (by decide)
  rw [e, List.drop_succ_cons, List.drop_zero]
  show 1 + (lineN t + spN (List.drop (1 + lineN t) (59 :: t))) = _
  omega
end Go.Proofs.YtemoeohchhpilaaDoor
