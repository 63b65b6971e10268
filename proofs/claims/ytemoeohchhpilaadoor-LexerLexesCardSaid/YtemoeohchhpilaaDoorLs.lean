/- The lexer's reading is local: cut texts, longer texts (mathematics). -/
import Derived.Test.YtemoeohchhpilaaDoorLr
namespace Go.Proofs.YtemoeohchhpilaaDoor

theorem dec_form {L : List UInt8} (h : (dec L).2.2 = 0) : isR (dec L).1 = true ∧ (dec L).2.1 = wO (dec L).1 ∧ (∃ t, L = enc (dec L).1 ++ t) ∧ dec L = ((dec L).1, wO (dec L).1, 0) := by
  obtain ⟨h1, h2, h3⟩ := dec_ok (L := L) (r := (dec L).1) (n := (dec L).2.1) (by rw [← h])
  exact ⟨h1, h2, h3, by rw [← h2, ← h]⟩
theorem dec_app {L M : List UInt8} (h : (dec L).2.2 = 0) : dec (L ++ M) = dec L := by
  obtain ⟨h1, h2, ⟨t, h3⟩, h4⟩ := dec_form h
  have : L ++ M = enc (dec L).1 ++ (t ++ M) := by rw [← List.append_assoc, ← h3]
  rw [this, dec_enc h1, h4]
theorem dec_cut {L : List UInt8} {k : Nat} (h : (dec L).2.2 = 0) (hk : (dec L).2.1 ≤ k) : dec (L.take k) = dec L := by
  obtain ⟨h1, h2, ⟨t, h3⟩, h4⟩ := dec_form h
  have e : L.take k = enc (dec L).1 ++ t.take (k - wO (dec L).1) := by
    conv => lhs; rw [h3]
    rw [List.take_append, enc_len, List.take_of_length_le (by rw [enc_len]; omega)]
  rw [e, dec_enc h1, h4]
theorem dec_cut_ok {L : List UInt8} {k : Nat} (h : (dec (L.take k)).2.2 = 0) : dec L = dec (L.take k) ∧ (dec L).2.1 ≤ k := by
  have h1 := dec_app (M := L.drop k) h
  rw [List.take_append_drop] at h1
  refine ⟨h1, ?_⟩
  have := (dec_wd h).2.1
  rw [h1]
  rw [List.length_take] at this
  omega
theorem dec_cut_no {L : List UInt8} {k : Nat} (h : (dec L).2.2 ≠ 0) : (dec (L.take k)).2.2 ≠ 0 := fun e => h (by rw [(dec_cut_ok e).1]; exact e)
/-- All bytes of a rune but the first are above 127. -/
theorem enc_tail {r : Int} (hr : isR r = true) : ∀ c ∈ (enc r).drop 1, 128 ≤ ub c := by
  intro c hc
  have hb := isR_iff.1 hr
  rcases isR_forms hr with ⟨a, b⟩ | ⟨a, b⟩ | ⟨a, b⟩ | ⟨a, b⟩
  · rw [enc_1 a b] at hc; simp at hc
  · rw [enc_2 a b] at hc
    simp only [List.drop_succ_cons, List.drop_zero, List.mem_singleton] at hc
    subst hc; rw [ub_u8 (by omega)]; omega
  · rw [enc_3 hr a b] at hc
    simp only [List.drop_succ_cons, List.drop_zero, List.mem_cons, List.not_mem_nil, or_false] at hc
    rcases hc with rfl | rfl <;> (rw [ub_u8 (by omega)]; omega)
  · rw [enc_4 a b] at hc
    simp only [List.drop_succ_cons, List.drop_zero, List.mem_cons, List.not_mem_nil, or_false] at hc
    rcases hc with rfl | rfl | rfl <;> (rw [ub_u8 (by omega)]; omega)
/-- A byte below 128 behind a text that no rune begins makes none. -/
theorem dec_app_lo {L M : List UInt8} {c : UInt8} (hL : L ≠ []) (h : (dec L).2.2 ≠ 0) (hc : ub c < 128) : (dec (L ++ c :: M)).2.2 ≠ 0 := by
  intro e
  obtain ⟨h1, h2, ⟨t, h3⟩, h4⟩ := dec_form e
  obtain ⟨r, hr⟩ : ∃ r, (dec (L ++ c :: M)).1 = r := ⟨_, rfl⟩
  rw [hr] at h1 h3
  have hn := List.length_pos_iff.2 hL
  by_cases hlen : (enc r).length ≤ L.length
  · have h5 : L = enc r ++ L.drop (enc r).length := by
      have h6 := congrArg (List.take (enc r).length) h3
      rw [List.take_append_of_le_length hlen, List.take_left] at h6
      conv => lhs; rw [← List.take_append_drop (enc r).length L, h6]
    apply h
    rw [h5, dec_enc h1]
  · have h6 := congrArg (List.drop 1) h3
    rw [List.drop_append_of_le_length (by omega), List.drop_append_of_le_length (by omega)] at h6
    have h7 : c ∈ (enc r).drop 1 := by
      have h8 := congrArg (fun l => l[L.length - 1]?) h6
      rw [List.getElem?_append_right (by rw [List.length_drop]; omega), List.length_drop, Nat.sub_self, List.getElem?_cons_zero, List.getElem?_append_left (by rw [List.length_drop]; omega)] at h8
      exact List.mem_of_getElem? h8.symm
    have := enc_tail h1 c h7
    omega

theorem drop_take' {l : List UInt8} {k n : Nat} : (l.take k).drop n = (l.drop n).take (k - n) := by rw [List.drop_take]
theorem drop_app {L M : List UInt8} {n : Nat} (h : n ≤ L.length) : (L ++ M).drop n = L.drop n ++ M := List.drop_append_of_le_length h
/-- Runs. -/
theorem run_cut (p : Int → Bool) : ∀ (f : Nat) (L : List UInt8) (k : Nat), L.length ≤ f → runN p L ≤ k → runN p (L.take k) = runN p L := by
  intro f
  induction f with
  | zero => intro L k h _; obtain rfl : L = [] := List.eq_nil_of_length_eq_zero (by omega); rw [List.take_nil]
  | succ f ih =>
    intro L k h hk
    by_cases hs : (dec L).2.2 = 0 ∧ p (dec L).1 = true
    · have hw := dec_wd hs.1
      rw [runN_step hs.1 hs.2] at hk ⊢
      have e := dec_cut (k := k) hs.1 (by omega)
      rw [runN_step (by rw [e]; exact hs.1) (by rw [e]; exact hs.2), e, drop_take', ih (L.drop (dec L).2.1) _ (by rw [List.length_drop]; omega) (by omega)]
    · rw [runN_stop hs]
      refine runN_stop fun h2 => hs ?_
      have e := (dec_cut_ok h2.1).1
      rw [e]; exact h2
/-- A run that goes to the end goes on. -/
theorem run_app (p : Int → Bool) : ∀ (f : Nat) (L M : List UInt8), L.length ≤ f → runN p L = L.length → runN p (L ++ M) = L.length + runN p M := by
  intro f
  induction f with
  | zero => intro L M h _; obtain rfl : L = [] := List.eq_nil_of_length_eq_zero (by omega); simp
  | succ f ih =>
    intro L M h hk
    by_cases hL : L = []
    · subst hL; simp
    have hs : (dec L).2.2 = 0 ∧ p (dec L).1 = true := by
      by_cases hs : (dec L).2.2 = 0 ∧ p (dec L).1 = true
      · exact hs
      · rw [runN_stop hs] at hk; exact absurd (List.eq_nil_of_length_eq_zero hk.symm) hL
    have hw := dec_wd hs.1
    have e := dec_app (M := M) hs.1
    rw [runN_step hs.1 hs.2] at hk
    rw [runN_step (by rw [e]; exact hs.1) (by rw [e]; exact hs.2), e, drop_app hw.2.1, ih (L.drop (dec L).2.1) M (by rw [List.length_drop]; omega) (by rw [List.length_drop]; omega), List.length_drop]
    omega
/-- A run that ends before the text does, ends there in a longer text; so it does before a byte that is not asked for. -/
theorem run_in (p : Int → Bool) : ∀ (f : Nat) (L M : List UInt8), L.length ≤ f → runN p L < L.length → (dec (L.drop (runN p L))).2.2 = 0 → runN p (L ++ M) = runN p L := by
  intro f
  induction f with
  | zero => intro L M h hl _; omega
  | succ f ih =>
    intro L M h hl hd
    by_cases hs : (dec L).2.2 = 0 ∧ p (dec L).1 = true
    · have hw := dec_wd hs.1
      have e := dec_app (M := M) hs.1
      have e2 := runN_step hs.1 hs.2
      rw [e2] at hl hd ⊢
      rw [runN_step (by rw [e]; exact hs.1) (by rw [e]; exact hs.2), e, drop_app hw.2.1, ih (L.drop (dec L).2.1) M (by rw [List.length_drop]; omega) (by rw [List.length_drop]; omega) (by rw [List.drop_drop]; exact hd)]
    · rw [runN_stop hs] at hd ⊢
      rw [List.drop_zero] at hd
      refine runN_stop fun h2 => hs ?_
      rw [dec_app hd] at h2; exact h2
theorem run_lo (p : Int → Bool) {c : UInt8} (hc : ub c < 128) (hp : p (ub c) = false) : ∀ (f : Nat) (L M : List UInt8), L.length ≤ f → runN p (L ++ c :: M) = runN p L := by
  intro f
  induction f with
  | zero =>
    intro L M h
    obtain rfl : L = [] := List.eq_nil_of_length_eq_zero (by omega)
    rw [List.nil_append, runN_stop (L := c :: M) (by rw [dec_c1 hc]; simp [hp]), runN_stop (L := []) (by rw [dec_nil]; simp)]
  | succ f ih =>
    intro L M h
    by_cases hL : L = []
    · subst hL; rw [List.nil_append, runN_stop (L := c :: M) (by rw [dec_c1 hc]; simp [hp]), runN_stop (L := []) (by rw [dec_nil]; simp)]
    by_cases h0 : (dec L).2.2 = 0
    · have hw := dec_wd h0
      have e := dec_app (M := c :: M) h0
      by_cases hs : p (dec L).1 = true
      · rw [runN_step (L := L) h0 hs, runN_step (by rw [e]; exact h0) (by rw [e]; exact hs), e, drop_app hw.2.1, ih (L.drop (dec L).2.1) M (by rw [List.length_drop]; omega)]
      · rw [runN_stop (L := L) (fun h => hs h.2), runN_stop (by rw [e]; exact fun h => hs h.2)]
    · rw [runN_stop (L := L) (fun h => h0 h.1), runN_stop (fun h => dec_app_lo hL h0 hc h.1)]
/-- A run, run through twice. -/
theorem run_stop_at (p : Int → Bool) : ∀ (f : Nat) (L : List UInt8), L.length ≤ f → ¬ ((dec (L.drop (runN p L))).2.2 = 0 ∧ p (dec (L.drop (runN p L))).1 = true) := by
  intro f
  induction f with
  | zero => intro L h; obtain rfl : L = [] := List.eq_nil_of_length_eq_zero (by omega); rw [List.drop_nil, dec_nil]; simp
  | succ f ih =>
    intro L h
    by_cases hs : (dec L).2.2 = 0 ∧ p (dec L).1 = true
    · have hw := dec_wd hs.1
      rw [runN_step hs.1 hs.2, ← List.drop_drop]
      exact ih _ (by rw [List.length_drop]; omega)
    · rw [runN_stop hs, List.drop_zero]; exact hs

/-- Classes of cut and of longer texts. -/
theorem cls_cut {L : List UInt8} {k : Nat} (hk : (clsP L).2 ≤ k) : clsP (L.take k) = clsP L := by
  by_cases h : (dec L).2.2 = 0
  · rw [clsP_ok h] at hk
    have e := dec_cut h hk
    rw [clsP_ok (by rw [e]; exact h), e, clsP_ok h]
  · rw [clsP_no h, clsP_no (dec_cut_no h)]
theorem cls_app {L M : List UInt8} (h : (dec L).2.2 = 0) : clsP (L ++ M) = clsP L := by
  rw [clsP_ok h, clsP_ok (by rw [dec_app h]; exact h), dec_app h]
theorem cls_cut_no {L : List UInt8} {k : Nat} (h : (clsP L).1 ≠ 1 ∧ (clsP L).1 ≠ 6) : (clsP (L.take k)).1 ≠ 1 ∧ (clsP (L.take k)).1 ≠ 6 := by
  by_cases h2 : (dec (L.take k)).2.2 = 0
  · have e := dec_cut_ok h2
    rw [clsP_ok h2, ← e.1, ← clsP_ok (by rw [e.1]; exact h2)]; exact h
  · rw [clsP_no h2]; decide
/-- Spaces and comments. -/
theorem spN_pos_len {L : List UInt8} (h : (clsP L).1 = 1 ∨ (clsP L).1 = 6) : (clsP L).2 ≤ L.length ∧ 1 ≤ (clsP L).2 ∧ (dec L).2.2 = 0 := by
  have h10 : (clsP L).1 ≠ 10 := by omega
  obtain ⟨h0, h1⟩ := clsP_in h10
  rw [h1]
  exact ⟨(dec_wd h0).2.1, (dec_wd h0).1, h0⟩
theorem sp_cut : ∀ (f : Nat) (L : List UInt8) (k : Nat), L.length ≤ f → spN L ≤ k → spN (L.take k) = spN L := by
  intro f
  induction f with
  | zero => intro L k h _; obtain rfl : L = [] := List.eq_nil_of_length_eq_zero (by omega); rw [List.take_nil]
  | succ f ih =>
    intro L k h hk
    by_cases h1 : (clsP L).1 = 1
    · have hw := spN_pos_len (.inl h1)
      rw [spN_space h1] at hk ⊢
      have e := cls_cut (L := L) (k := k) (by omega)
      rw [spN_space (by rw [e]; exact h1), e, drop_take', ih (L.drop (clsP L).2) _ (by rw [List.length_drop]; omega) (by omega)]
    · by_cases h6 : (clsP L).1 = 6
      · have hw := spN_pos_len (.inr h6)
        rw [spN_semi h6] at hk ⊢
        have e := cls_cut (L := L) (k := k) (by omega)
        have hl : lineN ((L.drop (clsP L).2).take (k - (clsP L).2)) = lineN (L.drop (clsP L).2) := run_cut _ _ _ _ (Nat.le_refl _) (by unfold lineN at hk; omega)
        rw [spN_semi (by rw [e]; exact h6), e, drop_take', hl, drop_take', ih (L.drop ((clsP L).2 + lineN (L.drop (clsP L).2))) _ (by rw [List.length_drop]; omega) (by omega)]
      · rw [spN_stop h1 h6]
        have := cls_cut_no (L := L) (k := k) ⟨h1, h6⟩
        exact spN_stop this.1 this.2
theorem sp_end : ∀ (f : Nat) (L : List UInt8), L.length ≤ f → (clsP (L.drop (spN L))).1 ≠ 1 ∧ (clsP (L.drop (spN L))).1 ≠ 6 := by
  intro f
  induction f with
  | zero => intro L h; obtain rfl : L = [] := List.eq_nil_of_length_eq_zero (by omega); rw [List.drop_nil, clsP_nil]; decide
  | succ f ih =>
    intro L h
    by_cases h1 : (clsP L).1 = 1
    · have hw := spN_pos_len (.inl h1)
      rw [spN_space h1, ← List.drop_drop]
      exact ih _ (by rw [List.length_drop]; omega)
    · by_cases h6 : (clsP L).1 = 6
      · have hw := spN_pos_len (.inr h6)
        rw [spN_semi h6, show (clsP L).2 + (lineN (L.drop (clsP L).2) + spN (L.drop ((clsP L).2 + lineN (L.drop (clsP L).2)))) = ((clsP L).2 + lineN (L.drop (clsP L).2)) + spN (L.drop ((clsP L).2 + lineN (L.drop (clsP L).2))) by omega, ← List.drop_drop]
        exact ih _ (by rw [List.length_drop]; omega)
      · rw [spN_stop h1 h6, List.drop_zero]; exact ⟨h1, h6⟩
theorem spN_drop (L : List UInt8) : spN (L.drop (spN L)) = 0 := by
  have := sp_end _ L (Nat.le_refl _)
  exact spN_stop this.1 this.2
end Go.Proofs.YtemoeohchhpilaaDoor
