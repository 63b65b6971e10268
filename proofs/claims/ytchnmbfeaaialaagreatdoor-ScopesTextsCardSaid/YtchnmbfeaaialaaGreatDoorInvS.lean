/- List and ParseList are inverse to each other, second part: mathematics. -/
import Derived.Test.YtchnmbfeaaialaaGreatDoorInvR
namespace Go.Proofs.YtchnmbfeaaialaaGreatDoor
open Go.RowKit Go.PlainAid

theorem goodP_to {p : Option Nat} {P : List NP} (h : goodP p P) : goodP none P := by
  cases P with
  | nil => trivial
  | cons x P => exact ⟨h.1, fun q e => (by cases e), h.2.2⟩
theorem ups_head (x : Int) (k : Nat) (R : List Int) (hk : 0 < k) : ∃ t, ups x k ++ R = x :: t ∧ t = ups (x + 1) (k - 1) ++ R := by
  obtain ⟨j, rfl⟩ : ∃ j, k = j + 1 := ⟨k - 1, by omega⟩
  exact ⟨ups (x + 1) j ++ R, rfl, rfl⟩
theorem ups_at : ∀ (k : Nat) (x : Int) (R : List Int) (j : Nat), j < k → (ups x k ++ R)[j]? = some (x + (j : Int)) := by
  intro k
  induction k with
  | zero => intro x R j h; omega
  | succ k ih =>
    intro x R j h
    cases j with
    | zero => rw [ups, List.cons_append, List.getElem?_cons_zero]; simp
    | succ j =>
      rw [ups, List.cons_append, List.getElem?_cons_succ, ih _ _ _ (by omega)]
      congr 1; omega
theorem exp_head {p : Option Nat} {x : NP} {P : List NP} (h : goodP p (x :: P)) : (expP (x :: P)).head? = some (x.1 : Int) := by
  have h1 := h.1
  obtain ⟨t, ht, _⟩ := ups_head (x.1 : Int) (x.2 + 1 - x.1) (expP P) (by omega)
  rw [expP_cons, ht]; rfl
theorem runN_ups : ∀ (k : Nat) (x : Int) (R : List Int), (∀ b, R.head? = some b → b ≠ x + (k : Int) + 1) → runN x (ups (x + 1) k ++ R) = k := by
  intro k
  induction k with
  | zero =>
    intro x R h
    cases R with
    | nil => rfl
    | cons b R =>
      show runN x (b :: R) = 0
      have := h b rfl
      rw [runN, if_neg (fun e => this (by omega))]
  | succ k ih =>
    intro x R h
    rw [ups, List.cons_append, runN, if_pos rfl, ih (x + 1) R (fun b hb e => h b hb (by omega))]
theorem exp_ne {p : Option Nat} {P : List NP} (h : goodP p P) (he : expP P = []) : P = [] := by
  cases P with
  | nil => rfl
  | cons x P => have := exp_head h; rw [he] at this; cases this
theorem runs_spell : ∀ (f : Nat) (P : List NP) (q : Option Nat) (l : List Int) (p : Nat), goodP q P → l.drop p = expP P → p ≤ l.length → l.length ≤ f + p → runsFrom f l p = spell P := by
  intro f
  induction f with
  | zero =>
    intro P q l p hg hd hp hf
    rw [List.drop_of_length_le (by omega)] at hd
    rw [exp_ne hg hd.symm]; rfl
  | succ f ih =>
    intro P q l p hg hd hp hf
    cases P with
    | nil =>
      have hl : l.length ≤ p := by
        have := congrArg List.length hd
        rw [List.length_drop, show expP [] = [] from rfl, List.length_nil] at this; omega
      rw [runsFrom, List.getElem?_eq_none hl]; rfl
    | cons x P =>
      obtain ⟨h1, h2, h3⟩ := hg
      rw [expP_cons] at hd
      have hat : ∀ j, j < x.2 + 1 - x.1 → l[p + j]? = some ((x.1 : Int) + (j : Int)) := by
        intro j hj
        have := ups_at (x.2 + 1 - x.1) x.1 (expP P) j hj
        rw [← hd, List.getElem?_drop] at this
        exact this
      have hlen : (l.drop p).length = (x.2 + 1 - x.1) + (expP P).length := by rw [hd, List.length_append, ups_len]
      rw [List.length_drop] at hlen
      have h0 : l[p]? = some (x.1 : Int) := by have := hat 0 (by omega); simpa using this
      have hE : runE l p = p + (x.2 + 1 - x.1) := by
        rw [runE_start h0]
        have hd1 : l.drop (p + 1) = ups ((x.1 : Int) + 1) (x.2 - x.1) ++ expP P := by
          rw [← List.drop_drop, hd]
          obtain ⟨t, ht, ht2⟩ := ups_head (x.1 : Int) (x.2 + 1 - x.1) (expP P) (by omega)
          rw [ht, List.drop_succ_cons, List.drop_zero, ht2]
          rw [show x.2 + 1 - x.1 - 1 = x.2 - x.1 by omega]
        rw [hd1, runN_ups _ _ _ (fun b hb e => by
          cases P with
          | nil => cases hb
          | cons y P =>
            rw [exp_head h3] at hb
            have h4 := h3.2.1 _ rfl
            have h5 := Option.some.inj hb
            omega)]
        omega
      have hlast : l[runE l p - 1]? = some (x.2 : Int) := by
        rw [hE, show p + (x.2 + 1 - x.1) - 1 = p + (x.2 - x.1) by omega, hat _ (by omega)]
        congr 1; omega
      have hnext : l.drop (runE l p) = expP P := by
        rw [hE, ← List.drop_drop, hd, List.drop_left' (ups_len _ _)]
      rw [runsFrom, h0, hlast]
      simp only
      rw [ih P (some x.2) l (runE l p) h3 hnext (by rw [hE]; omega) (by rw [hE]; omega)]
      rfl
theorem asc_consW (a : Int) (l : List Int) : ascB (a :: l) = true ↔ (∀ b, l.head? = some b → a < b) ∧ ascB l = true := by
  cases l with
  | nil => exact ⟨fun _ => ⟨fun b h => (by cases h), rfl⟩, fun _ => rfl⟩
  | cons b l =>
    rw [ascB, Bool.and_eq_true, decide_eq_true_iff]
    exact ⟨fun h => ⟨fun c e => by cases e; exact h.1, h.2⟩, fun h => ⟨h.1 b rfl, h.2⟩⟩
theorem asc_ups : ∀ (k : Nat) (x : Int) (R : List Int), ascB R = true → (∀ b, R.head? = some b → x + (k : Int) ≤ b) → ascB (ups x k ++ R) = true := by
  intro k
  induction k with
  | zero => intro x R h _; exact h
  | succ k ih =>
    intro x R h hb
    rw [ups, List.cons_append, asc_consW]
    refine ⟨fun b hh => ?_, ih _ _ h (fun b hh => by have := hb b hh; omega)⟩
    cases k with
    | zero => have := hb b hh; omega
    | succ k => have := Option.some.inj hh; omega
theorem asc_exp : ∀ (P : List NP) (q : Option Nat), goodP q P → ascB (expP P) = true := by
  intro P
  induction P with
  | nil => intro q _; rfl
  | cons x P ih =>
    intro q h
    obtain ⟨h1, h2, h3⟩ := h
    rw [expP_cons]
    refine asc_ups _ _ _ (ih _ h3) fun b hb => ?_
    cases P with
    | nil => cases hb
    | cons y P =>
      rw [exp_head h3] at hb
      have h4 := h3.2.1 _ rfl
      have h5 := Option.some.inj hb
      omega
theorem ups_mem : ∀ (k : Nat) (x n : Int), n ∈ ups x k → x ≤ n ∧ n < x + (k : Int) := by
  intro k
  induction k with
  | zero => intro x n h; cases h
  | succ k ih =>
    intro x n h
    rw [ups, List.mem_cons] at h
    rcases h with rfl | h
    · omega
    · have := ih _ _ h; omega
theorem exp_mem {P : List NP} {q : Option Nat} (h : goodP q P) {n : Int} (hn : n ∈ expP P) : 0 ≤ n ∧ n ≤ (topP P : Int) := by
  unfold expP at hn
  rw [List.mem_flatMap] at hn
  obtain ⟨x, hx, hn⟩ := hn
  have h1 := top_ge P q h x hx
  have h2 := ups_mem _ _ _ hn
  omega
/-- The runs of a list that goes up. -/
theorem runs_of : ∀ (l : List Int), ascB l = true → (∀ n ∈ l, 0 ≤ n) → ∃ P, goodP none P ∧ expP P = l := by
  intro l
  induction l with
  | nil => intro _ _; exact ⟨[], trivial, rfl⟩
  | cons a l ih =>
    intro h h0
    rw [asc_consW] at h
    obtain ⟨P, hg, he⟩ := ih h.2 fun n hn => h0 n (List.mem_cons_of_mem _ hn)
    obtain ⟨u, hu⟩ : ∃ u : Nat, a = (u : Int) := ⟨a.toNat, by have := h0 a (List.mem_cons_self ..); omega⟩
    subst hu
    cases P with
    | nil =>
      refine ⟨[(u, u)], ⟨Nat.le_refl _, fun q e => (by cases e), trivial⟩, ?_⟩
      rw [expP_cons, he]
      show ups (u : Int) (u + 1 - u) ++ l = _
      rw [show u + 1 - u = 1 by omega]; rfl
    | cons x P =>
      have hx := exp_head hg
      rw [he] at hx
      have hlt := h.1 _ hx
      by_cases hs : x.1 = u + 1
      · refine ⟨(u, x.2) :: P, ⟨?_, fun q e => (by cases e), hg.2.2⟩, ?_⟩
        · show u ≤ x.2; have := hg.1; omega
        · have h1 := hg.1
          rw [expP_cons] at he ⊢
          show ups (u : Int) (x.2 + 1 - u) ++ expP P = _
          rw [show x.2 + 1 - u = (x.2 + 1 - x.1) + 1 by omega, ups, List.cons_append, ← he, hs]
          rfl
      · refine ⟨(u, u) :: x :: P, ⟨Nat.le_refl _, fun q e => (by cases e), hg.1, fun q e => ?_, hg.2.2⟩, ?_⟩
        · cases e; show u + 1 < x.1; omega
        · rw [expP_cons, he]
          show ups (u : Int) (u + 1 - u) ++ l = _
          rw [show u + 1 - u = 1 by omega]; rfl
theorem spell_ne {x : NP} : spellOne x ≠ [] ∧ (spellOne x).head? ≠ some 45 := by
  obtain ⟨c, t, he, h1, h2⟩ := natL_head (dec_natL x.1)
  have hc : c ≠ 45 := by rintro rfl; revert h1; decide
  rw [spell_form]
  split
  · rw [he]; exact ⟨by simp, fun e => hc (Option.some.inj e)⟩
  · rw [he]; exact ⟨by simp, fun e => hc (Option.some.inj e)⟩
theorem line_ne {x : NP} {P : List NP} : Lib.join (spell (x :: P)) [44] ≠ [45] := by
  intro e
  have h := spell_ne (x := x)
  have : ∃ r, Lib.join (spell (x :: P)) [44] = spellOne x ++ r := by
    show ∃ r, Lib.join (spellOne x :: spell P) [44] = _
    exact ⟨_, Lib.join_cons _ _ _⟩
  obtain ⟨r, hr⟩ := this
  rw [hr] at e
  cases hs : spellOne x with
  | nil => exact h.1 hs
  | cons c t =>
    rw [hs] at e h
    exact h.2 (congrArg some (List.cons.inj e).1)
theorem max_num : numFrom 0 (Lib.itoa 1000000000) = 1000000000 ∧ natL (Lib.itoa 1000000000) = true := by
  have : (1000000000 : Int) = ((1000000000 : Nat) : Int) := rfl
  rw [this, itoa_nat]
  exact ⟨dec_num _, dec_natL _⟩
theorem top_fits (n : Nat) : lessL (Lib.itoa 1000000000) (Lib.decDigits n) = decide (1000000000 < n) := by
  rw [lessL_num max_num.2 (dec_natL n), max_num.1, dec_num]
/-- ParseList takes what List gives. -/
theorem parse_list {l : List Int} (h : (listS l).2 = 0) : parseV (listS l).1 = (l, 0) := by
  unfold listS at h ⊢
  by_cases h1 : 500 < l.length
  · rw [if_pos h1] at h; cases h
  by_cases h2 : badNum l = true
  · rw [if_neg h1, if_pos h2] at h; cases h
  by_cases h3 : ascB l = false
  · rw [if_neg h1, if_neg h2, if_pos h3] at h; cases h
  rw [if_neg h1, if_neg h2, if_neg h3]
  by_cases h4 : l = []
  · subst h4; rfl
  rw [if_neg h4]
  simp only
  have hb : ∀ n ∈ l, 0 ≤ n ∧ n ≤ 1000000000 := by
    intro n hn
    have h5 := Bool.eq_false_iff.2 h2
    unfold badNum at h5
    rw [List.any_eq_false] at h5
    have := h5 n hn
    simp at this; omega
  obtain ⟨P, hg, he⟩ := runs_of l (by simpa using h3) fun n hn => (hb n hn).1
  have hne : P ≠ [] := by rintro rfl; exact h4 he.symm
  obtain ⟨x, Q, rfl⟩ : ∃ x Q, P = x :: Q := by cases P with | nil => exact absurd rfl hne | cons x Q => exact ⟨x, Q, rfl⟩
  have hR : runsFrom l.length l 0 = spell (x :: Q) := runs_spell _ _ none l 0 hg (by rw [List.drop_zero]; exact he.symm) (Nat.zero_le _) (by omega)
  have hle : ∀ y ∈ x :: Q, y.1 ≤ y.2 ∧ y.2 ≤ 1000000000 := by
    intro y hy
    have h5 := top_ge _ _ hg y hy
    have hm : (y.2 : Int) ∈ l := by
      rw [← he]; unfold expP
      rw [List.mem_flatMap]
      refine ⟨y, hy, ?_⟩
      have := ups_at (y.2 + 1 - y.1) y.1 [] (y.2 - y.1) (by omega)
      rw [List.append_nil] at this
      have := List.mem_of_getElem? this
      rw [show (y.1 : Int) + ((y.2 - y.1 : Nat) : Int) = y.2 by omega] at this
      exact this
    have := (hb _ hm).2
    omega
  have htop : topP (x :: Q) ≤ 1000000000 := by
    unfold topP
    cases hl : (x :: Q).getLast? with
    | none => simp
    | some r => exact (hle r (List.mem_of_getLast? hl)).2
  rw [hR]
  unfold parseV
  rw [if_neg line_ne, cut_join 44 _ (by simp [spell]) (fun t ht => by
    unfold spell at ht
    rw [List.mem_map] at ht
    obtain ⟨y, _, rfl⟩ := ht
    exact spell_no y)]
  have hV : runsV none (spell (x :: Q)) = some ((x :: Q).map txP) := runsV_to (x :: Q) none hg
  rw [hV]
  simp only
  rw [last_top hne, top_fits, if_neg (by rw [decide_eq_true_iff]; omega), exp_to _ [] hle (by rw [he]; simp; omega), he]
  rfl
/-- List gives back what ParseList took. -/
theorem list_parse {L : List UInt8} (h : (parseV L).2 = 0) : listS (parseV L).1 = (L, 0) := by
  unfold parseV at h ⊢
  by_cases h1 : L = [45]
  · subst h1; rfl
  rw [if_neg h1] at h ⊢
  cases hV : runsV none (cutF 44 [] L) with
  | none => rw [hV] at h; cases h
  | some rs =>
    rw [hV] at h
    simp only at h ⊢
    obtain ⟨P, hg, hs, rfl⟩ := runsV_from _ none _ hV
    have hne : P ≠ [] := by
      rintro rfl
      obtain ⟨y, r, hy⟩ := cutF_ne 44 [] L
      rw [hy] at hs; cases hs
    rw [last_top hne, top_fits] at h ⊢
    by_cases h2 : 1000000000 < topP P
    · rw [if_pos (decide_eq_true h2)] at h; cases h
    rw [if_neg (by rw [decide_eq_true_iff]; exact h2)] at h ⊢
    have hle : ∀ y ∈ P, y.1 ≤ y.2 ∧ y.2 ≤ 1000000000 := fun y hy => by have := top_ge _ _ hg y hy; omega
    cases hE : expV [] (P.map txP) with
    | none => rw [hE] at h; cases h
    | some l =>
      simp only
      obtain ⟨e1, e2⟩ := exp_from P [] l hle (by simp) hE
      rw [List.nil_append] at e1
      subst e1
      have hJ := join_cut 44 L []
      rw [List.nil_append, hs] at hJ
      unfold listS
      rw [if_neg (by omega), if_neg (by
        rw [Bool.not_eq_true]
        unfold badNum
        rw [List.any_eq_false]
        intro n hn
        have := exp_mem hg hn
        simp; omega), if_neg (by rw [asc_exp _ _ hg]; simp), if_neg (fun e => hne (exp_ne hg e)), runs_spell _ P none _ 0 hg (List.drop_zero ..) (Nat.zero_le _) (by omega), hJ]
end Go.Proofs.YtchnmbfeaaialaaGreatDoor
