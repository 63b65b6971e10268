/- Natural numbers and their decimal forms: mathematics. -/
import Derived.Test.YtchnmbfeaaialaaGreatDoorLawLs
import Derived.Lib.ItoaMem
namespace Go.Proofs.YtchnmbfeaaialaaGreatDoor
open Go.RowKit Go.PlainAid

theorem natL_iff {a : List UInt8} : natL a = true ↔ a ≠ [] ∧ digL a = true ∧ (a.head? = some 48 → a.length ≤ 1) := by
  unfold natL
  rw [Bool.and_eq_true, decide_eq_true_iff]
  constructor
  · rintro ⟨⟨h1, h2⟩, h3⟩
    exact ⟨fun e => h1 (by rw [e]; rfl), h3, fun e => Nat.le_of_not_lt fun k => h2 ⟨e, k⟩⟩
  · rintro ⟨h1, h2, h3⟩
    exact ⟨⟨fun e => h1 (List.eq_nil_of_length_eq_zero e), fun e => absurd (h3 e.1) (by omega)⟩, h2⟩
theorem digL_app {a b : List UInt8} : digL (a ++ b) = true ↔ digL a = true ∧ digL b = true := by unfold digL; rw [List.all_append, Bool.and_eq_true]
theorem digL_one {c : UInt8} : digL [c] = true ↔ 48 ≤ c.toNat ∧ c.toNat ≤ 57 := by
  constructor
  · intro h; exact (digL_cons h).1
  · intro h; simp only [digL, List.all_cons, List.all_nil, Bool.and_true, digB, decide_eq_true_iff]; omega
theorem digL_rep {c : UInt8} (h : 48 ≤ c.toNat ∧ c.toNat ≤ 57) (k : Nat) : digL (List.replicate k c) = true := by
  unfold digL
  rw [List.all_eq_true]
  intro x hx
  rw [(List.mem_replicate.1 hx).2]
  simp only [digB, decide_eq_true_iff]; omega
theorem numFrom_app (acc : Nat) (x y : List UInt8) : numFrom acc (x ++ y) = numFrom (numFrom acc x) y := List.foldl_append ..
theorem numFrom_cons (acc : Nat) (c : UInt8) (y : List UInt8) : numFrom acc (c :: y) = numFrom (10 * acc + (c.toNat - 48)) y := by
  unfold numFrom; rw [List.foldl_cons]
theorem lin_mul (acc X P N : Nat) : (10 * acc + X) * P + N = acc * (P * 10) + (X * P + N) := by
  rw [Nat.add_mul, Nat.mul_comm 10 acc, Nat.mul_assoc, Nat.mul_comm 10 P]; omega
theorem numFrom_lin : ∀ (d : List UInt8) (acc : Nat), numFrom acc d = acc * 10 ^ d.length + numFrom 0 d := by
  intro d
  induction d with
  | nil => intro acc; simp [numFrom]
  | cons c d ih =>
    intro acc
    have h1 := ih (10 * acc + (c.toNat - 48))
    have h2 := ih (10 * 0 + (c.toNat - 48))
    rw [Nat.mul_zero, Nat.zero_add] at h2
    rw [numFrom_cons, h1, numFrom_cons, Nat.mul_zero, Nat.zero_add, h2, List.length_cons, Nat.pow_succ]
    exact lin_mul _ _ _ _
theorem numFrom_lt : ∀ (d : List UInt8), digL d = true → numFrom 0 d < 10 ^ d.length := by
  intro d
  induction d with
  | nil => intro _; simp [numFrom]
  | cons c d ih =>
    intro h
    obtain ⟨hc, hd⟩ := digL_cons h
    have := ih hd
    rw [numFrom_cons, numFrom_lin, List.length_cons, Nat.pow_succ]
    have h9 : (10 * 0 + (c.toNat - 48)) * 10 ^ d.length ≤ 9 * 10 ^ d.length := Nat.mul_le_mul_right _ (by omega)
    omega
theorem num_cons (c : UInt8) (d : List UInt8) : numFrom 0 (c :: d) = (c.toNat - 48) * 10 ^ d.length + numFrom 0 d := by
  rw [numFrom_cons, numFrom_lin, Nat.mul_zero, Nat.zero_add]
theorem num_big {a : List UInt8} (h : natL a = true) (h1 : 1 < a.length) : 10 ^ (a.length - 1) ≤ numFrom 0 a := by
  obtain ⟨_, h2, h3⟩ := natL_iff.1 h
  cases a with
  | nil => simp at h1
  | cons c d =>
    have hc := (digL_cons h2).1
    have h48 : c.toNat ≠ 48 := fun e => by
      have : c = 48 := UInt8.toNat_inj.1 (by rw [e]; rfl)
      have := h3 (by rw [this]; rfl)
      omega
    rw [num_cons, List.length_cons, Nat.add_sub_cancel]
    have : 1 * 10 ^ d.length ≤ (c.toNat - 48) * 10 ^ d.length := Nat.mul_le_mul_right _ (by omega)
    omega
/-- Two numbers of the same length, by their first digits. -/
theorem num_step {X Y A B P : Nat} (hA : A < P) (h : X < Y) : X * P + A < Y * P + B := by
  have : (X + 1) * P ≤ Y * P := Nat.mul_le_mul_right _ h
  rw [Nat.add_mul] at this
  omega
theorem bless_num : ∀ (a b : List UInt8), digL a = true → digL b = true → a.length = b.length → Op.bytesLess a b = decide (numFrom 0 a < numFrom 0 b) := by
  intro a
  induction a with
  | nil =>
    intro b _ _ h
    cases b with
    | nil => rfl
    | cons y b => simp at h
  | cons x a ih =>
    intro b ha hb h
    cases b with
    | nil => simp at h
    | cons y b =>
      obtain ⟨hx, ha⟩ := digL_cons ha
      obtain ⟨hy, hb'⟩ := digL_cons hb
      clear hb
      have hb := hb'
      clear hb'
      have hl : a.length = b.length := by simpa using h
      have hA := numFrom_lt a ha
      have hB := numFrom_lt b hb
      rw [num_cons, num_cons, hl]
      rw [hl] at hA
      rw [Op.bytesLess, ih b ha hb hl]
      rcases Nat.lt_trichotomy x.toNat y.toNat with h1 | h1 | h1
      · have hlt : x < y := h1
        rw [decide_eq_true hlt, Bool.true_or]
        exact (decide_eq_true (num_step hA (by omega))).symm
      · have : x = y := UInt8.toNat_inj.1 h1
        subst this
        have hlt : ¬ x < x := Nat.lt_irrefl _
        rw [decide_eq_false hlt, Bool.false_or, beq_self_eq_true, Bool.true_and]
        exact decide_eq_decide.2 (by omega)
      · have hlt : ¬ x < y := Nat.lt_asymm h1
        have hne : (x == y) = false := by rw [beq_eq_false_iff_ne]; rintro rfl; omega
        rw [decide_eq_false hlt, hne, Bool.false_and, Bool.false_or]
        have := num_step (A := numFrom 0 b) (B := numFrom 0 a) hB (show y.toNat - 48 < x.toNat - 48 by omega)
        exact (decide_eq_false (by omega)).symm
theorem num_len {a b : List UInt8} (ha : natL a = true) (hb : natL b = true) (h : a.length < b.length) : numFrom 0 a < numFrom 0 b := by
  obtain ⟨h1, h2, _⟩ := natL_iff.1 ha
  have h3 := numFrom_lt a h2
  have hp : 1 ≤ a.length := by cases a with | nil => exact absurd rfl h1 | cons c t => simp
  have h4 := num_big hb (by omega)
  have h5 : 10 ^ a.length ≤ 10 ^ (b.length - 1) := Nat.pow_le_pow_right (by decide) (by omega)
  omega
theorem lessL_num {a b : List UInt8} (ha : natL a = true) (hb : natL b = true) : lessL a b = decide (numFrom 0 a < numFrom 0 b) := by
  unfold lessL
  by_cases h : a.length = b.length
  · rw [if_pos h]; exact bless_num a b (natL_iff.1 ha).2.1 (natL_iff.1 hb).2.1 h
  · rw [if_neg h]
    by_cases h1 : a.length < b.length
    · rw [decide_eq_true h1, decide_eq_true (num_len ha hb h1)]
    · have := num_len hb ha (by omega)
      rw [decide_eq_false h1, decide_eq_false (by omega)]
theorem num_inj : ∀ (a b : List UInt8), digL a = true → digL b = true → a.length = b.length → numFrom 0 a = numFrom 0 b → a = b := by
  intro a
  induction a with
  | nil =>
    intro b _ _ h _
    cases b with
    | nil => rfl
    | cons y b => simp at h
  | cons x a ih =>
    intro b ha hb h hn
    cases b with
    | nil => simp at h
    | cons y b =>
      obtain ⟨hx, ha⟩ := digL_cons ha
      obtain ⟨hy, hb'⟩ := digL_cons hb
      clear hb
      have hb := hb'
      clear hb'
      have hl : a.length = b.length := by simpa using h
      have hA := numFrom_lt a ha
      have hB := numFrom_lt b hb
      rw [num_cons, num_cons, hl] at hn
      rw [hl] at hA
      have hxy : x.toNat = y.toNat := by
        rcases Nat.lt_trichotomy x.toNat y.toNat with h1 | h1 | h1
        · have := num_step (A := numFrom 0 a) (B := numFrom 0 b) hA (show x.toNat - 48 < y.toNat - 48 by omega)
          omega
        · exact h1
        · have := num_step (A := numFrom 0 b) (B := numFrom 0 a) hB (show y.toNat - 48 < x.toNat - 48 by omega)
          omega
      have : x = y := UInt8.toNat_inj.1 hxy
      subst this
      rw [ih b ha hb hl (by omega)]
theorem nat_inj {a b : List UInt8} (ha : natL a = true) (hb : natL b = true) (h : numFrom 0 a = numFrom 0 b) : a = b := by
  have hl : a.length = b.length := by
    rcases Nat.lt_trichotomy a.length b.length with h1 | h1 | h1
    · have := num_len ha hb h1; omega
    · exact h1
    · have := num_len hb ha h1; omega
  exact num_inj a b (natL_iff.1 ha).2.1 (natL_iff.1 hb).2.1 hl h
theorem dig_of {n : Nat} (h : n < 10) : (UInt8.ofNat (48 + n)).toNat = 48 + n := by
  simp; omega
theorem dec_nat : ∀ (f n : Nat), n ≤ f → natL (Lib.decDigits n) = true ∧ numFrom 0 (Lib.decDigits n) = n := by
  intro f
  induction f with
  | zero =>
    intro n h
    have : n = 0 := by omega
    subst this
    rw [Lib.decDigits_one (by omega)]
    exact ⟨by decide, by decide⟩
  | succ f ih =>
    intro n h
    by_cases h10 : n < 10
    · rw [Lib.decDigits_one h10]
      have hd := dig_of h10
      refine ⟨natL_iff.2 ⟨by simp, digL_one.2 (by omega), fun _ => by simp⟩, ?_⟩
      rw [num_cons, hd]; simp [numFrom]
    · obtain ⟨h1, h2⟩ := ih (n / 10) (by omega)
      have hd := dig_of (n := n % 10) (by omega)
      rw [Lib.decDigits, dif_neg h10]
      obtain ⟨i1, i2, i3⟩ := natL_iff.1 h1
      refine ⟨natL_iff.2 ⟨by simp, digL_app.2 ⟨i2, digL_one.2 (by omega)⟩, fun e => ?_⟩, ?_⟩
      · exfalso
        cases hx : Lib.decDigits (n / 10) with
        | nil => exact i1 hx
        | cons c t =>
          rw [hx] at i3 h2 e
          have hc : c = 48 := Option.some.inj e
          subst hc
          have ht := i3 rfl
          have : t = [] := List.eq_nil_of_length_eq_zero (by simpa using ht)
          subst this
          have : numFrom 0 [48] = 0 := rfl
          omega
      · rw [numFrom_app, h2, numFrom_cons, hd]
        show 10 * (n / 10) + (48 + n % 10 - 48) = n
        omega
theorem dec_natL (n : Nat) : natL (Lib.decDigits n) = true := (dec_nat n n (Nat.le_refl _)).1
theorem dec_num (n : Nat) : numFrom 0 (Lib.decDigits n) = n := (dec_nat n n (Nat.le_refl _)).2
theorem natL_dec {a : List UInt8} (h : natL a = true) : a = Lib.decDigits (numFrom 0 a) := nat_inj h (dec_natL _) (dec_num _).symm

theorem num_zeros (k acc : Nat) : numFrom acc (List.replicate k 48) = acc * 10 ^ k := by
  induction k generalizing acc with
  | zero => simp [numFrom]
  | succ k ih =>
    rw [List.replicate_succ, numFrom_cons, ih, Nat.pow_succ, show ((48 : UInt8).toNat - 48) = 0 from rfl, Nat.add_zero, Nat.mul_comm 10 acc, Nat.mul_assoc, Nat.mul_comm 10]
theorem num_nines (k acc : Nat) : numFrom acc (List.replicate k 57) + 1 = (acc + 1) * 10 ^ k := by
  induction k generalizing acc with
  | zero => simp [numFrom]
  | succ k ih =>
    rw [List.replicate_succ, numFrom_cons, ih, Nat.pow_succ, show ((57 : UInt8).toNat - 48) = 9 from rfl, show 10 * acc + 9 + 1 = (acc + 1) * 10 by omega, Nat.mul_assoc, Nat.mul_comm 10]
theorem dw_split (c : UInt8) : ∀ l : List UInt8, ∃ k, l = List.replicate k c ++ l.dropWhile (· == c) ∧ (l.dropWhile (· == c) = [] ∨ ∃ d t, l.dropWhile (· == c) = d :: t ∧ d ≠ c) := by
  intro l
  induction l with
  | nil => exact ⟨0, rfl, .inl rfl⟩
  | cons x l ih =>
    by_cases hx : x = c
    · subst hx
      obtain ⟨k, h1, h2⟩ := ih
      rw [List.dropWhile_cons, if_pos (by simp)]
      exact ⟨k + 1, by rw [List.replicate_succ, List.cons_append, ← h1], h2⟩
    · rw [List.dropWhile_cons, if_neg (by simpa using hx)]
      exact ⟨0, rfl, .inr ⟨x, l, rfl, hx⟩⟩
theorem trim_split (c : UInt8) (a : List UInt8) : ∃ k, a = Lib.trimRightB a c ++ List.replicate k c ∧ (Lib.trimRightB a c = [] ∨ ∃ t d, Lib.trimRightB a c = t ++ [d] ∧ d ≠ c) := by
  obtain ⟨k, h1, h2⟩ := dw_split c a.reverse
  unfold Lib.trimRightB
  refine ⟨k, ?_, ?_⟩
  · have := congrArg List.reverse h1
    rw [List.reverse_reverse, List.reverse_append, List.reverse_replicate] at this
    exact this
  · rcases h2 with h2 | ⟨d, t, h2, h3⟩
    · left; rw [h2]; rfl
    · right; exact ⟨t.reverse, d, by rw [h2]; simp, h3⟩
theorem succ_num {a : List UInt8} (h : natL a = true) : natL (succL a) = true ∧ numFrom 0 (succL a) = numFrom 0 a + 1 := by
  obtain ⟨i1, i2, i3⟩ := natL_iff.1 h
  obtain ⟨k, h1, h2⟩ := trim_split 57 a
  rcases h2 with h2 | ⟨t, c, h2, h3⟩
  · rw [succ_nil h2]
    rw [h2, List.nil_append] at h1
    refine ⟨natL_iff.2 ⟨by simp, ?_, fun e => by cases e⟩, ?_⟩
    · exact digL_app (a := [49]).2 ⟨by decide, digL_rep (by decide) _⟩
    · rw [numFrom_cons, num_zeros]
      have hn := num_nines k 0
      have hk : a.length = k := by rw [h1]; simp
      rw [hk]
      rw [← h1] at hn
      rw [hn]; rfl
  · rw [h2] at h1
    have hlen : a.length = t.length + 1 + k := by rw [h1]; simp; omega
    rw [succ_cons h2 (m := t.length) (by simp)]
    rw [List.take_left' rfl, show a.length - (t.length + 1) = k by omega]
    have hg : (t ++ [c]).getD t.length 0 = c := by rw [List.getD_eq_getElem?_getD, List.getElem?_append_right (Nat.le_refl _), Nat.sub_self]; rfl
    rw [hg]
    rw [h1] at i2
    obtain ⟨d1, d3⟩ := digL_app.1 i2
    obtain ⟨d1, d2⟩ := digL_app.1 d1
    have hc := digL_one.1 d2
    have hc57 : c.toNat ≠ 57 := fun e => h3 (UInt8.toNat_inj.1 (by rw [e]; rfl))
    have hc1 : (c + 1).toNat = c.toNat + 1 := by
      rw [UInt8.toNat_add]; show (c.toNat + 1) % 256 = _; omega
    refine ⟨natL_iff.2 ⟨by simp, digL_app.2 ⟨digL_app.2 ⟨d1, digL_one.2 (by omega)⟩, digL_rep (by decide) _⟩, fun e => ?_⟩, ?_⟩
    · exfalso
      cases t with
      | nil =>
        have : c + 1 = 48 := Option.some.inj e
        rw [this] at hc1
        have : (48 : UInt8).toNat = 48 := rfl
        omega
      | cons x t =>
        have hx : x = 48 := Option.some.inj e
        have := i3 (by rw [h1, hx]; rfl)
        rw [hlen] at this
        simp only [List.length_cons] at this
        omega
    · rw [numFrom_app, numFrom_app, num_zeros]
      have hn := num_nines k (numFrom 0 (t ++ [c]))
      rw [← numFrom_app, ← h1] at hn
      rw [hn, numFrom_app, numFrom_cons, numFrom_cons, hc1]
      congr 1
      show 10 * numFrom 0 t + (c.toNat + 1 - 48) = 10 * numFrom 0 t + (c.toNat - 48) + 1
      omega
end Go.Proofs.YtchnmbfeaaialaaGreatDoor
