/- Two rows of fields, joined: mathematics for WordsBoth. -/
import Derived.Test.YtbggmmbbjojjcaaDoorRJoin
namespace Go.Proofs.YtbggmmbbjojjcaaDoor

theorem gf_left {l m : List Fld} {k : Nat} (h : k < l.length) : gf (l ++ m) k = gf l k := by
  unfold gf; rw [List.getD_eq_getElem?_getD, List.getD_eq_getElem?_getD, List.getElem?_append_left h]
theorem gf_right (l m : List Fld) (k : Nat) : gf (l ++ m) (l.length + k) = gf m k := by
  unfold gf; rw [List.getD_eq_getElem?_getD, List.getD_eq_getElem?_getD, List.getElem?_append_right (by omega), Nat.add_sub_cancel_left]
theorem jnK_left {l m : List Fld} : ∀ k, k ≤ l.length → jnK (l ++ m) k = jnK l k := by
  intro k
  induction k with
  | zero => intro _; rfl
  | succ k ih =>
    intro hk
    unfold jnK
    rw [ih (by omega), gf_left (by omega)]
theorem jnK_right {l m : List Fld} (hl : l ≠ []) : ∀ k, jnK (l ++ m) (l.length + (k + 1)) = jnK l l.length ++ [32] ++ jnK m (k + 1) := by
  have hl0 : 0 < l.length := List.length_pos_iff.2 hl
  intro k
  induction k with
  | zero =>
    show (if l.length = 0 then [] else jnK (l ++ m) l.length ++ [32]) ++ formF (gf (l ++ m) (l.length + 0)) = _
    rw [if_neg (by omega), jnK_left _ (Nat.le_refl _), gf_right]; rfl
  | succ k ih =>
    show (if l.length + (k + 1) = 0 then [] else jnK (l ++ m) (l.length + (k + 1)) ++ [32]) ++ formF (gf (l ++ m) (l.length + (k + 1))) = _ ++ ((if k + 1 = 0 then [] else jnK m (k + 1) ++ [32]) ++ formF (gf m (k + 1)))
    rw [if_neg (by omega), if_neg (by omega), ih, gf_right]; simp
/-- The line of both. -/
theorem jnK_both {l m : List Fld} (hl : l ≠ []) (hm : m ≠ []) : jnK (l ++ m) (l ++ m).length = jnK l l.length ++ [32] ++ jnK m m.length := by
  have := List.length_pos_iff.2 hm
  have h := jnK_right (m := m) hl (m.length - 1)
  rw [show m.length - 1 + 1 = m.length by omega] at h
  rw [List.length_append]; exact h
theorem joinS_ok {l : List Fld} : (joinS l).2 = 0 ↔ tooL l = false ∧ l.any noForm = false ∧ (jnK l l.length).length ≤ 8192 := by
  unfold joinS
  cases tooL l <;> cases l.any noForm <;> simp
  split <;> simp <;> omega
theorem joinS_line {l : List Fld} (h : (joinS l).2 = 0) : joinS l = (jnK l l.length, 0) := by
  obtain ⟨h1, h2, h3⟩ := joinS_ok.1 h
  unfold joinS; rw [if_neg (by rw [h1]; simp), if_neg (by rw [h2]; simp), if_neg (by omega)]
theorem tooL_app {l m : List Fld} : tooL (l ++ m) = false ↔ l.length + m.length ≤ 64 ∧ tooL l = false ∧ tooL m = false := by
  unfold tooL
  simp only [Bool.or_eq_false_iff, List.any_append, List.length_append, decide_eq_false_iff_not, Nat.not_lt]
  constructor
  · rintro ⟨h1, h2, h3⟩; exact ⟨by omega, ⟨by omega, h2⟩, by omega, h3⟩
  · rintro ⟨h1, ⟨_, h2⟩, _, h3⟩; exact ⟨by omega, h2, h3⟩
/-- One of the two is not joined. -/
theorem both_bad {l m : List Fld} (hl : l ≠ []) (hm : m ≠ []) (h : (joinS l).2 ≠ 0 ∨ (joinS m).2 ≠ 0) : (joinS (l ++ m)).2 ≠ 0 := by
  intro e
  obtain ⟨h1, h2, h3⟩ := joinS_ok.1 e
  obtain ⟨_, t1, t2⟩ := tooL_app.1 h1
  rw [List.any_append, Bool.or_eq_false_iff] at h2
  rw [jnK_both hl hm] at h3
  simp only [List.length_append, List.length_cons, List.length_nil] at h3
  rcases h with h | h
  · exact h (joinS_ok.2 ⟨t1, h2.1, by omega⟩)
  · exact h (joinS_ok.2 ⟨t2, h2.2, by omega⟩)
theorem both_long {l m : List Fld} (hl : l ≠ []) (hm : m ≠ []) (h1 : (joinS l).2 = 0) (h2 : (joinS m).2 = 0) (h : 64 < l.length + m.length ∨ 8192 < (joinS l).1.length + 1 + (joinS m).1.length) : joinS (l ++ m) = ([], 3) := by
  obtain ⟨a1, a2, a3⟩ := joinS_ok.1 h1
  obtain ⟨b1, b2, b3⟩ := joinS_ok.1 h2
  rw [joinS_line h1, joinS_line h2] at h
  by_cases hc : tooL (l ++ m) = true
  · unfold joinS; rw [if_pos hc]
  · have hc' : tooL (l ++ m) = false := by simpa using hc
    have := (tooL_app.1 hc').1
    unfold joinS
    rw [if_neg hc, if_neg (by rw [List.any_append, a2, b2]; simp), if_pos]
    rw [jnK_both hl hm]
    simp only [List.length_append, List.length_cons, List.length_nil]
    rcases h with h | h
    · omega
    · simpa using h
theorem both_line {l m : List Fld} (hl : l ≠ []) (hm : m ≠ []) (h1 : (joinS l).2 = 0) (h2 : (joinS m).2 = 0) (h : ¬ 64 < l.length + m.length) (h' : ¬ 8192 < (joinS l).1.length + 1 + (joinS m).1.length) : joinS (l ++ m) = ((joinS l).1 ++ [32] ++ (joinS m).1, 0) := by
  obtain ⟨a1, a2, a3⟩ := joinS_ok.1 h1
  obtain ⟨b1, b2, b3⟩ := joinS_ok.1 h2
  rw [joinS_line h1, joinS_line h2] at h' ⊢
  have ht : tooL (l ++ m) = false := tooL_app.2 ⟨by omega, a1, b1⟩
  unfold joinS
  rw [if_neg (by rw [ht]; simp), if_neg (by rw [List.any_append, a2, b2]; simp), jnK_both hl hm, if_neg]
  simp only [List.length_append, List.length_cons, List.length_nil]
  simpa using h'
end Go.Proofs.YtbggmmbbjojjcaaDoor
