/- A field as the reference reads it, against a field as the iterator reads it. -/
import Derived.Test.YtnajkkbcfebegaaGreatDoorRSpec
namespace Go.Proofs.YtnajkkbcfebegaaGreatDoor
open Go.RowKit Go.PlainAid

/-- The bytes up to the next blank. -/
def segT (L : List UInt8) (p : Nat) : List UInt8 := (L.drop p).takeWhile fun c => !(c == 32)
def bareL (x : List UInt8) : Bool := !x.isEmpty && x.all bareC
theorem bareC_ne {c : UInt8} (h : bareC c = true) : (!(c == 32)) = true ∧ c ≠ 34 := by
  unfold bareC at h
  rw [Bool.and_eq_true] at h
  refine ⟨h.2, ?_⟩
  rintro rfl
  have := h.1
  revert this; decide
theorem tw_all : ∀ M : List UInt8, (M.takeWhile fun c => !(c == 32)).all bareC = true → M.takeWhile bareC = M.takeWhile fun c => !(c == 32) := by
  intro M
  induction M with
  | nil => intro _; rfl
  | cons c M ih =>
    intro h
    by_cases hc : (!(c == 32)) = true
    · rw [List.takeWhile_cons, if_pos hc, List.all_cons, Bool.and_eq_true] at h
      rw [List.takeWhile_cons, List.takeWhile_cons, if_pos hc, if_pos h.1, ih h.2]
    · have hb : ¬ bareC c = true := fun e => hc (bareC_ne e).1
      rw [List.takeWhile_cons, List.takeWhile_cons, if_neg hc, if_neg hb]
theorem tw_not : ∀ M : List UInt8, (M.takeWhile fun c => !(c == 32)).all bareC = false → ∃ c, M[(M.takeWhile bareC).length]? = some c ∧ c ≠ 32 := by
  intro M
  induction M with
  | nil => intro h; cases h
  | cons c M ih =>
    intro h
    by_cases hc : (!(c == 32)) = true
    · rw [List.takeWhile_cons, if_pos hc, List.all_cons] at h
      cases hb : bareC c with
      | true =>
        rw [hb, Bool.true_and] at h
        obtain ⟨d, h1, h2⟩ := ih h
        exact ⟨d, by rw [List.takeWhile_cons, if_pos hb, List.length_cons, List.getElem?_cons_succ]; exact h1, h2⟩
      | false =>
        refine ⟨c, by rw [List.takeWhile_cons, if_neg (by rw [hb]; simp)]; rfl, ?_⟩
        rintro rfl; cases hc
    · rw [List.takeWhile_cons, if_neg hc] at h; cases h
theorem tw_next : ∀ M : List UInt8, M.length ≤ (M.takeWhile fun c => !(c == 32)).length ∨ M[(M.takeWhile fun c => !(c == 32)).length]? = some 32 := by
  intro M
  induction M with
  | nil => exact .inl (Nat.le_refl _)
  | cons c M ih =>
    by_cases hc : (!(c == 32)) = true
    · rw [List.takeWhile_cons, if_pos hc, List.length_cons, List.length_cons, List.getElem?_cons_succ]
      rcases ih with h | h
      · exact .inl (by omega)
      · exact .inr h
    · right
      rw [List.takeWhile_cons, if_neg hc]
      have : c = 32 := by simpa using hc
      rw [this]; rfl
theorem seg_le (L : List UInt8) (p : Nat) : (segT L p).length ≤ L.length - p := by
  unfold segT
  have := takeWhile_le (fun c => !(c == 32)) (L.drop p)
  rw [List.length_drop] at this; exact this

theorem field_quo {L : List UInt8} {p m : Nat} {S : List UInt8} (h : quoS (L.drop p) 0 = some (S, m)) : fieldAt L p = some (S, true, p + m) ∧ 2 ≤ m ∧ p + m ≤ L.length := by
  have hq : quoS L p = some (S, m + p) := by rw [quoS_drop, h]; rfl
  have hle := quoS_le hq
  simp only at hle
  have h34 : L[p]? = some 34 := by
    rw [List.getElem?_eq_getElem (by omega)]
    by_cases e : L[p]'(by omega) = 34
    · rw [e]
    · rw [quoS_not (by omega) e] at hq; cases hq
  refine ⟨?_, by omega, by omega⟩
  unfold fieldAt
  rw [if_pos h34, hq, Option.map_some, Nat.add_comm m p]
theorem field_bare {L : List UInt8} {p : Nat} (hb : bareL (segT L p) = true) : fieldAt L p = some (segT L p, false, p + (segT L p).length) ∧ (L.length ≤ p + (segT L p).length ∨ L[p + (segT L p).length]? = some 32) := by
  unfold bareL at hb
  rw [Bool.and_eq_true] at hb
  obtain ⟨h1, h2⟩ := hb
  have ht : (L.drop p).takeWhile bareC = segT L p := tw_all _ h2
  have hp : p < L.length := by
    apply Classical.byContradiction
    intro hn
    unfold segT at h1
    rw [List.drop_of_length_le (by omega)] at h1; cases h1
  have hne : 1 ≤ (segT L p).length := by
    cases hs : segT L p with
    | nil => rw [hs] at h1; cases h1
    | cons c t => simp
  have h34 : L[p]? ≠ some 34 := by
    rw [List.getElem?_eq_getElem hp]
    intro e
    have e' := Option.some.inj e
    have hd : L.drop p = 34 :: L.drop (p + 1) := by rw [List.drop_eq_getElem_cons hp, e']
    rw [hd, List.takeWhile_cons, if_neg (by decide)] at ht
    rw [← ht] at hne; simp at hne
  refine ⟨?_, ?_⟩
  · unfold fieldAt bareE
    rw [if_neg h34, ht, if_neg (by omega)]
  · rcases tw_next (L.drop p) with h | h
    · left
      rw [List.length_drop] at h
      show L.length ≤ p + ((L.drop p).takeWhile fun c => !(c == 32)).length
      omega
    · right
      rw [List.getElem?_drop] at h
      exact h
theorem field_none {L : List UInt8} {p : Nat} (h : quoS (L.drop p) 0 = none) (hb : bareL (segT L p) = false) : fieldAt L p = none ∨ ∃ x, fieldAt L p = some x ∧ x.2.2 < L.length ∧ L[x.2.2]? ≠ some 32 := by
  by_cases h34 : L[p]? = some 34
  · left
    unfold fieldAt
    rw [if_pos h34, quoS_drop, h]; rfl
  · by_cases he : bareE L p = p
    · left
      unfold fieldAt
      rw [if_neg h34, if_pos he]
    · right
      have hx : fieldAt L p = some ((L.drop p).takeWhile bareC, false, bareE L p) := by
        unfold fieldAt; rw [if_neg h34, if_neg he]
      refine ⟨_, hx, ?_⟩
      simp only
      have hall : ((L.drop p).takeWhile fun c => !(c == 32)).all bareC = false := by
        cases hq : ((L.drop p).takeWhile fun c => !(c == 32)).all bareC with
        | false => rfl
        | true =>
          exfalso
          have ht := tw_all _ hq
          unfold bareL segT at hb
          rw [hq, Bool.and_true] at hb
          have hnil : ((L.drop p).takeWhile fun c => !(c == 32)) = [] := by simpa using hb
          apply he
          unfold bareE
          rw [ht, hnil]; rfl
      obtain ⟨c, h1, h2⟩ := tw_not _ hall
      rw [List.getElem?_drop] at h1
      have h1' : L[bareE L p]? = some c := h1
      refine ⟨(List.getElem?_eq_some_iff.1 h1').1, ?_⟩
      rw [h1']
      intro e
      exact h2 (Option.some.inj e)
end Go.Proofs.YtnajkkbcfebegaaGreatDoor
