/- Mathematics for the law SpansCover. -/
import Derived.Test.YtbajikkjkiacnaaDoorPm
namespace Go.Proofs.YtbajikkjkiacnaaDoor

theorem coverG_bd (l : List Sp) : ∀ a : Sp, ((coverG a l).1 ≤ a.1 ∧ a.2 ≤ (coverG a l).2) ∧ ∀ s ∈ l, (coverG a l).1 ≤ s.1 ∧ s.2 ≤ (coverG a l).2 := by
  induction l with
  | nil => intro a; exact ⟨⟨Int.le_refl _, Int.le_refl _⟩, fun s h => by cases h⟩
  | cons t l ih =>
    intro a
    obtain ⟨⟨h1, h2⟩, h3⟩ := ih (min a.1 t.1, max a.2 t.2)
    have e : coverG a (t :: l) = coverG (min a.1 t.1, max a.2 t.2) l := rfl
    rw [e]
    simp only at h1 h2
    refine ⟨by omega, fun s hs => ?_⟩
    rcases List.mem_cons.1 hs with rfl | hs
    · omega
    · exact h3 s hs
theorem coverG_least (l : List Sp) : ∀ (a : Sp) (p q : Int), p ≤ a.1 → a.2 ≤ q → (∀ s ∈ l, p ≤ s.1 ∧ s.2 ≤ q) → p ≤ (coverG a l).1 ∧ (coverG a l).2 ≤ q := by
  induction l with
  | nil => intro a p q h1 h2 _; exact ⟨h1, h2⟩
  | cons t l ih =>
    intro a p q h1 h2 h3
    have e : coverG a (t :: l) = coverG (min a.1 t.1, max a.2 t.2) l := rfl
    rw [e]
    have ht := h3 t (by simp)
    exact ih _ p q (by simp only; omega) (by simp only; omega) fun s hs => h3 s (by simp [hs])
/-- Whether the first k are within x. -/
def allS (l : List Sp) (x : Sp) (k : Nat) : Bool := (List.range k).all fun j => wiS (gs l j) x
theorem allS_zero (l : List Sp) (x : Sp) : allS l x 0 = true := rfl
theorem allS_succ (l : List Sp) (x : Sp) (k : Nat) : allS l x (k + 1) = (allS l x k && wiS (gs l k) x) := by
  unfold allS; rw [List.range_succ, List.all_append]; simp
theorem allS_iff {l : List Sp} {x : Sp} {k : Nat} : allS l x k = true ↔ ∀ j, j < k → wiS (gs l j) x = true := by
  unfold allS; rw [List.all_eq_true]; simp only [List.mem_range]
theorem gs_mem {l : List Sp} {s : Sp} (h : s ∈ l) : ∃ j, j < l.length ∧ gs l j = s := by
  obtain ⟨j, hj⟩ := List.getElem?_of_mem h
  exact ⟨j, (List.getElem?_eq_some_iff.1 hj).1, gs_at hj⟩
/-- What Cover says. -/
theorem cover_cases (l : List Sp) : (∃ e, coverS l = ((0, 0), e) ∧ e ≠ 0) ∨
    ∃ a b, coverS l = ((a, b), 0) ∧ okS (a, b) = true ∧ (∀ (j : Nat) s, l[j]? = some s → okS s = true ∧ wiS s (a, b) = true) ∧ ∀ x, wiS (a, b) x = allS l x l.length := by
  cases l with
  | nil => exact .inl ⟨4, rfl, by omega⟩
  | cons s t =>
    by_cases hb : 0 ≤ badS (s :: t)
    · exact .inl ⟨6, by unfold coverS; simp only; rw [if_pos hb], by omega⟩
    · right
      have hall := badS_all (l := s :: t) (by omega)
      have hok : ∀ y ∈ s :: t, 0 ≤ y.1 ∧ y.1 ≤ y.2 ∧ y.2 ≤ 4611686018427387904 := fun y hy => by
        obtain ⟨j, hj⟩ := List.getElem?_of_mem hy
        exact okS_iff.1 (hall j y hj)
      obtain ⟨⟨h1, h2⟩, h3⟩ := coverG_bd t s
      have hs := hok s (by simp)
      have hl := coverG_least t s 0 4611686018427387904 (by omega) (by omega) fun y hy => by
        have := hok y (by simp [hy]); omega
      refine ⟨(coverG s t).1, (coverG s t).2, by unfold coverS; simp only; rw [if_neg hb], by rw [okS_iff]; simp only; omega, fun j y hj => ⟨hall j y hj, ?_⟩, fun x => ?_⟩
      · rw [wiS_iff]
        rcases List.mem_cons.1 (List.mem_of_getElem? hj) with rfl | hy
        · exact ⟨h1, h2⟩
        · exact h3 y hy
      · rw [Bool.eq_iff_iff, wiS_iff, allS_iff]
        constructor
        · intro hx j hj
          obtain ⟨y, hy⟩ : ∃ y, (s :: t)[j]? = some y := ⟨_, List.getElem?_eq_getElem hj⟩
          rw [gs_at hy, wiS_iff]
          rcases List.mem_cons.1 (List.mem_of_getElem? hy) with rfl | hm
          · simp only at hx; omega
          · have := h3 y hm; simp only at hx; omega
        · intro hx
          have hx' : ∀ y ∈ s :: t, x.1 ≤ y.1 ∧ y.2 ≤ x.2 := fun y hy => by
            obtain ⟨j, hj, e⟩ := gs_mem hy
            have := hx j hj
            rw [e, wiS_iff] at this; exact this
          have := hx' s (by simp)
          exact coverG_least t s x.1 x.2 this.1 this.2 fun y hy => hx' y (by simp [hy])
/-- What Meet says of two spans. -/
theorem meet_cases {s x : Sp} (h1 : okS s = true) (h2 : okS x = true) :
    (meetS s x = ((0, 0), false, 0) ∧ ∀ k, okS k = true → wiS k s = true → wiS k x = true → False) ∨
    ∃ p q, meetS s x = ((p, q), true, 0) ∧ okS (p, q) = true ∧ wiS (p, q) s = true ∧ wiS (p, q) x = true ∧ ∀ k, okS k = true → wiS k s = true → wiS k x = true → wiS k (p, q) = true := by
  unfold meetS
  rw [h1, h2, if_neg (by simp)]
  rw [okS_iff] at h1 h2
  by_cases h : max s.1 x.1 ≤ min s.2 x.2
  · refine .inr ⟨max s.1 x.1, min s.2 x.2, by rw [if_pos h], by rw [okS_iff]; simp only; omega, by rw [wiS_iff]; simp only; omega, by rw [wiS_iff]; simp only; omega, fun k k0 k1 k2 => ?_⟩
    rw [wiS_iff] at k1 k2 ⊢; simp only; omega
  · refine .inl ⟨by rw [if_neg h], fun k k0 k1 k2 => ?_⟩
    rw [okS_iff] at k0; rw [wiS_iff] at k1 k2; omega
theorem meet_facts {s x : Sp} (h1 : okS s = true) (h2 : okS x = true) : ∃ p q fd, meetS s x = ((p, q), fd, 0) ∧ (fd = true → okS (p, q) = true ∧ wiS (p, q) s = true ∧ wiS (p, q) x = true) ∧
    ∀ k, okS k = true → wiS k s = true → wiS k x = true → fd = true ∧ wiS k (p, q) = true := by
  rcases meet_cases h1 h2 with ⟨h, hk⟩ | ⟨p, q, h, h3, h4, h5, hk⟩
  · exact ⟨0, 0, false, h, fun e => (by cases e), fun k a b c => (hk k a b c).elim⟩
  · exact ⟨p, q, true, h, fun _ => ⟨h3, h4, h5⟩, fun k a b c => ⟨rfl, hk k a b c⟩⟩
end Go.Proofs.YtbajikkjkiacnaaDoor
