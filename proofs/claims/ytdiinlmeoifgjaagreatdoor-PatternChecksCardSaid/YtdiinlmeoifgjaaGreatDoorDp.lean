/- Flat trees: positions of children, parents, paths (mathematics). -/
import Derived.Test.YtdiinlmeoifgjaaGreatDoorDrsy
namespace Go.Proofs.YtdiinlmeoifgjaaGreatDoor

def Tr (ks : List Nat) : Prop := eat ks 1 = some []
theorem Tr.each {ks : List Nat} (h : Tr ks) {p : Nat} (hp : p < ks.length) : ∃ r, eat (ks.drop p) 1 = some r := eat_each h p hp
theorem Tr.end_bd {ks : List Nat} (h : Tr ks) {p : Nat} (hp : p < ks.length) : p < endN ks p ∧ endN ks p ≤ ks.length := by
  obtain ⟨r, hr⟩ := h.each hp
  have := endN_of (Nat.le_of_lt hp) hr
  omega
theorem Tr.pos {ks : List Nat} (h : Tr ks) : 0 < ks.length := by
  cases ks with
  | nil => cases h
  | cons k l => simp
theorem Tr.end_0 {ks : List Nat} (h : Tr ks) : endN ks 0 = ks.length := by
  unfold endN; rw [List.drop_zero, show eat ks 1 = some [] from h]; simp
/-- How many children a node has. -/
def cnt (ks : List Nat) (i : Nat) : Nat := ks.getD i 0
theorem cnt_at {ks : List Nat} {i : Nat} (hi : i < ks.length) : ks[i]? = some (cnt ks i) := by
  unfold cnt; rw [List.getD_eq_getElem?_getD, List.getElem?_eq_getElem hi]; rfl
theorem cnt_of {ks : List Nat} {i c : Nat} (h : ks[i]? = some c) : cnt ks i = c := by
  unfold cnt; rw [List.getD_eq_getElem?_getD, h]; rfl
theorem Tr.pos_step {ks : List Nat} (h : Tr ks) {i k : Nat} (hi : i < ks.length) (hk : k < cnt ks i) :
    i < posK ks i k ∧ posK ks i k < ks.length ∧ endN ks (posK ks i k) = posK ks i (k + 1) := by
  obtain ⟨r, hr⟩ := h.each hi
  obtain ⟨a, b, _, d⟩ := posK_step (cnt_at hi) hr hk
  exact ⟨a, b, d⟩
theorem Tr.pos_next {ks : List Nat} (h : Tr ks) {i k : Nat} (hi : i < ks.length) (hk : k < cnt ks i) : posK ks i k < posK ks i (k + 1) := by
  obtain ⟨_, b, c⟩ := h.pos_step hi hk
  rw [← c]; exact (h.end_bd b).1
theorem Tr.pos_end {ks : List Nat} (h : Tr ks) {i : Nat} (hi : i < ks.length) : posK ks i (cnt ks i) = endN ks i := by
  obtain ⟨r, hr⟩ := h.each hi
  exact posK_end (cnt_at hi) hr
theorem Tr.pos_mono {ks : List Nat} (h : Tr ks) {i : Nat} (hi : i < ks.length) : ∀ {d k : Nat}, k + d ≤ cnt ks i → posK ks i k + d ≤ posK ks i (k + d) := by
  intro d
  induction d with
  | zero => intro k _; exact Nat.le_refl _
  | succ d ih =>
    intro k hk
    have h1 := ih (k := k) (by omega)
    have h2 := h.pos_next hi (k := k + d) (by omega)
    rw [show k + (d + 1) = k + d + 1 by omega]; omega
theorem Tr.pos_le {ks : List Nat} (h : Tr ks) {i k m : Nat} (hi : i < ks.length) (hk : k ≤ m) (hm : m ≤ cnt ks i) : posK ks i k ≤ posK ks i m := by
  have := h.pos_mono hi (d := m - k) (k := k) (by omega)
  rw [show k + (m - k) = m by omega] at this; omega
theorem Tr.pos_lt {ks : List Nat} (h : Tr ks) {i k m : Nat} (hi : i < ks.length) (hk : k < m) (hm : m ≤ cnt ks i) : posK ks i k < posK ks i m := by
  have := h.pos_mono hi (d := m - k) (k := k) (by omega)
  rw [show k + (m - k) = m by omega] at this; omega
theorem Tr.pos_inj {ks : List Nat} (h : Tr ks) {i k m : Nat} (hi : i < ks.length) (hk : k < cnt ks i) (hm : m < cnt ks i) (e : posK ks i k = posK ks i m) : k = m := by
  rcases Nat.lt_trichotomy k m with h1 | h1 | h1
  · have := h.pos_lt hi h1 (Nat.le_of_lt hm); omega
  · exact h1
  · have := h.pos_lt hi h1 (Nat.le_of_lt hk); omega
/-- Each node below another one is below one of its children. -/
theorem Tr.child {ks : List Nat} (h : Tr ks) {i j : Nat} (hi : i < ks.length) (h1 : i < j) (h2 : j < endN ks i) : ∃ k, k < cnt ks i ∧ posK ks i k ≤ j ∧ j < posK ks i (k + 1) := by
  have hE := h.pos_end hi
  have : ∀ m, m ≤ cnt ks i → j < posK ks i m → ∃ k, k < m ∧ posK ks i k ≤ j ∧ j < posK ks i (k + 1) := by
    intro m
    induction m with
    | zero => intro _ hj; rw [posK_start hi] at hj; omega
    | succ m ih =>
      intro hm hj
      by_cases hp : posK ks i m ≤ j
      · exact ⟨m, by omega, hp, hj⟩
      · obtain ⟨k, a, b⟩ := ih (by omega) (by omega)
        exact ⟨k, by omega, b⟩
  exact this _ (Nat.le_refl _) (by rw [hE]; exact h2)
/-- Subtrees nest. -/
theorem Tr.nest {ks : List Nat} (h : Tr ks) : ∀ (f : Nat) {i j : Nat}, j - i ≤ f → i < ks.length → i < j → j < endN ks i → endN ks j ≤ endN ks i := by
  intro f
  induction f with
  | zero => intro i j hf _ h1; omega
  | succ f ih =>
    intro i j hf hi h1 h2
    obtain ⟨k, hk, ha, hb⟩ := h.child hi h1 h2
    obtain ⟨s1, s2, s3⟩ := h.pos_step hi hk
    have hle : posK ks i (k + 1) ≤ endN ks i := by rw [← h.pos_end hi]; exact h.pos_le hi (by omega) (Nat.le_refl _)
    by_cases e : posK ks i k = j
    · rw [← e, s3]; exact hle
    · have := ih (i := posK ks i k) (j := j) (by omega) s2 (by omega) (by rw [s3]; exact hb)
      rw [s3] at this; omega
/-- The last node before i, from below p, whose subtree has i. -/
def parGo (ks : List Nat) (i : Nat) : Nat → Nat
  | 0 => 0
  | p + 1 => if i < endN ks p then p else parGo ks i p
def parN (ks : List Nat) (i : Nat) : Nat := parGo ks i i
theorem Tr.par {ks : List Nat} (h : Tr ks) {i : Nat} (hi : i < ks.length) (h0 : 0 < i) : parN ks i < i ∧ i < endN ks (parN ks i) ∧ ∀ q, parN ks i < q → q < i → endN ks q ≤ i := by
  have : ∀ p, 0 < p → p ≤ i → (∀ q, p ≤ q → q < i → endN ks q ≤ i) → parGo ks i p < i ∧ i < endN ks (parGo ks i p) ∧ ∀ q, parGo ks i p < q → q < i → endN ks q ≤ i := by
    intro p
    induction p with
    | zero => intro h; omega
    | succ p ih =>
      intro _ hp hq
      rw [parGo]
      by_cases hc : i < endN ks p
      · rw [if_pos hc]; exact ⟨by omega, hc, fun q h1 h2 => hq q (by omega) h2⟩
      · rw [if_neg hc]
        by_cases hp0 : p = 0
        · subst hp0; rw [h.end_0] at hc; omega
        · exact ih (by omega) (by omega) fun q h1 h2 => by
            by_cases e : q = p
            · subst e; omega
            · exact hq q (by omega) h2
  exact this i h0 (Nat.le_refl _) fun q h1 h2 => by omega
/-- A node is a child of its parent. -/
theorem Tr.par_child {ks : List Nat} (h : Tr ks) {i : Nat} (hi : i < ks.length) (h0 : 0 < i) : ∃ k, k < cnt ks (parN ks i) ∧ posK ks (parN ks i) k = i := by
  obtain ⟨p1, p2, p3⟩ := h.par hi h0
  obtain ⟨k, hk, ha, hb⟩ := h.child (i := parN ks i) (by omega) p1 p2
  refine ⟨k, hk, ?_⟩
  obtain ⟨s1, s2, s3⟩ := h.pos_step (i := parN ks i) (by omega) hk
  by_cases e : posK ks (parN ks i) k = i
  · exact e
  · have := p3 (posK ks (parN ks i) k) s1 (by omega); omega
theorem Tr.par_of {ks : List Nat} (h : Tr ks) {p k : Nat} (hp : p < ks.length) (hk : k < cnt ks p) : parN ks (posK ks p k) = p := by
  obtain ⟨s1, s2, s3⟩ := h.pos_step hp hk
  obtain ⟨p1, p2, p3⟩ := h.par (i := posK ks p k) s2 (by omega)
  obtain ⟨i, hi⟩ : ∃ i, posK ks p k = i := ⟨_, rfl⟩
  have hnx := h.pos_next hp hk
  rw [hi] at s1 s2 s3 p1 p2 p3 hnx ⊢
  have hin : i < endN ks p := by
    rw [← h.pos_end hp]; exact Nat.lt_of_lt_of_le hnx (h.pos_le hp (by omega) (Nat.le_refl _))
  rcases Nat.lt_trichotomy (parN ks i) p with hl | hl | hl
  · have := p3 p hl s1; omega
  · exact hl
  · -- between p and i: below an earlier child
    obtain ⟨m, hm, ma, mb⟩ := h.child hp hl (by omega)
    have hmk : m < k := by
      rcases Nat.lt_or_ge m k with h1 | h1
      · exact h1
      · have := h.pos_le hp (k := k) (m := m) h1 (Nat.le_of_lt hm); omega
    have h2 := h.pos_le hp (k := m + 1) (m := k) (by omega) (by omega)
    obtain ⟨t1, t2, t3⟩ := h.pos_step hp hm
    have hle : endN ks (parN ks i) ≤ posK ks p (m + 1) := by
      by_cases e : posK ks p m = parN ks i
      · rw [← e, t3]; exact Nat.le_refl _
      · have := h.nest _ (i := posK ks p m) (j := parN ks i) (Nat.le_refl _) t2 (by omega) (by omega); omega
    omega
/-- The children of a node. -/
def kidsN (ks : List Nat) (i : Nat) : List Nat := (List.range (cnt ks i)).map (posK ks i)
theorem kidsN_len (ks : List Nat) (i : Nat) : (kidsN ks i).length = cnt ks i := by unfold kidsN; rw [List.length_map, List.length_range]
theorem kidsN_at {ks : List Nat} {i k : Nat} (hk : k < cnt ks i) : (kidsN ks i)[k]? = some (posK ks i k) := by
  unfold kidsN; rw [List.getElem?_map, List.getElem?_range hk]; rfl
/-- Where a path leads. -/
def fol (ks : List Nat) : Nat → List Int → Option Nat
  | i, [] => some i
  | i, x :: r => if 0 ≤ x ∧ x < (cnt ks i : Int) then fol ks (posK ks i x.toNat) r else none
theorem fol_app (ks : List Nat) : ∀ (a b : List Int) (i : Nat), fol ks i (a ++ b) = (fol ks i a).bind fun j => fol ks j b := by
  intro a
  induction a with
  | nil => intro b i; rfl
  | cons x a ih =>
    intro b i
    rw [List.cons_append, fol, fol]
    by_cases h : 0 ≤ x ∧ x < (cnt ks i : Int)
    · rw [if_pos h, if_pos h, ih]
    · rw [if_neg h, if_neg h]; rfl
theorem fol_kid {ks : List Nat} {i k : Nat} (hk : k < cnt ks i) (r : List Int) : fol ks i ((k : Int) :: r) = fol ks (posK ks i k) r := by
  rw [fol, if_pos (by omega), Int.toNat_natCast]
theorem fol_one {ks : List Nat} {i j k : Nat} {l : List Int} (h : fol ks i l = some j) (hk : k < cnt ks j) : fol ks i (l ++ [(k : Int)]) = some (posK ks j k) := by
  rw [fol_app, h]; show fol ks j [(k : Int)] = _; rw [fol_kid hk]; rfl
theorem Tr.fol_bd {ks : List Nat} (h : Tr ks) : ∀ (l : List Int) (i j : Nat), i < ks.length → fol ks i l = some j → i ≤ j ∧ j < endN ks i ∧ (l ≠ [] → i < j) := by
  intro l
  induction l with
  | nil => intro i j hi e; cases e; exact ⟨Nat.le_refl _, (h.end_bd hi).1, fun e => absurd rfl e⟩
  | cons x l ih =>
    intro i j hi e
    rw [fol] at e
    split at e
    · rename_i hx
      have hk : x.toNat < cnt ks i := by omega
      obtain ⟨s1, s2, s3⟩ := h.pos_step hi hk
      obtain ⟨a, b, _⟩ := ih _ _ s2 e
      have hle : posK ks i (x.toNat + 1) ≤ endN ks i := by rw [← h.pos_end hi]; exact h.pos_le hi (by omega) (Nat.le_refl _)
      exact ⟨by omega, by omega, fun _ => by omega⟩
    · cases e
/-- One path leads to a node. -/
theorem Tr.fol_inj {ks : List Nat} (h : Tr ks) : ∀ (l m : List Int) (i j : Nat), i < ks.length → fol ks i l = some j → fol ks i m = some j → l = m := by
  intro l
  induction l with
  | nil =>
    intro m i j hi h1 h2
    cases h1
    cases m with
    | nil => rfl
    | cons y m => have := (h.fol_bd _ _ _ hi h2).2.2 (by simp); omega
  | cons x l ih =>
    intro m i j hi h1 h2
    cases m with
    | nil => cases h2; have := (h.fol_bd _ _ _ hi h1).2.2 (by simp); omega
    | cons y m =>
      rw [fol] at h1 h2
      split at h1
      · rename_i hx
        split at h2
        · rename_i hy
          have kx : x.toNat < cnt ks i := by omega
          have ky : y.toNat < cnt ks i := by omega
          obtain ⟨a1, a2, a3⟩ := h.pos_step hi kx
          obtain ⟨b1, b2, b3⟩ := h.pos_step hi ky
          obtain ⟨c1, c2, _⟩ := h.fol_bd _ _ _ a2 h1
          obtain ⟨d1, d2, _⟩ := h.fol_bd _ _ _ b2 h2
          have hxy : x.toNat = y.toNat := by
            rcases Nat.lt_trichotomy x.toNat y.toNat with g | g | g
            · have := h.pos_le hi (k := x.toNat + 1) (m := y.toNat) g (Nat.le_of_lt ky); omega
            · exact g
            · have := h.pos_le hi (k := y.toNat + 1) (m := x.toNat) g (Nat.le_of_lt kx); omega
          rw [hxy] at h1
          rw [show x = y by omega, ih _ _ _ b2 h1 h2]
        · cases h2
      · cases h1

/-- What stands before a place: how many subtrees are missing behind it. -/
theorem eat_front : ∀ (a : List Nat) (m : Nat), (∃ m', ∀ x, eat (a ++ x) m = eat x m') ∨ ∃ r, r ≠ [] ∧ ∀ x, eat (a ++ x) m = some (r ++ x) := by
  intro a
  induction a with
  | nil => intro m; exact .inl ⟨m, fun _ => rfl⟩
  | cons k a ih =>
    intro m
    cases m with
    | zero => exact .inr ⟨k :: a, by simp, fun x => eat_zero _⟩
    | succ m =>
      rcases ih (k + m) with ⟨m', h⟩ | ⟨r, hr, h⟩
      · exact .inl ⟨m', fun x => by rw [List.cons_append, eat_cons]; exact h x⟩
      · exact .inr ⟨r, hr, fun x => by rw [List.cons_append, eat_cons]; exact h x⟩
/-- A subtree may be replaced by another tree. -/
theorem Tr.put {a s b s' : List Nat} (h : Tr (a ++ (s ++ b))) (hs : Tr s) (hs' : Tr s') : Tr (a ++ (s' ++ b)) := by
  rcases eat_front a 1 with ⟨m, hm⟩ | ⟨r, hr, hx⟩
  · have h1 : eat (s ++ b) m = some [] := by rw [← hm]; exact h
    show eat _ 1 = _
    rw [hm]
    cases m with
    | zero =>
      rw [eat_zero] at h1
      have h2 : s.length + b.length = 0 := by have h3 := congrArg List.length (Option.some.inj h1); rwa [List.length_append] at h3
      have := hs.pos
      omega
    | succ m =>
      rw [Nat.add_comm m 1, eat_add, eat_behind _ _ _ b hs] at h1
      rw [Nat.add_comm m 1, eat_add, eat_behind _ _ _ b hs']
      exact h1
  · have := (hx (s ++ b)).symm.trans h
    have h3 : r.length + (s ++ b).length = 0 := by have h4 := congrArg List.length (Option.some.inj this); rwa [List.length_append] at h4
    have := List.length_pos_iff.2 hr
    omega
theorem Tr.list : ∀ (l : List (List Nat)), (∀ x ∈ l, Tr x) → Tr (l.length :: l.flatten) := by
  intro l h
  show eat _ 1 = _
  rw [eat_cons]
  have : ∀ (l : List (List Nat)), (∀ x ∈ l, Tr x) → eat l.flatten l.length = some [] := by
    intro l
    induction l with
    | nil => intro _; rfl
    | cons x l ih =>
      intro h
      rw [List.flatten_cons, List.length_cons, Nat.add_comm, eat_add, eat_behind _ _ _ _ (h x (by simp))]
      exact ih fun y hy => h y (by simp [hy])
  exact this l h
/-- The part of a flat tree that a node has is one. -/
theorem Tr.sub {ks : List Nat} (h : Tr ks) {i : Nat} (hi : i < ks.length) : Tr ((ks.take (endN ks i)).drop i) ∧ ks = ks.take i ++ ((ks.take (endN ks i)).drop i ++ ks.drop (endN ks i)) := by
  obtain ⟨r, hr⟩ := h.each hi
  obtain ⟨e1, e2, e3⟩ := endN_of (Nat.le_of_lt hi) hr
  obtain ⟨p, hp, he⟩ := eat_cut hr
  have hs : ks = ks.take i ++ ((ks.take (endN ks i)).drop i ++ ks.drop (endN ks i)) := by
    have h1 : ks.drop (endN ks i) = (ks.drop i).drop (endN ks i - i) := by rw [List.drop_drop, show i + (endN ks i - i) = endN ks i by omega]
    rw [List.drop_take, h1, List.take_append_drop, List.take_append_drop]
  refine ⟨?_, hs⟩
  have hd : ks.drop i = (ks.take (endN ks i)).drop i ++ ks.drop (endN ks i) := by
    have := congrArg (List.drop i) hs
    rw [List.drop_left' (by rw [List.length_take]; omega)] at this
    exact this
  rw [e3, hp] at hd
  show eat _ 1 = _
  rw [← List.append_cancel_right hd]; exact he
end Go.Proofs.YtdiinlmeoifgjaaGreatDoor
