/- The law StxPuts: mathematics. -/
import Derived.Test.YtbmgpenllpbioaaGreatDoorYi
namespace Go.Proofs.YtbmgpenllpbioaaGreatDoor
open Go.RowKit Go.PlainAid

theorem errX_shallow {x : Sx} {d d' : Int} (h : errX x d = 0) (hd : d' ≤ d) : errX x d' = 0 := by
  unfold errX at *
  split at h
  · cases h
  · rename_i h1
    rw [if_neg h1]
    split at h
    · cases h
    · rename_i h2
      rw [if_neg (by omega)]; exact h
/-- What is popped within a subtree. -/
theorem popZ_appX (s r : List Nat) : popZ (s ++ r) = if popZ s = [] then popZ r else popZ s ++ r := by
  induction s with
  | nil => rfl
  | cons a s ih =>
    by_cases h : a = 0
    · subst h
      have e1 : popZ (0 :: s) = popZ s := rfl
      have e2 : popZ (0 :: s ++ r) = popZ (s ++ r) := rfl
      rw [e1, e2]; exact ih
    · have e : ∀ l : List Nat, popZ (a :: l) = a :: l := fun l => by unfold popZ; rw [List.dropWhile_cons, if_neg (by simpa using h)]
      rw [List.cons_append, e, e, if_neg (by simp)]; rfl
/-- A walk that goes on behind a subtree, and the walk of this subtree alone. -/
theorem chkG_sub : ∀ (s rest : List Sx) (σ r : List Nat) (i k : Nat), r ≠ [] → stackN (popZ (σ ++ [0])) (kidsX s) = some [] → (chkG (popZ (σ ++ r)) i (s ++ rest)).2 = 0 → chkG (popZ (σ ++ [0])) k s = (0, 0) := by
  intro s
  induction s with
  | nil =>
    intro rest σ r i k _ h _
    have h' : popZ (σ ++ [0]) = [] := Option.some.inj h
    rw [h', chkG, if_pos rfl]
  | cons x s ih =>
    intro rest σ r i k hr h hg
    rw [popZ_appX] at h hg ⊢
    split at h
    · cases h
    · rename_i hs
      rw [if_neg hs] at hg ⊢
      cases hp : popZ σ with
      | nil => exact absurd hp hs
      | cons b τ =>
        rw [hp] at h hg
        have h' : stackN (popZ ((x.c.toNat :: (b - 1) :: τ) ++ [0])) (kidsX s) = some [] := h
        have hg' : (chkG (b :: (τ ++ r)) i (x :: (s ++ rest))).2 = 0 := hg
        rw [chkG, if_neg (by simp)] at hg'
        split at hg'
        · rename_i hE; exact absurd hg' hE
        · rename_i hE
          have hE0 : errX x ((((b :: τ) ++ r).length : Int) - 1) = 0 := Decidable.not_not.1 hE
          have hrl := List.length_pos_iff.2 hr
          have hE1 : errX x ((((b :: τ) ++ [0]).length : Int) - 1) = 0 := errX_shallow hE0 (by rw [List.length_append, List.length_append]; simp only [List.length_cons, List.length_nil]; omega)
          rw [chkG, if_neg (by simp), if_neg (by rw [hE1]; simp)]
          exact ih rest (x.c.toNat :: (b - 1) :: τ) r (i + 1) (k + 1) hr h' hg'
/-- A walk as far as some nodes. -/
theorem chkG_at : ∀ (p rest : List Sx) (st : List Nat) (i : Nat), rest ≠ [] → topN st → (chkG st i (p ++ rest)).2 = 0 → ∃ st' i', topN st' ∧ st' ≠ [] ∧ (chkG st' i' rest).2 = 0 := by
  intro p
  induction p with
  | nil =>
    intro rest st i hr ht h
    refine ⟨st, i, ht, ?_, h⟩
    rintro rfl
    cases rest with
    | nil => exact hr rfl
    | cons y s => rw [List.nil_append, chkG, if_pos rfl] at h; cases h
  | cons x p ih =>
    intro rest st i hr ht h
    rw [List.cons_append, chkG] at h
    split at h
    · cases h
    · split at h
      · rename_i hE; exact absurd h hE
      · exact ih rest _ _ hr (pushN_top _ _) h
theorem segX_eq (l : List Sx) (i j : Nat) : segX l i j = (l.take j).drop i := by unfold segX; rw [List.drop_take]
theorem subX_split {l : List Sx} (h : (chkX l).2 = 0) {i : Nat} (hi : i < l.length) : l = l.take i ++ (subX l i ++ l.drop (endN (kidsX l) i)) := by
  obtain ⟨e1, e2⟩ := endX h hi
  obtain ⟨q, hq⟩ : ∃ q, endN (kidsX l) i = q := ⟨_, rfl⟩
  unfold subX segX
  rw [hq] at e1 e2 ⊢
  have h1 : l.drop q = (l.drop i).drop (q - i) := by rw [List.drop_drop, show i + (q - i) = q by omega]
  rw [h1, List.take_append_drop, List.take_append_drop]
theorem subX_len {l : List Sx} (h : (chkX l).2 = 0) {i : Nat} (hi : i < l.length) : (subX l i).length = endN (kidsX l) i - i := by
  unfold subX; exact segX_len (endX h hi).2
theorem subX_ne {l : List Sx} (h : (chkX l).2 = 0) {i : Nat} (hi : i < l.length) : subX l i ≠ [] := by
  intro e
  have h1 := subX_len h hi
  have h2 := (endX h hi).1
  rw [e] at h1; simp at h1; omega
/-- A subtree of syntax is syntax. -/
theorem chkX_sub {l : List Sx} (h : (chkX l).2 = 0) {i : Nat} (hi : i < l.length) : (chkX (subX l i)).2 = 0 := by
  have hT := chkX_tr h
  obtain ⟨h0, t2, t3⟩ := chkX_one h
  obtain ⟨e1, e2⟩ := endX h hi
  obtain ⟨s1, _⟩ := hT.sub (i := i) (by rw [kidsX_len]; exact hi)
  have hsplit := subX_split h hi
  have hsl := subX_len h hi
  have hne := subX_ne h hi
  obtain ⟨q, hq⟩ : ∃ q, endN (kidsX l) i = q := ⟨_, rfl⟩
  have hks : Tr (kidsX (subX l i)) := by unfold subX; rw [segX_eq, kidsX_drop, kidsX_take]; exact s1
  rw [hq] at e1 e2 hsl hsplit
  rw [h0, hsplit] at h
  obtain ⟨st, i', g1, g2, g3⟩ := chkG_at (l.take i) (subX l i ++ l.drop q) [1] 0 (by simp [hne]) (by intro a ha; cases ha; decide) h
  have htop : topN [1] := by intro a ha; cases ha; decide
  have hst := (stack_eat (kidsX (subX l i)) [1] htop).2 hks
  unfold chkX
  rw [if_neg hne, if_neg (by omega)]
  cases hss : subX l i with
  | nil => exact absurd hss hne
  | cons x s =>
    rw [hss] at g3 hst
    cases st with
    | nil => exact absurd rfl g2
    | cons a r =>
      have h' : stackN (popZ ([x.c.toNat] ++ [0])) (kidsX s) = some [] := hst
      rw [List.cons_append, chkG, if_neg (by simp)] at g3
      split at g3
      · rename_i hE; exact absurd g3 hE
      · rename_i hE
        have hE0 : errX x (((a :: r).length : Int) - 1) = 0 := Decidable.not_not.1 hE
        have hE1 : errX x ((([1] : List Nat).length : Int) - 1) = 0 := errX_shallow hE0 (by simp only [List.length_cons, List.length_nil]; omega)
        rw [chkG, if_neg (by simp), if_neg (by rw [hE1]; simp)]
        exact congrArg Prod.snd (chkG_sub s (l.drop q) [x.c.toNat] ((a - 1) :: r) (i' + 1) 1 (by simp) h' g3)
theorem askX_in {l : List Sx} (h : (chkX l).2 = 0) {i : Nat} (hi : i < l.length) : askX l (i : Int) = 0 := by
  unfold askX; rw [if_neg (by simpa using h), if_neg (by omega)]
/-- Put of the own subtree. -/
theorem putL_own {l : List Sx} (h : (chkX l).2 = 0) {i : Nat} (hi : i < l.length) : putL l i (subX l i) = l := (subX_split h hi).symm
theorem putX_own {l : List Sx} (h : (chkX l).2 = 0) {i : Nat} (hi : i < l.length) : putX l (i : Int) (subX l i) = (l, 0) := by
  unfold putX
  rw [if_neg (by simpa using h), if_neg (by simpa using chkX_sub h hi), if_neg (by simpa using askX_in h hi), Int.toNat_natCast, putL_own h hi, if_neg (by simpa using h)]
/-- What is put stands there. -/
theorem putL_end {l s : List Sx} (h : (chkX l).2 = 0) (hs : (chkX s).2 = 0) {i : Nat} (hi : i < l.length) : endN (kidsX (putL l i s)) i = i + s.length := by
  obtain ⟨e1, e2⟩ := endX h hi
  obtain ⟨E, hE⟩ : ∃ E, endN (kidsX l) i = E := ⟨_, rfl⟩
  rw [hE] at e1 e2
  have hp : putL l i s = l.take i ++ (s ++ l.drop E) := by unfold putL; rw [hE]
  have hd : (kidsX (putL l i s)).drop i = kidsX s ++ kidsX (l.drop E) := by
    rw [hp, kidsX_app, List.drop_left' (by rw [kidsX_len, List.length_take]; omega), kidsX_app]
  have hr : eat ((kidsX (putL l i s)).drop i) 1 = some (kidsX (l.drop E)) := by
    rw [hd, eat_behind _ _ _ _ (chkX_tr hs)]; rfl
  have hlen : (putL l i s).length = i + s.length + (l.length - E) := by rw [hp, List.length_append, List.length_append, List.length_take, List.length_drop]; omega
  obtain ⟨h1, h2, h3⟩ := endN_of (ks := kidsX (putL l i s)) (p := i) (by rw [kidsX_len]; omega) hr
  have h4 := congrArg List.length h3
  rw [List.length_drop, kidsX_len, kidsX_len, List.length_drop] at h4
  rw [kidsX_len] at h2
  omega
theorem putL_sub {l s : List Sx} (h : (chkX l).2 = 0) (hs : (chkX s).2 = 0) {i : Nat} (hi : i < l.length) : subX (putL l i s) i = s := by
  unfold subX
  rw [putL_end h hs hi]
  unfold segX putL
  rw [List.drop_left' (by rw [List.length_take]; omega), show i + s.length - i = s.length by omega, List.take_left]
theorem putL_back {l s : List Sx} (h : (chkX l).2 = 0) (hs : (chkX s).2 = 0) {i : Nat} (hi : i < l.length) : putL (putL l i s) i (subX l i) = l := by
  have h1 := putL_end h hs hi
  obtain ⟨E, hE⟩ : ∃ E, endN (kidsX l) i = E := ⟨_, rfl⟩
  have hsp := subX_split h hi
  have hti : (l.take i).length = i := by rw [List.length_take]; omega
  unfold putL at h1 ⊢
  rw [h1]
  rw [hE] at hsp ⊢
  have h2 : (l.take i ++ (s ++ l.drop E)).drop (i + s.length) = l.drop E := by rw [← List.append_assoc, List.drop_left' (by rw [List.length_append, hti])]
  rw [List.take_left' hti, h2, ← hsp]
theorem putX_len {l s : List Sx} {i : Nat} (hi : i < l.length) : i < (putL l i s).length ∨ s = [] := by
  cases s with
  | nil => exact .inr rfl
  | cons a s => left; unfold putL; rw [List.length_append, List.length_take]; simp; omega
theorem putX_ok {l s : List Sx} {i : Nat} (h : (putX l (i : Int) s).2 = 0) : putX l (i : Int) s = (putL l i s, 0) ∧ (chkX (putL l i s)).2 = 0 := by
  unfold putX at *
  by_cases h1 : (chkX l).2 = 0
  · by_cases h2 : (chkX s).2 = 0
    · by_cases h3 : askX l (i : Int) = 0
      · by_cases h4 : (chkX (putL l i s)).2 = 0
        · rw [if_neg (by simpa using h1), if_neg (by simpa using h2), if_neg (by simpa using h3), Int.toNat_natCast, if_neg (by simpa using h4)]; exact ⟨rfl, h4⟩
        · rw [if_neg (by simpa using h1), if_neg (by simpa using h2), if_neg (by simpa using h3), Int.toNat_natCast, if_pos h4] at h; exact absurd h h4
      · rw [if_neg (by simpa using h1), if_neg (by simpa using h2), if_pos h3] at h; exact absurd h h3
    · rw [if_neg (by simpa using h1), if_pos h2] at h; exact absurd h h2
  · rw [if_pos h1] at h; exact absurd h h1
theorem putX_back {l s : List Sx} (h : (chkX l).2 = 0) (hs : (chkX s).2 = 0) {i : Nat} (hi : i < l.length) (hp : (chkX (putL l i s)).2 = 0) : putX (putL l i s) (i : Int) (subX l i) = (l, 0) := by
  have hlt : i < (putL l i s).length := by
    rcases putX_len (s := s) hi with h1 | h1
    · exact h1
    · rw [h1] at hs; cases hs
  unfold putX
  rw [if_neg (by simpa using hp), if_neg (by simpa using chkX_sub h hi), if_neg (by simpa using askX_in hp hlt), Int.toNat_natCast, putL_back h hs hi, if_neg (by simpa using h)]
theorem subR_in {l : List Sx} (h : (chkX l).2 = 0) {i : Nat} (hi : i < l.length) : subR l (i : Int) = (subX l i, 0) := by
  unfold subR; rw [if_neg (by simpa using askX_in h hi), Int.toNat_natCast]

/-- A list of parts: its root has what a node has beside. -/
def rootX (n : Nat) (x : Sx) : Sx := { k := 4, c := (n : Int), n := 0, s := [], p := x.p, f := x.f, t := x.t, o := x.o }
def listL10 (ts : List (List Sx)) (x : Sx) : List Sx := rootX ts.length x :: ts.flatten
def listX (ts : List (List Sx)) (x : Sx) : List Sx × Int :=
  if allX ts ≠ 0 then ([], allX ts) else if (chkX (listL10 ts x)).2 ≠ 0 then ([], (chkX (listL10 ts x)).2) else (listL10 ts x, 0)
theorem listX_long {ts : List (List Sx)} {x : Sx} (h : allX ts = 0) (hl : 2000 ≤ ts.flatten.length) : listX ts x = ([], 3) := by
  have h1 : (chkX (listL10 ts x)).2 = 3 := by
    unfold chkX listL10
    rw [if_neg (by simp), if_pos (by rw [List.length_cons]; omega)]
  unfold listX
  rw [if_neg (by simpa using h), if_pos (by rw [h1]; simp), h1]
theorem allX_0 {ts : List (List Sx)} (h : allX ts = 0) : ∀ t ∈ ts, (chkX t).2 = 0 := by
  induction ts with
  | nil => intro t ht; cases ht
  | cons y ts ih =>
    rw [allX] at h
    split at h
    · rename_i h1; exact absurd h h1
    · rename_i h1
      intro t ht
      rcases List.mem_cons.1 ht with e | e
      · rw [e]; exact Decidable.not_not.1 h1
      · exact ih h t e
theorem allX_all {ts : List (List Sx)} (h : ∀ t ∈ ts, (chkX t).2 = 0) : allX ts = 0 := by
  induction ts with
  | nil => rfl
  | cons y ts ih => rw [allX, if_neg (by simpa using h y (by simp))]; exact ih fun t ht => h t (by simp [ht])
/-- The subtrees of the first children. -/
def partsX (l : List Sx) (i m : Nat) : List (List Sx) := (List.range m).map fun k => subX l (posK (kidsX l) i k)
theorem partsX_succ (l : List Sx) (i m : Nat) : partsX l i (m + 1) = partsX l i m ++ [subX l (posK (kidsX l) i m)] := by
  unfold partsX; rw [List.range_succ, List.map_append]; rfl
theorem partsX_len (l : List Sx) (i m : Nat) : (partsX l i m).length = m := by unfold partsX; rw [List.length_map, List.length_range]
theorem partsX_flat {l : List Sx} (hT : Tr (kidsX l)) {i : Nat} (hi : i < l.length) : ∀ m, m ≤ cnt (kidsX l) i → (partsX l i m).flatten = (l.take (posK (kidsX l) i m)).drop (i + 1) := by
  have hil : i < (kidsX l).length := by rw [kidsX_len]; exact hi
  intro m
  induction m with
  | zero => intro _; rw [posK_start hil, List.drop_of_length_le (by rw [List.length_take]; omega)]; rfl
  | succ m ih =>
    intro hm
    obtain ⟨p1, p2, p3⟩ := hT.pos_step hil (k := m) (by omega)
    have p4 := hT.pos_next hil (k := m) (by omega)
    have p5 := (hT.end_bd p2).2
    rw [p3, kidsX_len] at p5
    rw [partsX_succ, List.flatten_append, ih (by omega), List.flatten_singleton]
    unfold subX
    rw [p3, segX_eq]
    obtain ⟨a, ha⟩ : ∃ a, posK (kidsX l) i m = a := ⟨_, rfl⟩
    obtain ⟨b, hb⟩ : ∃ b, posK (kidsX l) i (m + 1) = b := ⟨_, rfl⟩
    rw [ha] at p1 p4 ⊢
    rw [hb] at p4 p5 ⊢
    have h1 : l.take b = l.take a ++ (l.take b).drop a := by
      have := (List.take_append_drop a (l.take b)).symm
      rw [List.take_take, Nat.min_eq_left (Nat.le_of_lt p4)] at this; exact this
    conv => rhs; rw [h1]
    rw [List.drop_append_of_le_length (by rw [List.length_take]; omega)]
theorem kidsN_in {l : List Sx} (h : (chkX l).2 = 0) {i k : Nat} (hi : i < l.length) (hk : k < cnt (kidsX l) i) : posK (kidsX l) i k < l.length := by
  have := ((chkX_tr h).pos_step (i := i) (k := k) (by rw [kidsX_len]; exact hi) hk).2.1
  rwa [kidsX_len] at this
/-- The subtrees of the children of a list make up the list. -/
theorem list_own {l : List Sx} (h : (chkX l).2 = 0) {i : Nat} {x : Sx} (hx : l[i]? = some x) (h4 : x.k = 4) : listX (partsX l i (cnt (kidsX l) i)) x = (subX l i, 0) := by
  have hT := chkX_tr h
  obtain ⟨hi, hxe⟩ := List.getElem?_eq_some_iff.1 hx
  have hil : i < (kidsX l).length := by rw [kidsX_len]; exact hi
  obtain ⟨e1, e2⟩ := endX h hi
  have hk0 := chkX_kids h x (List.mem_of_getElem? hx)
  have hcnt : cnt (kidsX l) i = x.c.toNat := cnt_of (kidsX_at hx)
  have hok := ((chkX_ok h).2 x (List.mem_of_getElem? hx)).1
  unfold kindX at hok
  rw [if_neg (by omega), if_neg (by omega), if_pos h4] at hok
  simp only [Bool.and_eq_true, decide_eq_true_eq] at hok
  have hL : listL10 (partsX l i (cnt (kidsX l) i)) x = subX l i := by
    unfold listL10
    rw [partsX_flat hT hi _ (Nat.le_refl _), hT.pos_end hil, partsX_len, hcnt]
    unfold subX
    rw [segX_eq]
    obtain ⟨q, hq⟩ : ∃ q, endN (kidsX l) i = q := ⟨_, rfl⟩
    rw [hq] at e1 e2 ⊢
    have hgi : (l.take q)[i]? = some x := by rw [List.getElem?_take, if_pos e1, hx]
    obtain ⟨hil2, hxe2⟩ := List.getElem?_eq_some_iff.1 hgi
    rw [List.drop_eq_getElem_cons hil2, hxe2]
    congr 1
    obtain ⟨k, c, n, s, p, f, t, o⟩ := x
    simp only at hok h4 hk0
    obtain ⟨⟨_, rfl⟩, rfl⟩ := hok
    subst h4
    unfold rootX
    simp only
    rw [Int.toNat_of_nonneg hk0]
  have ha : allX (partsX l i (cnt (kidsX l) i)) = 0 := allX_all fun t ht => by
    unfold partsX at ht
    obtain ⟨k, hk, rfl⟩ := List.mem_map.1 ht
    exact chkX_sub h (kidsN_in h hi (List.mem_range.1 hk))
  have hs := chkX_sub h hi
  unfold listX
  rw [hL, if_neg (by simpa using ha), if_neg (by simpa using hs)]
end Go.Proofs.YtbmgpenllpbioaaGreatDoor
