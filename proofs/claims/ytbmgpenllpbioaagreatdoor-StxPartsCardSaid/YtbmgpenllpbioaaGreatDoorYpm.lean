/- Parts of syntax: List, End, Size, Children, Kids, Sub, Put, and their references. (Merged by tools/domergepa.sh.) -/
import Derived.Test.YtbmgpenllpbioaaGreatDoorYi
import Derived.Test.YtbmgpenllpbioaaGreatDoorYu
import Derived.Test.YtbmgpenllpbioaaGreatDoorYs
import Derived.Deep.AppendLies
import Derived.Test.YtbmgpenllpbioaaGreatDoorYck
import Derived.BigQuiet
import Derived.Test.YtbmgpenllpbioaaGreatDoorYaw
namespace Go.Proofs.YtbmgpenllpbioaaGreatDoor
open Go.RowKit Go.PlainAid

theorem errX_shallow {x : Sx} {d d' : Int} (h : errX x d = 0) (hd : d' ≤ d) : errX x d' = 0 := by
  unfold errX at *
  split at h
  · cases h
  · rename_i h1
    rw [if_neg h1]
    split at h
    · cases h
    · rename_i h2
      rw [if_neg (by omega)]; exact h
/-- What is popped within a subtree. -/
theorem popZ_appX (s r : List Nat) : popZ (s ++ r) = if popZ s = [] then popZ r else popZ s ++ r := by
  induction s with
  | nil => rfl
  | cons a s ih =>
    by_cases h : a = 0
    · subst h
      have e1 : popZ (0 :: s) = popZ s := rfl
      have e2 : popZ (0 :: s ++ r) = popZ (s ++ r) := rfl
      rw [e1, e2]; exact ih
    · have e : ∀ l : List Nat, popZ (a :: l) = a :: l := fun l => by unfold popZ; rw [List.dropWhile_cons, if_neg (by simpa using h)]
      rw [List.cons_append, e, e, if_neg (by simp)]; rfl
/-- A walk that goes on behind a subtree, and the walk of this subtree alone. -/
theorem chkG_sub : ∀ (s rest : List Sx) (σ r : List Nat) (i k : Nat), r ≠ [] → stackN (popZ (σ ++ [0])) (kidsX s) = some [] → (chkG (popZ (σ ++ r)) i (s ++ rest)).2 = 0 → chkG (popZ (σ ++ [0])) k s = (0, 0) := by
  intro s
  induction s with
  | nil =>
    intro rest σ r i k _ h _
    have h' : popZ (σ ++ [0]) = [] := Option.some.inj h
    rw [h', chkG, if_pos rfl]
  | cons x s ih =>
    intro rest σ r i k hr h hg
    rw [popZ_appX] at h hg ⊢
    split at h
    · cases h
    · rename_i hs
      rw [if_neg hs] at hg ⊢
      cases hp : popZ σ with
      | nil => exact absurd hp hs
      | cons b τ =>
        rw [hp] at h hg
        have h' : stackN (popZ ((x.c.toNat :: (b - 1) :: τ) ++ [0])) (kidsX s) = some [] := h
        have hg' : (chkG (b :: (τ ++ r)) i (x :: (s ++ rest))).2 = 0 := hg
        rw [chkG, if_neg (by simp)] at hg'
        split at hg'
        · rename_i hE; exact absurd hg' hE
        · rename_i hE
          have hE0 : errX x ((((b :: τ) ++ r).length : Int) - 1) = 0 := Decidable.not_not.1 hE
          have hrl := List.length_pos_iff.2 hr
          have hE1 : errX x ((((b :: τ) ++ [0]).length : Int) - 1) = 0 := errX_shallow hE0 (by rw [List.length_append, List.length_append]; simp only [List.length_cons, List.length_nil]; omega)
          rw [chkG, if_neg (by simp), if_neg (by rw [hE1]; simp)]
          exact ih rest (x.c.toNat :: (b - 1) :: τ) r (i + 1) (k + 1) hr h' hg'
/-- A walk as far as some nodes. -/
theorem chkG_at : ∀ (p rest : List Sx) (st : List Nat) (i : Nat), rest ≠ [] → topN st → (chkG st i (p ++ rest)).2 = 0 → ∃ st' i', topN st' ∧ st' ≠ [] ∧ (chkG st' i' rest).2 = 0 := by
  intro p
  induction p with
  | nil =>
    intro rest st i hr ht h
    refine ⟨st, i, ht, ?_, h⟩
    rintro rfl
    cases rest with
    | nil => exact hr rfl
    | cons y s => rw [List.nil_append, chkG, if_pos rfl] at h; cases h
  | cons x p ih =>
    intro rest st i hr ht h
    rw [List.cons_append, chkG] at h
    split at h
    · cases h
    · split at h
      · rename_i hE; exact absurd h hE
      · exact ih rest _ _ hr (pushN_top _ _) h
theorem segX_eq (l : List Sx) (i j : Nat) : segX l i j = (l.take j).drop i := by unfold segX; rw [List.drop_take]
theorem subX_split {l : List Sx} (h : (chkX l).2 = 0) {i : Nat} (hi : i < l.length) : l = l.take i ++ (subX l i ++ l.drop (endN (kidsX l) i)) := by
  obtain ⟨e1, e2⟩ := endX h hi
  obtain ⟨q, hq⟩ : ∃ q, endN (kidsX l) i = q := ⟨_, rfl⟩
  unfold subX segX
  rw [hq] at e1 e2 ⊢
  have h1 : l.drop q = (l.drop i).drop (q - i) := by rw [List.drop_drop, show i + (q - i) = q by omega]
  rw [h1, List.take_append_drop, List.take_append_drop]
theorem subX_len {l : List Sx} (h : (chkX l).2 = 0) {i : Nat} (hi : i < l.length) : (subX l i).length = endN (kidsX l) i - i := by
  unfold subX; exact segX_len (endX h hi).2
theorem subX_ne {l : List Sx} (h : (chkX l).2 = 0) {i : Nat} (hi : i < l.length) : subX l i ≠ [] := by
  intro e
  have h1 := subX_len h hi
  have h2 := (endX h hi).1
  rw [e] at h1; simp at h1; omega
/-- A subtree of syntax is syntax. -/
theorem chkX_sub {l : List Sx} (h : (chkX l).2 = 0) {i : Nat} (hi : i < l.length) : (chkX (subX l i)).2 = 0 := by
  have hT := chkX_tr h
  obtain ⟨h0, t2, t3⟩ := chkX_one h
  obtain ⟨e1, e2⟩ := endX h hi
  obtain ⟨s1, _⟩ := hT.sub (i := i) (by rw [kidsX_len]; exact hi)
  have hsplit := subX_split h hi
  have hsl := subX_len h hi
  have hne := subX_ne h hi
  obtain ⟨q, hq⟩ : ∃ q, endN (kidsX l) i = q := ⟨_, rfl⟩
  have hks : Tr (kidsX (subX l i)) := by unfold subX; rw [segX_eq, kidsX_drop, kidsX_take]; exact s1
  rw [hq] at e1 e2 hsl hsplit
  rw [h0, hsplit] at h
  obtain ⟨st, i', g1, g2, g3⟩ := chkG_at (l.take i) (subX l i ++ l.drop q) [1] 0 (by simp [hne]) (by intro a ha; cases ha; decide) h
  have htop : topN [1] := by intro a ha; cases ha; decide
  have hst := (stack_eat (kidsX (subX l i)) [1] htop).2 hks
  unfold chkX
  rw [if_neg hne, if_neg (by omega)]
  cases hss : subX l i with
  | nil => exact absurd hss hne
  | cons x s =>
    rw [hss] at g3 hst
    cases st with
    | nil => exact absurd rfl g2
    | cons a r =>
      have h' : stackN (popZ ([x.c.toNat] ++ [0])) (kidsX s) = some [] := hst
      rw [List.cons_append, chkG, if_neg (by simp)] at g3
      split at g3
      · rename_i hE; exact absurd g3 hE
      · rename_i hE
        have hE0 : errX x (((a :: r).length : Int) - 1) = 0 := Decidable.not_not.1 hE
        have hE1 : errX x ((([1] : List Nat).length : Int) - 1) = 0 := errX_shallow hE0 (by simp only [List.length_cons, List.length_nil]; omega)
        rw [chkG, if_neg (by simp), if_neg (by rw [hE1]; simp)]
        exact congrArg Prod.snd (chkG_sub s (l.drop q) [x.c.toNat] ((a - 1) :: r) (i' + 1) 1 (by simp) h' g3)
theorem askX_in {l : List Sx} (h : (chkX l).2 = 0) {i : Nat} (hi : i < l.length) : askX l (i : Int) = 0 := by
  unfold askX; rw [if_neg (by simpa using h), if_neg (by omega)]
/-- Put of the own subtree. -/
theorem putL_own {l : List Sx} (h : (chkX l).2 = 0) {i : Nat} (hi : i < l.length) : putL l i (subX l i) = l := (subX_split h hi).symm
theorem putX_own {l : List Sx} (h : (chkX l).2 = 0) {i : Nat} (hi : i < l.length) : putX l (i : Int) (subX l i) = (l, 0) := by
  unfold putX
  rw [if_neg (by simpa using h), if_neg (by simpa using chkX_sub h hi), if_neg (by simpa using askX_in h hi), Int.toNat_natCast, putL_own h hi, if_neg (by simpa using h)]
/-- What is put stands there. -/
theorem putL_end {l s : List Sx} (h : (chkX l).2 = 0) (hs : (chkX s).2 = 0) {i : Nat} (hi : i < l.length) : endN (kidsX (putL l i s)) i = i + s.length := by
  obtain ⟨e1, e2⟩ := endX h hi
  obtain ⟨E, hE⟩ : ∃ E, endN (kidsX l) i = E := ⟨_, rfl⟩
  rw [hE] at e1 e2
  have hp : putL l i s = l.take i ++ (s ++ l.drop E) := by unfold putL; rw [hE]
  have hd : (kidsX (putL l i s)).drop i = kidsX s ++ kidsX (l.drop E) := by
    rw [hp, kidsX_app, List.drop_left' (by rw [kidsX_len, List.length_take]; omega), kidsX_app]
  have hr : eat ((kidsX (putL l i s)).drop i) 1 = some (kidsX (l.drop E)) := by
    rw [hd, eat_behind _ _ _ _ (chkX_tr hs)]; rfl
  have hlen : (putL l i s).length = i + s.length + (l.length - E) := by rw [hp, List.length_append, List.length_append, List.length_take, List.length_drop]; omega
  obtain ⟨h1, h2, h3⟩ := endN_of (ks := kidsX (putL l i s)) (p := i) (by rw [kidsX_len]; omega) hr
  have h4 := congrArg List.length h3
  rw [List.length_drop, kidsX_len, kidsX_len, List.length_drop] at h4
  rw [kidsX_len] at h2
  omega
theorem putL_sub {l s : List Sx} (h : (chkX l).2 = 0) (hs : (chkX s).2 = 0) {i : Nat} (hi : i < l.length) : subX (putL l i s) i = s := by
  unfold subX
  rw [putL_end h hs hi]
  unfold segX putL
  rw [List.drop_left' (by rw [List.length_take]; omega), show i + s.length - i = s.length by omega, List.take_left]
theorem putL_back {l s : List Sx} (h : (chkX l).2 = 0) (hs : (chkX s).2 = 0) {i : Nat} (hi : i < l.length) : putL (putL l i s) i (subX l i) = l := by
  have h1 := putL_end h hs hi
  obtain ⟨E, hE⟩ : ∃ E, endN (kidsX l) i = E := ⟨_, rfl⟩
  have hsp := subX_split h hi
  have hti : (l.take i).length = i := by rw [List.length_take]; omega
  unfold putL at h1 ⊢
  rw [h1]
  rw [hE] at hsp ⊢
  have h2 : (l.take i ++ (s ++ l.drop E)).drop (i + s.length) = l.drop E := by rw [← List.append_assoc, List.drop_left' (by rw [List.length_append, hti])]
  rw [List.take_left' hti, h2, ← hsp]
theorem putX_len {l s : List Sx} {i : Nat} (hi : i < l.length) : i < (putL l i s).length ∨ s = [] := by
  cases s with
  | nil => exact .inr rfl
  | cons a s => left; unfold putL; rw [List.length_append, List.length_take]; simp; omega
theorem putX_ok {l s : List Sx} {i : Nat} (h : (putX l (i : Int) s).2 = 0) : putX l (i : Int) s = (putL l i s, 0) ∧ (chkX (putL l i s)).2 = 0 := by
  unfold putX at *
  by_cases h1 : (chkX l).2 = 0
  · by_cases h2 : (chkX s).2 = 0
    · by_cases h3 : askX l (i : Int) = 0
      · by_cases h4 : (chkX (putL l i s)).2 = 0
        · rw [if_neg (by simpa using h1), if_neg (by simpa using h2), if_neg (by simpa using h3), Int.toNat_natCast, if_neg (by simpa using h4)]; exact ⟨rfl, h4⟩
        · rw [if_neg (by simpa using h1), if_neg (by simpa using h2), if_neg (by simpa using h3), Int.toNat_natCast, if_pos h4] at h; exact absurd h h4
      · rw [if_neg (by simpa using h1), if_neg (by simpa using h2), if_pos h3] at h; exact absurd h h3
    · rw [if_neg (by simpa using h1), if_pos h2] at h; exact absurd h h2
  · rw [if_pos h1] at h; exact absurd h h1
theorem putX_back {l s : List Sx} (h : (chkX l).2 = 0) (hs : (chkX s).2 = 0) {i : Nat} (hi : i < l.length) (hp : (chkX (putL l i s)).2 = 0) : putX (putL l i s) (i : Int) (subX l i) = (l, 0) := by
  have hlt : i < (putL l i s).length := by
    rcases putX_len (s := s) hi with h1 | h1
    · exact h1
    · rw [h1] at hs; cases hs
  unfold putX
  rw [if_neg (by simpa using hp), if_neg (by simpa using chkX_sub h hi), if_neg (by simpa using askX_in hp hlt), Int.toNat_natCast, putL_back h hs hi, if_neg (by simpa using h)]
theorem subR_in {l : List Sx} (h : (chkX l).2 = 0) {i : Nat} (hi : i < l.length) : subR l (i : Int) = (subX l i, 0) := by
  unfold subR; rw [if_neg (by simpa using askX_in h hi), Int.toNat_natCast]

/-- A list of parts: its root has what a node has beside. -/
def rootX (n : Nat) (x : Sx) : Sx := { k := 4, c := (n : Int), n := 0, s := [], p := x.p, f := x.f, t := x.t, o := x.o }
def listL10 (ts : List (List Sx)) (x : Sx) : List Sx := rootX ts.length x :: ts.flatten
def listX (ts : List (List Sx)) (x : Sx) : List Sx × Int :=
  if allX ts ≠ 0 then ([], allX ts) else if (chkX (listL10 ts x)).2 ≠ 0 then ([], (chkX (listL10 ts x)).2) else (listL10 ts x, 0)
theorem listX_long {ts : List (List Sx)} {x : Sx} (h : allX ts = 0) (hl : 2000 ≤ ts.flatten.length) : listX ts x = ([], 3) := by
  have h1 : (chkX (listL10 ts x)).2 = 3 := by
    unfold chkX listL10
    rw [if_neg (by simp), if_pos (by rw [List.length_cons]; omega)]
  unfold listX
  rw [if_neg (by simpa using h), if_pos (by rw [h1]; simp), h1]
theorem allX_0 {ts : List (List Sx)} (h : allX ts = 0) : ∀ t ∈ ts, (chkX t).2 = 0 := by
  induction ts with
  | nil => intro t ht; cases ht
  | cons y ts ih =>
    rw [allX] at h
    split at h
    · rename_i h1; exact absurd h h1
    · rename_i h1
      intro t ht
      rcases List.mem_cons.1 ht with e | e
      · rw [e]; exact Decidable.not_not.1 h1
      · exact ih h t e
theorem allX_all {ts : List (List Sx)} (h : ∀ t ∈ ts, (chkX t).2 = 0) : allX ts = 0 := by
  induction ts with
  | nil => rfl
  | cons y ts ih => rw [allX, if_neg (by simpa using h y (by simp))]; exact ih fun t ht => h t (by simp [ht])
/-- The subtrees of the first children. -/
def partsX (l : List Sx) (i m : Nat) : List (List Sx) := (List.range m).map fun k => subX l (posK (kidsX l) i k)
theorem partsX_succ (l : List Sx) (i m : Nat) : partsX l i (m + 1) = partsX l i m ++ [subX l (posK (kidsX l) i m)] := by
  unfold partsX; rw [List.range_succ, List.map_append]; rfl
theorem partsX_len (l : List Sx) (i m : Nat) : (partsX l i m).length = m := by unfold partsX; rw [List.length_map, List.length_range]
theorem partsX_flat {l : List Sx} (hT : Tr (kidsX l)) {i : Nat} (hi : i < l.length) : ∀ m, m ≤ cnt (kidsX l) i → (partsX l i m).flatten = (l.take (posK (kidsX l) i m)).drop (i + 1) := by
  have hil : i < (kidsX l).length := by rw [kidsX_len]; exact hi
  intro m
  induction m with
  | zero => intro _; rw [posK_start hil, List.drop_of_length_le (by rw [List.length_take]; omega)]; rfl
  | succ m ih =>
    intro hm
    obtain ⟨p1, p2, p3⟩ := hT.pos_step hil (k := m) (by omega)
    have p4 := hT.pos_next hil (k := m) (by omega)
    have p5 := (hT.end_bd p2).2
    rw [p3, kidsX_len] at p5
    rw [partsX_succ, List.flatten_append, ih (by omega), List.flatten_singleton]
    unfold subX
    rw [p3, segX_eq]
    obtain ⟨a, ha⟩ : ∃ a, posK (kidsX l) i m = a := ⟨_, rfl⟩
    obtain ⟨b, hb⟩ : ∃ b, posK (kidsX l) i (m + 1) = b := ⟨_, rfl⟩
    rw [ha] at p1 p4 ⊢
    rw [hb] at p4 p5 ⊢
    have h1 : l.take b = l.take a ++ (l.take b).drop a := by
      have := (List.take_append_drop a (l.take b)).symm
      rw [List.take_take, Nat.min_eq_left (Nat.le_of_lt p4)] at this; exact this
    conv => rhs; rw [h1]
    rw [List.drop_append_of_le_length (by rw [List.length_take]; omega)]
theorem kidsN_in {l : List Sx} (h : (chkX l).2 = 0) {i k : Nat} (hi : i < l.length) (hk : k < cnt (kidsX l) i) : posK (kidsX l) i k < l.length := by
  have := ((chkX_tr h).pos_step (i := i) (k := k) (by rw [kidsX_len]; exact hi) hk).2.1
  rwa [kidsX_len] at this
/-- The subtrees of the children of a list make up the list. -/
theorem list_own {l : List Sx} (h : (chkX l).2 = 0) {i : Nat} {x : Sx} (hx : l[i]? = some x) (h4 : x.k = 4) : listX (partsX l i (cnt (kidsX l) i)) x = (subX l i, 0) := by
  have hT := chkX_tr h
  obtain ⟨hi, hxe⟩ := List.getElem?_eq_some_iff.1 hx
  have hil : i < (kidsX l).length := by rw [kidsX_len]; exact hi
  obtain ⟨e1, e2⟩ := endX h hi
  have hk0 := chkX_kids h x (List.mem_of_getElem? hx)
  have hcnt : cnt (kidsX l) i = x.c.toNat := cnt_of (kidsX_at hx)
  have hok := ((chkX_ok h).2 x (List.mem_of_getElem? hx)).1
  unfold kindX at hok
  rw [if_neg (by omega), if_neg (by omega), if_pos h4] at hok
  simp only [Bool.and_eq_true, decide_eq_true_eq] at hok
  have hL : listL10 (partsX l i (cnt (kidsX l) i)) x = subX l i := by
    unfold listL10
    rw [partsX_flat hT hi _ (Nat.le_refl _), hT.pos_end hil, partsX_len, hcnt]
    unfold subX
    rw [segX_eq]
    obtain ⟨q, hq⟩ : ∃ q, endN (kidsX l) i = q := ⟨_, rfl⟩
    rw [hq] at e1 e2 ⊢
    have hgi : (l.take q)[i]? = some x := by rw [List.getElem?_take, if_pos e1, hx]
    obtain ⟨hil2, hxe2⟩ := List.getElem?_eq_some_iff.1 hgi
    rw [List.drop_eq_getElem_cons hil2, hxe2]
    congr 1
    obtain ⟨k, c, n, s, p, f, t, o⟩ := x
    simp only at hok h4 hk0
    obtain ⟨⟨_, rfl⟩, rfl⟩ := hok
    subst h4
    unfold rootX
    simp only
    rw [Int.toNat_of_nonneg hk0]
  have ha : allX (partsX l i (cnt (kidsX l) i)) = 0 := allX_all fun t ht => by
    unfold partsX at ht
    obtain ⟨k, hk, rfl⟩ := List.mem_map.1 ht
    exact chkX_sub h (kidsN_in h hi (List.mem_range.1 hk))
  have hs := chkX_sub h hi
  unfold listX
  rw [hL, if_neg (by simpa using ha), if_neg (by simpa using hs)]


theorem listX_bad {ts : List (List Sx)} {x : Sx} (h : allX ts ≠ 0) : listX ts x = ([], allX ts) := by unfold listX; rw [if_pos h]
theorem listX_in {ts : List (List Sx)} {x : Sx} (h : allX ts = 0) : listX ts x = if (chkX (listL10 ts x)).2 ≠ 0 then ([], (chkX (listL10 ts x)).2) else (listL10 ts x, 0) := by unfold listX; rw [if_neg (by simpa using h)]
theorem listL_small {ts : List (List Sx)} {x : Sx} (hs : ∀ t ∈ ts, SmX t ∧ InX t) (hx : x.p.length ≤ 100000) : SmX (listL10 ts x) := by
  intro y hy
  rcases List.mem_cons.1 hy with e | hy
  · rw [e]; exact ⟨Nat.zero_le _, hx⟩
  · obtain ⟨t, ht, hyt⟩ := List.mem_flatten.1 hy
    exact (hs t ht).1 y hyt
theorem listL_int {ts : List (List Sx)} {x : Sx} (hs : ∀ t ∈ ts, SmX t ∧ InX t) (hl : ts.length ≤ 3000) : InX (listL10 ts x) := by
  intro y hy
  rcases List.mem_cons.1 hy with e | hy
  · rw [e]; show ((ts.length : Nat) : Int) ≤ _; omega
  · obtain ⟨t, ht, hyt⟩ := List.mem_flatten.1 hy
    exact (hs t ht).2 y hyt
/-- The parts in memory, all of them with nodes. -/
theorem parts_at {w : World} {a : Option Addr} {n c : Nat} {ts : List (List Sx)} (h : LsAt w (.slice a n c) ts) (h0 : ∀ t ∈ ts, t ≠ []) : ∀ W, Below w.heap.size w W → ∀ (k : Nat) (t : List Sx), ts[k]? = some t → ∃ g off, a = some ⟨g, off, none⟩ ∧ ∃ gt ot ct, W.cell? ⟨g, off + k, none⟩ = some (.slice (some ⟨gt, ot, none⟩) t.length ct) ∧ XsAt W (.slice (some ⟨gt, ot, none⟩) t.length ct) t ∧ ∀ (j : Nat) (u : Value), (xcs t)[j]? = some u → W.cell? ((⟨gt, ot, none⟩ : Addr).add j) = some u := by
  intro W hW k t ht
  obtain ⟨a', n', c', e, _, hA⟩ := h
  cases e
  rcases hA with rfl | ⟨g, off, rfl, hg, hc⟩
  · cases ht
  · obtain ⟨vt, d0, hN⟩ := hc k t ht
    obtain ⟨at', nt, ct, rfl, hnt, hcc, hx⟩ := hN
    subst hnt
    rcases hx with hx0 | ⟨gt, ot, rfl, hgt, hct⟩
    · exact absurd hx0 (h0 t (List.mem_of_getElem? ht))
    · refine ⟨g, off, rfl, gt, ot, ct, (hW.cell (p := ⟨g, off + k, none⟩) hg).trans d0, ⟨_, _, _, rfl, rfl, hcc, .inr ⟨gt, ot, rfl, Nat.lt_of_lt_of_le hgt hW.size, fun j u hj => (hW.cell (p := ⟨gt, ot + j, none⟩) hgt).trans (hct j u hj)⟩⟩, fun j u hj => ?_⟩
      rw [Go.WideShapes.add_plain]; exact (hW.cell (p := ⟨gt, ot + j, none⟩) hgt).trans (hct j u hj)
set_option maxRecDepth 50000 in
set_option maxHeartbeats 1600000 in
theorem Listx_bad (v : Value) (ts : List (List Sx)) (x : Sx) (w : World) (h : LsAt w v ts) (hs : ∀ t ∈ ts, SmX t ∧ InX t) (T : STabs w) (hl : ts.length ≤ 3000) (hz : allX ts ≠ 0) :
    Calls Tryz.prog 24 #[v, sxA x] w (ChgV (listX ts x) w) := by
  have C := Lib.hid (checkAll_any v ts _ (h.below (below_b1 w (.cells (sxC x).toArray 28))) hs (T.below (below_b1 w _)) (by omega))
  have HW := Lib.hid (listX_bad (x := x) hz)
  obtain ⟨a, n, c, rfl, -⟩ := h
  obtain ⟨e, he⟩ : ∃ e, allX ts = e := ⟨_, rfl⟩
  rw [he] at HW C hz
  have hne : (e != 0) = true := bne_iff_ne.2 hz
  unfold sxA
  unfold sxC at C ⊢
  obtain ⟨k0, c0, n0, s0, p0, f0, t0, o0⟩ := x
  simp only at C ⊢
  obtain ⟨P, hP⟩ : ∃ P, str p0 = P := ⟨_, rfl⟩
  obtain ⟨S, hS⟩ : ∃ P, str s0 = P := ⟨_, rfl⟩
  rw [hP, hS] at C
  rw [hP, hS]
  have hb0 := below_b1 w (.cells #[.int .i64 k0, .int .i64 c0, .int .i64 n0, .string S, .string P, .int .i64 f0, .int .i64 t0, .int .i64 o0] 28)
  clear hs T hz hl he hP hS
  go_enter Tryz.func24, Tryz.ntmps24
  go_wp2_with fail
  refine C.out.mono ?_
  rintro e' w2 ⟨rfl, hb2⟩
  go_wp2_with fail
  go_ret2
  exact chgV_err HW.out (below_step hb0 hb2)
set_option maxRecDepth 50000 in
set_option maxHeartbeats 3200000 in
theorem Listx_in (v : Value) (ts : List (List Sx)) (x : Sx) (w : World) (h : LsAt w v ts) (hs : ∀ t ∈ ts, SmX t ∧ InX t) (hx : x.p.length ≤ 100000) (T : STabs w) (hl : ts.length ≤ 3000) (hz : allX ts = 0) :
    Calls Tryz.prog 24 #[v, sxA x] w (ChgV (listX ts x) w) := by
  have C := Lib.hid (checkAll_any v ts _ (h.below (below_b1 w (.cells (sxC x).toArray 28))) hs (T.below (below_b1 w _)) (by omega))
  rw [hz] at C
  have HLong := Lib.hid (fun hlen => listX_long (x := x) hz hlen)
  have HIn := Lib.hid (listX_in (x := x) hz)
  have H0 := allX_0 hz
  have HSz : Hid (∀ t ∈ ts, t.length ≤ 2000) := Lib.hid fun t ht => (chkX_tree (H0 t ht)).2.2
  obtain ⟨a, n, c, rfl, hn, -⟩ := id h
  have HA := Lib.hid (parts_at h (fun t ht => (chkX_tree (H0 t ht)).2.1))
  have CM := Lib.hid (fun v' W (hW : Below w.heap.size w W) (hx' : XsAt W v' (listL10 ts x)) => made_any v' (listL10 ts x) W hx' (listL_small hs hx) (listL_int hs hl) (T.below hW))
  have HN := Lib.hid hn
  have HFl := Lib.hid (fun k => flat_le ts k)
  have HRt : Hid (∀ k, xcs (rootX n x :: (ts.take k).flatten) = [.int .i64 4, .int .i64 (n : Int), .int .i64 0, .string ⟨#[]⟩, .string (str x.p), .int .i64 x.f, .int .i64 x.t, .int .i64 x.o] ++ xcs (ts.take k).flatten) := Lib.hid fun k => rfl
  have HL0 : Hid (listL10 ts x = rootX n x :: ts.flatten) := Lib.hid (by unfold listL10; rw [hn])
  have hnl : n ≤ 3000 := by omega
  obtain ⟨i0, hi, hz0, hz1, hz2⟩ := info_parts2 zeroSxI
  unfold sxA
  unfold sxC at C ⊢
  obtain ⟨k0, c0, n0, s0, p0, f0, t0, o0⟩ := x
  simp only at C HRt ⊢
  obtain ⟨P, hP⟩ : ∃ P, str p0 = P := ⟨_, rfl⟩
  obtain ⟨S, hS⟩ : ∃ P, str s0 = P := ⟨_, rfl⟩
  rw [hP] at C HRt ⊢
  rw [hS] at C ⊢
  have hbx := World.alloc_heap_new w (.cells #[.int .i64 k0, .int .i64 c0, .int .i64 n0, .string S, .string P, .int .i64 f0, .int .i64 t0, .int .i64 o0] 28)
  have HBx := Lib.hid hbx
  clear h hs hx T hl hz H0 hn hP hS hbx
  go_enter Tryz.func24, Tryz.ntmps24
  go_wp2_with fail
  refine C.out.mono ?_
  rintro e' w2 ⟨rfl, hb2⟩
  have hB2 := below_step (below_b1 w _) hb2
  obtain ⟨_, _, _, _, d4, d5, d6, d7⟩ := box8_facts ((hb2.block w.heap.size (by rw [World.size_alloc]; omega)).trans HBx.out)
  have hs2 := hb2.size
  rw [World.size_alloc] at hs2
  clear hb2
  go_upto_region 6 with (fail)
  have hO0 := World.ownsRow_lit (base := w.heap.size) (e := 28) (size := 8) (w2.alloc (.cells #[.int .i64 4, .int .i64 (n : Int), .int .i64 0, .string ⟨#[]⟩, .string P, .int .i64 f0, .int .i64 t0, .int .i64 o0] 28)) #[.int .i64 4, .int .i64 (n : Int), .int .i64 0, .string ⟨#[]⟩, .string P, .int .i64 f0, .int .i64 t0, .int .i64 o0] 1 (by rw [World.size_alloc]; omega) (by decide) rfl
  rw [World.size_alloc] at hO0
  have hb3 := (hB2.alloc hB2.size (.cells #[.int .i64 4, .int .i64 (n : Int), .int .i64 0, .string ⟨#[]⟩, .string P, .int .i64 f0, .int .i64 t0, .int .i64 o0] 28)).alloc (by rw [World.size_alloc]; omega) (.cells #[.int .i64 4, .int .i64 (n : Int), .int .i64 0, .string ⟨#[]⟩, .string P, .int .i64 f0, .int .i64 t0, .int .i64 o0] 28)
  have HO0 := Lib.hid hO0
  clear hO0 d4 d5 d6 d7 hs2
  obtain ⟨w3, hw3⟩ : ∃ w3, w3 = (w2.alloc (.cells #[.int .i64 4, .int .i64 (n : Int), .int .i64 0, .string ⟨#[]⟩, .string P, .int .i64 f0, .int .i64 t0, .int .i64 o0] 28)).alloc (.cells #[.int .i64 4, .int .i64 (n : Int), .int .i64 0, .string ⟨#[]⟩, .string P, .int .i64 f0, .int .i64 t0, .int .i64 o0] 28) := ⟨_, rfl⟩
  rw [← hw3] at HO0 hb3 ⊢
  clear hw3
  go_wp2_with fail
  go_loopw [8, 29] (fun x8 x29 wr => ∃ (j p : Nat) (b : Option Addr) (cb : Nat), x29 = .int .i64 (j : Int) ∧ j ≤ n ∧ x8 = .slice b p cb ∧ p ≤ 2000 ∧ Hid (1 + (ts.take j).flatten.length = p) ∧ Hid (wr.ownsRow w.heap.size 28 8 (.slice b p cb) p (xcs (rootX n ⟨k0, c0, n0, s0, p0, f0, t0, o0⟩ :: (ts.take j).flatten))) ∧ Below w.heap.size w wr) (fun _ x29 _ => n - (intOf x29).toNat)
  case atStart => exact ⟨0, 1, _, _, rfl, Nat.zero_le _, rfl, by omega, Lib.hid (by simp), Lib.hid (by rw [HRt.out]; exact HO0.out), hb3⟩
  case round =>
    obtain ⟨j, p, b, cb, rfl, hj, rfl, hp2, HP, HO, hbr⟩ := hrel
    have hj0 : (0 : Int) ≤ (j : Int) := Int.natCast_nonneg _
    by_cases hlt : j < n
    · obtain ⟨t, ht⟩ : ∃ t, ts[j]? = some t := ⟨_, List.getElem?_eq_getElem (by rw [← HN.out]; exact hlt)⟩
      obtain ⟨g, off, rfl, gt, ot, ct, d1, _, hct⟩ := HA.out wr hbr j t ht
      have HCT := Lib.hid hct
      have HFt := Lib.hid (take_flat ht)
      have hsz := HSz.out t (List.mem_of_getElem? ht)
      have hfle := HFl.out (j + 1)
      obtain ⟨tl, htl⟩ : ∃ tl, t.length = tl := ⟨_, rfl⟩
      have HTL := Lib.hid htl
      rw [htl] at d1 hsz
      have HPt : Hid (1 + (ts.take (j + 1)).flatten.length = p + tl) := Lib.hid (by have := HP.out; rw [HFt.out, List.length_append, HTL.out]; omega)
      have hj1 : (j : Int) < (n : Int) := by omega
      have HFle := Lib.hid hfle
      clear ht hct htl hfle
      go_wp2_with (at_builtin; refine wpList_append_own _ rfl _ _ 22 rfl w.heap.size 28 i0 zeroNx 8 80 Tryz.underlying22 hi hz0 hz1 hz2 rfl (by decide) _ _ _ rfl HO.out ⟨gt, ot, none⟩ tl ct (xcs t) rfl (by rw [xcs_len, HTL.out]) HCT.out (one_xcs t) (by unfold maxLen; omega) (by omega) hbr.size ?_; intro v' w4 hown4 hgrow4 _; obtain ⟨b4, cb4, rfl⟩ := own_lenR hown4; have hb4 : Below w.heap.size w w4 := hbr.grown hgrow4 hbr.size (fun i hi => (HO.out.lt i hi).1); have HO4 : Hid (w4.ownsRow w.heap.size 28 8 (.slice b4 (p + tl) cb4) (p + tl) (xcs (rootX n ⟨k0, c0, n0, s0, p0, f0, t0, o0⟩ :: (ts.take (j + 1)).flatten))) := Lib.hid (by rw [HFt.out, ← List.cons_append, xcs_app]; exact hown4); clear hown4 hgrow4; by_cases hlong : 2000 < p + tl)
      · have dl : decide ((2000 : Int) < ((p + tl : Nat) : Int)) = true := decide_eq_true (by omega)
        have HW := Lib.hid (HLong.out (by have := HPt.out; have := HFle.out; omega))
        go_wp2_with fail
        go_ret2
        exact chgV_err HW.out hb4
      · have dl : decide ((2000 : Int) < ((p + tl : Nat) : Int)) = false := decide_eq_false (by omega)
        go_wp2_with fail
        go_roundw
        case rel => exact ⟨j + 1, p + tl, b4, cb4, by go_num, by omega, rfl, by omega, HPt, HO4, hb4⟩
        case measure => simp [intOf]; omega
    · obtain rfl : j = n := by omega
      have hfl : ts.take j = ts := List.take_of_length_le (Nat.le_of_eq HN.out.symm)
      have HO5 : Hid (wr.ownsRow w.heap.size 28 8 (.slice b p cb) p (xcs (listL10 ts ⟨k0, c0, n0, s0, p0, f0, t0, o0⟩))) := Lib.hid (by have := HO.out; rw [hfl, ← HL0.out] at this; exact this)
      have HLp : Hid ((listL10 ts ⟨k0, c0, n0, s0, p0, f0, t0, o0⟩).length = p) := Lib.hid (by have := HP.out; rw [hfl] at this; rw [HL0.out, List.length_cons]; omega)
      have hm5 := Lib.hid (CM.out _ wr hbr (xs_own HO5.out HLp.out))
      clear hfl HO
      obtain ⟨z, hz⟩ : ∃ z, (chkX (listL10 ts ⟨k0, c0, n0, s0, p0, f0, t0, o0⟩)).2 = z := ⟨_, rfl⟩
      rw [hz] at hm5 HIn
      clear hz
      by_cases hz : z = 0
      · subst hz
        have HW := Lib.hid (HIn.out.trans (if_neg (by simp)))
        rw [if_neg (by simp)] at hm5
        go_wp2_with fail
        refine hm5.out.mono ?_
        rintro e' w6 ⟨rfl, hb6⟩
        go_wp2_with fail
        go_ret2
        refine ⟨b, cb, by rw [HW.out]; simp only [HLp.out]; rfl, Lib.hid ?_, below_step hbr hb6⟩
        rw [HW.out]; simp only [HLp.out]
        exact own_below HO5.out hb6
      · have HW := Lib.hid (HIn.out.trans (if_pos hz))
        rw [if_pos hz] at hm5
        go_wp2_with fail
        refine hm5.out.mono ?_
        rintro e' w6 ⟨rfl, hb6⟩
        go_wp2_with fail
        go_ret2
        exact chgV_err HW.out (below_step hbr hb6)
theorem Listx_any (v : Value) (ts : List (List Sx)) (x : Sx) (w : World) (h : LsAt w v ts) (hs : ∀ t ∈ ts, SmX t ∧ InX t) (hx : x.p.length ≤ 100000) (T : STabs w) (hl : ts.length ≤ 3000) :
    Calls Tryz.prog 24 #[v, sxA x] w (ChgV (listX ts x) w) := by
  by_cases hz : allX ts = 0
  · exact Listx_in v ts x w h hs hx T hl hz
  · exact Listx_bad v ts x w h hs T hl hz


theorem infoSlX : (Tryz.prog.info? 22).map (fun i => (i.zero, i.size, i.bytes)) = some (some (.slice none 0 0), 1, 24) := by kernel_rfl
/-- Parts, none of which lies in the block of their list. -/
def PartsX (W : World) (b : Option Addr) (vals : List Value) (ts : List (List Sx)) : Prop :=
  vals.length = ts.length ∧ ∀ (k : Nat) (t' : List Sx), ts[k]? = some t' → ∃ g off c, vals[k]? = some (.slice (some ⟨g, off, none⟩) t'.length c) ∧ t'.length ≤ c ∧ g < W.heap.size ∧ (∀ p, b = some p → g ≠ p.block) ∧ ∀ (j : Nat) (u : Value), (xcs t')[j]? = some u → W.cell? ⟨g, off + j, none⟩ = some u
theorem PartsX.below {W W' : World} {b : Option Addr} {vals : List Value} {ts : List (List Sx)} (h : PartsX W b vals ts) (hb : Below W.heap.size W W') : PartsX W' b vals ts := by
  refine ⟨h.1, fun k t' hk => ?_⟩
  obtain ⟨g, off, c, h1, h0, h2, h3, h4⟩ := h.2 k t' hk
  exact ⟨g, off, c, h1, h0, Nat.lt_of_lt_of_le h2 hb.size, h3, fun j u hj => (hb.cell (p := ⟨g, off + j, none⟩) h2).trans (h4 j u hj)⟩
theorem PartsX.snoc {W W1 : World} {b : Option Addr} {m cb g1 g off c : Nat} {vals : List Value} {ts : List (List Sx)} {t' : List Sx} (h : PartsX W b vals ts) (hgr : W.grownBy W1 (Value.slice b m cb).ownBlock) (hat : (Value.slice b m cb).ownBlock = some g1 ∨ g1 = W.heap.size)
    (hg : g < W.heap.size) (hne : ∀ p, b = some p → g ≠ p.block) (hcc : t'.length ≤ c) (hc : ∀ (j : Nat) (u : Value), (xcs t')[j]? = some u → W.cell? ⟨g, off + j, none⟩ = some u) :
    PartsX W1 (some ⟨g1, 0, none⟩) (vals ++ [.slice (some ⟨g, off, none⟩) t'.length c]) (ts ++ [t']) := by
  have hkey : ∀ g', g' < W.heap.size → (∀ p, b = some p → g' ≠ p.block) → g' ≠ g1 ∧ ∀ o, W1.cell? ⟨g', o, none⟩ = W.cell? ⟨g', o, none⟩ := fun g' hlt hn => by
    refine ⟨?_, fun o => hgr.cell_far ⟨g', o, none⟩ hlt ?_⟩
    · rintro rfl
      rcases hat with e | e
      · cases b with
        | none => cases e
        | some p => exact hn p rfl (Option.some.inj e).symm
      · omega
    · cases b with
      | none => intro e; cases e
      | some p => intro e; exact hn p rfl (Option.some.inj e)
  refine ⟨by rw [List.length_append, List.length_append, h.1]; rfl, fun k s hk => ?_⟩
  rcases Nat.lt_or_ge k ts.length with hlt | hge
  · rw [List.getElem?_append_left hlt] at hk
    obtain ⟨g', off', c', h1, h0, h2, h3, h4⟩ := h.2 k s hk
    obtain ⟨k1, k2⟩ := hkey g' h2 h3
    exact ⟨g', off', c', by rw [List.getElem?_append_left (by rw [h.1]; exact hlt)]; exact h1, h0, Nat.lt_of_lt_of_le h2 hgr.size, fun p hp => by cases hp; exact k1, fun j u hj => (k2 _).trans (h4 j u hj)⟩
  · rw [List.getElem?_append_right hge] at hk
    have hk0 : k - ts.length = 0 := by
      have := (List.getElem?_eq_some_iff.1 hk).1
      simp at this; omega
    rw [hk0] at hk
    obtain rfl : t' = s := by simpa using hk
    obtain ⟨k1, k2⟩ := hkey g hg hne
    exact ⟨g, off, c, by rw [List.getElem?_append_right (by rw [h.1]; exact hge), h.1, hk0]; rfl, hcc, Nat.lt_of_lt_of_le hg hgr.size, fun p hp => by cases hp; exact k1, fun j u hj => (k2 _).trans (hc j u hj)⟩
theorem PartsX.rows {W : World} {b : Option Addr} {m cb B : Nat} {e : TypeId} {vals : List Value} {ts : List (List Sx)} (h : PartsX W b vals ts) (ho : W.ownsRow B e 1 (.slice b m cb) m vals) (hm : ts.length = m) : LsAt W (.slice b m cb) ts := by
  refine ⟨b, m, cb, rfl, hm.symm, ?_⟩
  rcases own_formR ho with ⟨_, h0⟩ | ⟨g, c, hv, _, hg⟩
  · exact .inl (List.length_eq_zero_iff.1 (by omega))
  · cases hv
    refine .inr ⟨g, 0, rfl, hg, fun j s hj => ?_⟩
    obtain ⟨g', off, c', h1, h0, h2, _, h4⟩ := h.2 j s hj
    exact ⟨_, by rw [Nat.zero_add]; exact own_cell ho h1, _, _, _, rfl, rfl, h0, .inr ⟨g', off, rfl, h2, h4⟩⟩
/-- Sub of a node that there is. -/
theorem Sub_p {w : World} {v : Value} {l : List Sx} {p : Nat} (h : XsAt w v l) (hs : SmX l) (hi : InX l) (T : STabs w) (hc : (chkX l).2 = 0) (hp : p < l.length) :
    Calls Tryz.prog 19 #[v, .int .i64 (p : Int)] w fun e w' => ∃ g c, e = .returned (.tuple #[.slice (some ⟨g, 0, none⟩) (subX l p).length c, .int .i64 0]) ∧ Hid (w.heap.size ≤ g ∧ g < w'.heap.size ∧ XsAt w' (.slice (some ⟨g, 0, none⟩) (subX l p).length c) (subX l p)) ∧ Below w.heap.size w w' := by
  refine (Sub_any v l (p : Int) w h hs hi T).mono ?_
  intro e w' hv
  rw [subR_in hc hp] at hv
  obtain ⟨a, c, rfl, ho, hb⟩ := hv
  rcases own_formR ho.out with ⟨_, h0⟩ | ⟨g, c', e1, h1, h2⟩
  · exact absurd (List.length_eq_zero_iff.1 h0) (subX_ne hc hp)
  · cases e1
    exact ⟨g, c, rfl, Lib.hid ⟨h1, h2, xs_own ho.out rfl⟩, hb⟩
theorem Kids_p {w : World} {v : Value} {l : List Sx} {p : Nat} (h : XsAt w v l) (hs : SmX l) (hi : InX l) (T : STabs w) (hc : (chkX l).2 = 0) (hp : p < l.length) :
    Calls Tryz.prog 16 #[v, .int .i64 (p : Int)] w fun e w' => ∃ a c, e = .returned (.tuple #[.slice a (cnt (kidsX l) p) c, .int .i64 0]) ∧ Hid (∀ j, j < cnt (kidsX l) p → ∃ g o, a = some ⟨g, o, none⟩ ∧ g < w'.heap.size ∧ w'.cell? ⟨g, o + j, none⟩ = some (.int .i64 (posK (kidsX l) p j : Int))) ∧ Below w.heap.size w w' := by
  refine (Kids_any v l (p : Int) w h hs hi T).mono ?_
  intro e w' hv
  have hk : kidR l (p : Int) = (kidsN (kidsX l) p, 0) := by unfold kidR; rw [if_neg (by simpa using askX_in hc hp), Int.toNat_natCast]
  rw [hk] at hv
  obtain ⟨a, c, rfl, ho, hb⟩ := hv
  have hl := kidsN_len (kidsX l) p
  simp only at ho ⊢
  rw [hl] at ho
  refine ⟨a, c, by rw [hl], Lib.hid fun j hj => ?_, hb⟩
  rcases own_formR ho.out with ⟨_, h0⟩ | ⟨g, c', e1, h1, h2⟩
  · omega
  · cases e1
    exact ⟨g, 0, rfl, h2, by rw [Nat.zero_add]; exact own_cell ho.out (by unfold natC; rw [List.getElem?_map, kidsN_at hj]; rfl)⟩
theorem SmX.sub {l : List Sx} (h : SmX l) (i : Nat) : SmX (subX l i) := fun x hx => h x (List.mem_of_mem_drop (List.mem_of_mem_take hx))
theorem InX.sub {l : List Sx} (h : InX l) (i : Nat) : InX (subX l i) := fun x hx => h x (List.mem_of_mem_drop (List.mem_of_mem_take hx))
structure GivesPu (n m k K np : Nat) (av bv : Option Addr) (cv cs : Nat) (l s own P : List Sx) (ep : Int) (i : Nat) (x : Sx) (kid : Nat → Nat) (part : Nat → List Sx) (w : World) : Prop where
  cl : ∀ W, Below w.heap.size w W → Calls Tryz.prog 12 #[.slice av n cv] W fun e w' => e = .returned (.tuple #[.int .i64 0, .int .i64 0]) ∧ Below W.heap.size W w'
  c2 : ∀ W, Below w.heap.size w W → Calls Tryz.prog 12 #[.slice bv m cs] W fun e w' => e = .returned (.tuple #[.int .i64 0, .int .i64 0]) ∧ Below W.heap.size W w'
  sub : ∀ W, Below w.heap.size w W → Calls Tryz.prog 19 #[.slice av n cv, .int .i64 (i : Int)] W (ChgR own k 0 W)
  po : ∀ W vo, Below w.heap.size w W → XsAt W vo own → Calls Tryz.prog 21 #[.slice av n cv, .int .i64 (i : Int), vo] W (ChgR l n 0 W)
  ps : ∀ W, Below w.heap.size w W → Calls Tryz.prog 21 #[.slice av n cv, .int .i64 (i : Int), .slice bv m cs] W (ChgR P np ep W)
  sp : ep = 0 → ∀ W vp, Below w.heap.size w W → XsAt W vp P → Calls Tryz.prog 19 #[vp, .int .i64 (i : Int)] W (ChgR s m 0 W)
  pb : ep = 0 → ∀ W vp vo, Below w.heap.size w W → XsAt W vp P → XsAt W vo own → Calls Tryz.prog 21 #[vp, .int .i64 (i : Int), vo] W (ChgR l n 0 W)
  kd : ∀ W, Below w.heap.size w W → Calls Tryz.prog 16 #[.slice av n cv, .int .i64 (i : Int)] W fun e w' => ∃ a c, e = .returned (.tuple #[.slice a K c, .int .i64 0]) ∧ Hid (∀ j, j < K → ∃ g o, a = some ⟨g, o, none⟩ ∧ g < w'.heap.size ∧ w'.cell? ⟨g, o + j, none⟩ = some (.int .i64 (kid j : Int))) ∧ Below W.heap.size W w'
  sk : ∀ W j, Below w.heap.size w W → j < K → Calls Tryz.prog 19 #[.slice av n cv, .int .i64 (kid j : Int)] W fun e w' => ∃ g c, e = .returned (.tuple #[.slice (some ⟨g, 0, none⟩) (part j).length c, .int .i64 0]) ∧ Hid (W.heap.size ≤ g ∧ g < w'.heap.size ∧ XsAt w' (.slice (some ⟨g, 0, none⟩) (part j).length c) (part j)) ∧ Below W.heap.size W w'
  li : x.k = 4 → ∀ W vv, Below w.heap.size w W → LsAt W vv ((List.range K).map part) → Calls Tryz.prog 24 #[vv, .agg #[.int .i64 x.k, .int .i64 x.c, .int .i64 x.n, .string (str x.s), .string (str x.p), .int .i64 x.f, .int .i64 x.t, .int .i64 x.o]] W (ChgR own k 0 W)
  kn : K ≤ 2010 ∧ n ≤ 2010 ∧ m ≤ 2010 ∧ k ≤ 2010
theorem chk_ok2 {v : Value} {l : List Sx} {w : World} (h : XsAt w v l) (hs : SmX l) (hi : InX l) (T : STabs w) (hc : (chkX l).2 = 0) : Calls Tryz.prog 12 #[v] w fun e w' => e = .returned (.tuple #[.int .i64 0, .int .i64 0]) ∧ Below w.heap.size w w' := by
  have := Check_x v l w h hs hi T
  unfold chkXV at this
  rw [(chkX_ok hc).1] at this; exact this
set_option maxRecDepth 50000 in
theorem givesPu {n m : Nat} {av bv : Option Addr} {cv cs : Nat} {l s : List Sx} {i : Nat} {x : Sx} {w : World} (h : XsAt w (.slice av n cv) l) (h2 : XsAt w (.slice bv m cs) s) (hs : SmX l) (hi : InX l) (hs2 : SmX s) (hi2 : InX s) (T : STabs w) (hc : (chkX l).2 = 0) (hcs : (chkX s).2 = 0) (hx : l[i]? = some x) (hn : l.length = n) (hm : s.length = m) :
    GivesPu n m (subX l i).length (cnt (kidsX l) i) (putX l (i : Int) s).1.length av bv cv cs l s (subX l i) (putX l (i : Int) s).1 (putX l (i : Int) s).2 i x (posK (kidsX l) i) (fun j => subX l (posK (kidsX l) i j)) w := by
  have hil := (List.getElem?_eq_some_iff.1 hx).1
  have hT := chkX_tr hc
  have hilk : i < (kidsX l).length := by rw [kidsX_len]; exact hil
  have hl2 := (chkX_tree hc).2.2
  have hs22 := (chkX_tree hcs).2.2
  have hoc := chkX_sub hc hil
  have hol := (chkX_tree hoc).2.2
  have hK : cnt (kidsX l) i ≤ 2000 := by
    have := hT.pos_mono hilk (d := cnt (kidsX l) i) (k := 0) (by omega)
    rw [Nat.zero_add, hT.pos_end hilk] at this
    have := (endX hc hil).2
    omega
  have hxm := List.mem_of_getElem? hx
  refine ⟨?_, ?_, ?_, ?_, ?_, ?_, ?_, ?_, ?_, ?_, ?_⟩
  · exact fun W hW => chk_ok2 (h.below hW (Nat.le_refl _)) hs hi (T.below hW) hc
  · exact fun W hW => chk_ok2 (h2.below hW (Nat.le_refl _)) hs2 hi2 (T.below hW) hcs
  · exact fun W hW => (Sub_any _ l (i : Int) W (h.below hW (Nat.le_refl _)) hs hi (T.below hW)).mono fun e W' hv => chgR_of (subR_in hc hil) rfl hv
  · exact fun W vo hW ho => (Put_any _ vo l (subX l i) (i : Int) W (h.below hW (Nat.le_refl _)) ho hs hi (hs.sub i) (hi.sub i) (T.below hW) (by omega)).mono fun e W' hv => chgR_of (putX_own hc hil) hn hv
  · exact fun W hW => (Put_any _ _ l s (i : Int) W (h.below hW (Nat.le_refl _)) (h2.below hW (Nat.le_refl _)) hs hi hs2 hi2 (T.below hW) (by omega)).mono fun e W' hv => chgR_of rfl rfl hv
  · intro hep W vp hW hp
    obtain ⟨e1, e2⟩ := putX_ok hep
    rw [e1] at hp
    have hlt : i < (putL l i s).length := by
      rcases putX_len (s := s) hil with h1 | h1
      · exact h1
      · rw [h1] at hcs; cases hcs
    exact (Sub_any vp (putL l i s) (i : Int) W hp (put_small hs hs2) (put_int hi hi2) (T.below hW)).mono fun e W' hv => chgR_of (by rw [subR_in e2 hlt, putL_sub hc hcs hil]) hm hv
  · intro hep W vp vo hW hp ho
    obtain ⟨e1, e2⟩ := putX_ok hep
    rw [e1] at hp
    exact (Put_any vp vo (putL l i s) (subX l i) (i : Int) W hp ho (put_small hs hs2) (put_int hi hi2) (hs.sub i) (hi.sub i) (T.below hW) (by omega)).mono fun e W' hv => chgR_of (putX_back hc hcs hil e2) hn hv
  · exact fun W hW => Kids_p (h.below hW (Nat.le_refl _)) hs hi (T.below hW) hc hil
  · exact fun W j hW hj => Sub_p (h.below hW (Nat.le_refl _)) hs hi (T.below hW) hc (kidsN_in hc hil hj)
  · intro h4 W vv hW hl'
    refine (Listx_any vv _ x W hl' ?_ (hs x hxm).2 (T.below hW) (by rw [List.length_map, List.length_range]; omega)).mono fun e W' hv => chgR_of (list_own hc hx h4) rfl hv
    intro t ht
    obtain ⟨j, hj, rfl⟩ := List.mem_map.1 ht
    exact ⟨hs.sub _, hi.sub _⟩
  · omega


set_option maxRecDepth 50000 in
set_option maxHeartbeats 1600000 in
theorem rEnd10_any (v : Value) (i : Nat) (l : List Sx) (w : World) (h : XsAt w v l) (hv : (chkX l).2 = 0) (hi : i < l.length) :
    Calls Tryz.prog 53 #[v, .int .i64 (i : Int)] w fun e w' => e = .returned (.int .i64 (endN (kidsX l) i : Int)) ∧ w' = w := by
  obtain ⟨a, n, c, rfl, hn, hcap, _⟩ := id h
  have hl2 := (chkX_tree hv).2.2
  obtain ⟨r, hr⟩ := (chkX_tr hv).each (p := i) (by rw [kidsX_len]; omega)
  have he := endN_of (by rw [kidsX_len]; omega) hr
  obtain ⟨E, hE⟩ : ∃ E, endN (kidsX l) i = E := ⟨_, rfl⟩
  rw [hE] at he ⊢
  obtain ⟨he1, he2, he3⟩ := he
  rw [kidsX_len, ← hn] at he2
  have HR := Lib.hid hr
  have HRE : Hid (∀ e : Nat, e ≤ n → (kidsX l).drop e = r → e = E) := Lib.hid fun e h1 h2 => by
    have h3 := congrArg List.length h2
    have h4 := congrArg List.length he3
    rw [List.length_drop, kidsX_len] at h3 h4; omega
  have HX := Lib.hid h
  have HN := Lib.hid hn
  have HK := Lib.hid (chkX_kids hv)
  have hnb : n ≤ 2000 := by omega
  have hin : i < n := by omega
  clear h hv hn he3 hr hE hi
  go_enter Tryz.func53, Tryz.ntmps53
  go_wp2_with fail
  go_loop [1, 5] (fun x1 x5 => ∃ e m : Nat, x1 = .int .i64 (e : Int) ∧ x5 = .int .i64 (m : Int) ∧ e ≤ n ∧ m ≤ 2000 ∧ Hid (eat ((kidsX l).drop e) m = some r)) (fun x1 _ => n - (intOf x1).toNat)
  case atStart => exact ⟨i, 1, rfl, rfl, by omega, by omega, HR⟩
  case round =>
    obtain ⟨e, m, rfl, rfl, hen, hm, HE⟩ := hrel
    have he0 : (0 : Int) ≤ (e : Int) := Int.natCast_nonneg _
    cases m with
    | zero =>
      have hr2 : (kidsX l).drop e = r := by have := HE.out; rw [eat_zero] at this; exact Option.some.inj this
      obtain rfl := HRE.out e hen hr2
      clear hr2
      go_wp2_with fail
      go_ret
      exact ⟨rfl, rfl⟩
    | succ m =>
      have hlt : e < n := by
        have := eat_len HE.out
        rw [List.length_drop, kidsX_len, ← HN.out] at this; omega
      obtain ⟨x, hx⟩ : ∃ x, l[e]? = some x := ⟨_, List.getElem?_eq_getElem (by rw [← HN.out]; exact hlt)⟩
      obtain ⟨g, off, rfl, _, _, c1, _⟩ := HX.out.node hx
      have hx0 := HK.out x (List.mem_of_getElem? hx)
      obtain ⟨q, hq⟩ : ∃ q : Nat, x.c = (q : Int) := ⟨x.c.toNat, by omega⟩
      have hE2 := eat_at hx HE.out
      rw [hq, Int.toNat_natCast] at hE2
      have hlen := eat_len hE2
      rw [List.length_drop, kidsX_len, ← HN.out] at hlen
      rw [hq] at c1
      have HE2 := Lib.hid hE2
      have hlt' : (e : Int) < (n : Int) := by omega
      clear hE2 hq hx hx0
      go_wp2_with fail
      go_round
      case rel => exact ⟨e + 1, m + q, by go_num, by go_num, by omega, by omega, by rw [Nat.add_comm m q]; exact HE2⟩
      case measure => simp [intOf]; omega
set_option maxRecDepth 50000 in
theorem rasked_any (v : Value) (l : List Sx) (i : Int) (w : World) (h : XsAt w v l) (hs : SmX l) (hi : InX l) :
    Calls Tryz.prog 52 #[v, .int .i64 i] w fun e w' => e = .returned (.int .i64 (askX l i)) ∧ Below w.heap.size w w' := by
  have C := Lib.hid (rCheck10_any v l w h hs hi)
  obtain ⟨a, c, rfl, _⟩ := h.slice
  obtain ⟨n, hn⟩ : ∃ n, l.length = n := ⟨_, rfl⟩
  obtain ⟨⟨z1, z2⟩, hz⟩ : ∃ z, chkX l = z := ⟨_, rfl⟩
  have HV : Hid (askX l i = if z2 ≠ 0 then z2 else if i < 0 ∨ (n : Int) ≤ i then 4 else 0) := Lib.hid (by unfold askX; rw [hz, hn])
  rw [hz] at C
  simp only at C
  rw [hn] at C ⊢
  clear h hs hi hn hz
  by_cases h0 : z2 = 0
  · subst h0
    by_cases h1 : i < 0
    · have HW := Lib.hid (HV.out.trans (by rw [if_neg (by simp), if_pos (.inl h1)]))
      have d1 : decide (i < 0) = true := decide_eq_true h1
      clear HV h1
      go_enter Tryz.func52, Tryz.ntmps52
      go_wp2_with fail
      refine C.out.mono ?_
      rintro e w1 ⟨rfl, hb1⟩
      go_wp2_with fail
      go_ret
      exact ⟨ret_int HW.out.symm, hb1⟩
    · have d1 : decide (i < 0) = false := decide_eq_false h1
      by_cases h2 : (n : Int) ≤ i
      · have HW := Lib.hid (HV.out.trans (by rw [if_neg (by simp), if_pos (.inr h2)]))
        have d2 : decide ((n : Int) ≤ i) = true := decide_eq_true h2
        clear HV h1 h2
        go_enter Tryz.func52, Tryz.ntmps52
        go_wp2_with fail
        refine C.out.mono ?_
        rintro e w1 ⟨rfl, hb1⟩
        go_wp2_with fail
        go_ret
        exact ⟨ret_int HW.out.symm, hb1⟩
      · have HW := Lib.hid (HV.out.trans (by rw [if_neg (by simp), if_neg (by omega)]))
        have d2 : decide ((n : Int) ≤ i) = false := decide_eq_false h2
        clear HV h1 h2
        go_enter Tryz.func52, Tryz.ntmps52
        go_wp2_with fail
        refine C.out.mono ?_
        rintro e w1 ⟨rfl, hb1⟩
        go_wp2_with fail
        go_ret
        exact ⟨ret_int HW.out.symm, hb1⟩
  · have HW := Lib.hid (HV.out.trans (if_pos h0))
    have hne : (z2 == 0) = false := beq_eq_false_iff_ne.2 h0
    clear HV h0
    go_enter Tryz.func52, Tryz.ntmps52
    go_wp2_with fail
    refine C.out.mono ?_
    rintro e w1 ⟨rfl, hb1⟩
    go_wp2_with fail
    go_ret
    exact ⟨ret_int HW.out.symm, hb1⟩

theorem emp_rowX (B : Nat) (W : World) (h : B ≤ W.heap.size) : (W.alloc (.cells #[] 28)).ownsRow B 28 8 (.slice (some ⟨W.heap.size, 0, none⟩) 0 0) 0 [] :=
  ⟨rfl, .inr ⟨W.heap.size, 0, #[], rfl, h, World.alloc_heap_new _ _, Nat.le_refl _, by unfold maxLen; omega, rfl, rfl⟩⟩

set_option maxRecDepth 50000 in
theorem rSize_any (v : Value) (l : List Sx) (i : Int) (w : World) (h : XsAt w v l) (hs : SmX l) (hi : InX l) :
    Calls Tryz.prog 15 #[v, .int .i64 i] w fun e w' => e = .returned (.tuple #[.int .i64 (sizeX l i).1, .int .i64 (sizeX l i).2]) ∧ Below w.heap.size w w' := by
  have C := Lib.hid (rasked_any v l i w h hs hi)
  obtain ⟨va, vc, rfl, _⟩ := h.slice
  by_cases he : askX l i = 0
  · obtain ⟨h1, h2, h3⟩ := askX_0 he
    obtain ⟨p, rfl⟩ : ∃ p : Nat, i = (p : Int) := ⟨i.toNat, by omega⟩
    have hp : p < l.length := by omega
    have CE := Lib.hid (fun W (hW : Below w.heap.size w W) => rEnd10_any _ p l W (h.below hW (Nat.le_refl _)) h1 hp)
    obtain ⟨e1, e2⟩ := endX h1 hp
    have hl2 := (chkX_tree h1).2.2
    obtain ⟨E, hE⟩ : ∃ E, endN (kidsX l) p = E := ⟨_, rfl⟩
    have HW : Hid (sizeX l (p : Int) = (((E - p : Nat) : Int), 0)) := Lib.hid (by unfold sizeX; rw [if_neg (by simpa using he), Int.toNat_natCast, hE])
    rw [hE] at CE e1 e2
    obtain ⟨n, hn⟩ : ∃ n, l.length = n := ⟨_, rfl⟩
    rw [he] at C
    rw [hn] at C CE e2 hl2 ⊢
    have w0 : IntKind.i64.wrap ((E : Int) - (p : Int)) = ((E - p : Nat) : Int) := by rw [IntKind.wrap_i64]; omega
    clear h hs hi hn he hE h1 h2 h3 hp
    go_enter Tryz.func15, Tryz.ntmps15
    go_wp2_with fail
    refine C.out.mono ?_
    rintro e w1 ⟨rfl, hb1⟩
    go_wp2_with fail
    refine (CE.out w1 hb1).mono ?_
    rintro e w2 ⟨rfl, rfl⟩
    go_wp2_with fail
    go_ret2
    exact ⟨by rw [HW.out]; rfl, hb1⟩
  · have HW : Hid (sizeX l i = (0, askX l i)) := Lib.hid (by unfold sizeX; rw [if_pos he])
    obtain ⟨z, hz⟩ : ∃ z, askX l i = z := ⟨_, rfl⟩
    rw [hz] at C HW he
    have hne : (z != 0) = true := bne_iff_ne.2 he
    obtain ⟨n, hn⟩ : ∃ n, l.length = n := ⟨_, rfl⟩
    rw [hn] at C ⊢
    clear h hs hi hn he hz
    go_enter Tryz.func15, Tryz.ntmps15
    go_wp2_with fail
    refine C.out.mono ?_
    rintro e w1 ⟨rfl, hb1⟩
    go_wp2_with fail
    go_ret2
    exact ⟨by rw [HW.out]; rfl, hb1⟩
set_option maxRecDepth 50000 in
theorem rmade_any (v : Value) (l : List Sx) (w : World) (h : XsAt w v l) (hs : SmX l) (hi : InX l) :
    Calls Tryz.prog 59 #[v] w fun e w' => e = .returned (.tuple #[if (chkX l).2 ≠ 0 then .slice none 0 0 else v, .int .i64 (chkX l).2]) ∧ Below w.heap.size w w' := by
  have C := Lib.hid (rCheck10_any v l w h hs hi)
  obtain ⟨va, vc, rfl, _⟩ := h.slice
  obtain ⟨n, hn⟩ : ∃ n, l.length = n := ⟨_, rfl⟩
  obtain ⟨⟨z1, z⟩, hz⟩ : ∃ z, chkX l = z := ⟨_, rfl⟩
  rw [hz] at C ⊢
  simp only at C ⊢
  rw [hn] at C ⊢
  clear h hs hi hn hz
  by_cases he : z = 0
  · subst he
    rw [if_neg (by simp)]
    go_enter Tryz.func59, Tryz.ntmps59
    go_wp2_with fail
    refine C.out.mono ?_
    rintro e w1 ⟨rfl, hb1⟩
    go_wp2_with fail
    go_ret2
    exact ⟨rfl, hb1⟩
  · rw [if_pos he]
    have hne : (z != 0) = true := bne_iff_ne.2 he
    clear he
    go_enter Tryz.func59, Tryz.ntmps59
    go_wp2_with fail
    refine C.out.mono ?_
    rintro e w1 ⟨rfl, hb1⟩
    go_wp2_with fail
    go_ret2
    exact ⟨rfl, hb1⟩
def lenV : Value → Nat | .slice _ n _ => n | _ => 0
theorem xs_cells {w W : World} {g off n c : Nat} {l : List Sx} (h : XsAt w (.slice (some ⟨g, off, none⟩) n c) l) (hW : Below w.heap.size w W) : ∀ j u, (xcs l)[j]? = some u → W.cell? ((⟨g, off, none⟩ : Addr).add j) = some u := by
  intro j u hj
  obtain ⟨_, _, _, e, _, _, hr⟩ := h
  obtain ⟨rfl, rfl, rfl⟩ := Value.slice.inj e
  rcases hr with rfl | ⟨g', off', e', hg, hc⟩
  · simp [xcs] at hj
  · cases e'
    rw [Go.WideShapes.add_plain]; exact (hW.cell (p := ⟨g, off + j, none⟩) hg).trans (hc j u hj)
set_option maxRecDepth 50000 in
set_option maxHeartbeats 3200000 in
theorem rSub_any (v : Value) (l : List Sx) (i : Int) (w : World) (h : XsAt w v l) (hs : SmX l) (hi : InX l) :
    Calls Tryz.prog 20 #[v, .int .i64 i] w (ChgV (subR l i) w) := by
  have C := Lib.hid (rasked_any v l i w h hs hi)
  obtain ⟨va, vc, rfl, _⟩ := h.slice
  by_cases he : askX l i = 0
  · obtain ⟨g, off, p, E, rfl, rfl, hp, hpn, hpE, hEn, hend, hn2, hcap, HS, HX⟩ := sub_at h hi he
    obtain ⟨h1, h2, h3⟩ := askX_0 he
    have CE := Lib.hid (fun W (hW : Below w.heap.size w W) => rEnd10_any _ p l W (h.below hW (Nat.le_refl _)) h1 hpn)
    have HCl : Hid (∀ W, Below w.heap.size w W → ∀ j u, (xcs (subX l p))[j]? = some u → W.cell? ((⟨g, off + p * 8, none⟩ : Addr).add j) = some u) := Lib.hid fun W hW => xs_cells (HX W hW) (Below.refl _ _)
    have HW : Hid (subR l (p : Int) = (subX l p, 0) ∧ (subX l p).length = E - p) := Lib.hid ⟨by unfold subR; rw [if_neg (by simpa using he), hp], by unfold subX; rw [segX_len (by omega), hend]⟩
    have HL : Hid ((xcs (subX l p)).length = (E - p) * 8) := Lib.hid (by rw [xcs_len, HW.out.2])
    have HOne := Lib.hid (one_xcs (subX l p))
    obtain ⟨n, hn⟩ : ∃ n, l.length = n := ⟨_, rfl⟩
    rw [he] at C
    rw [hend] at CE
    rw [hn] at C CE hpn hEn hn2 hcap ⊢
    have b0 : (0 : Int) ≤ (p : Int) := Int.natCast_nonneg _
    have b1 : (p : Int) ≤ (E : Int) := by omega
    have b2 : (E : Int) ≤ (vc : Int) := by omega
    have b3 : p ≤ E := by omega
    have b4 : E ≤ vc := by omega
    have b5 : ¬ vc = p := by omega
    obtain ⟨i0, hi1, hj0, hj1, hj2⟩ := info_parts2 zeroSxI
    clear h hs hi hn he h1 h2 h3 HS HX hp hend
    go_enter Tryz.func20, Tryz.ntmps20
    go_wp2_with fail
    refine C.out.mono ?_
    rintro e w1 ⟨rfl, hb1⟩
    have hs1 := hb1.size
    have hba : Below w.heap.size w (w1.alloc (.cells #[] 28)) := hb1.alloc hs1 _
    go_wp2_with fail
    refine (CE.out _ hba).mono ?_
    rintro e w2 ⟨rfl, rfl⟩
    go_wp2_with (at_builtin; refine wpList_append_own _ rfl _ _ 22 rfl w.heap.size 28 i0 zeroNx 8 80 Tryz.underlying22 hi1 hj0 hj1 hj2 rfl (by decide) _ _ _ rfl (emp_rowX w.heap.size w1 hs1) ⟨g, off + p * 8, none⟩ (E - p) (vc - p) (xcs (subX l p)) rfl HL.out (HCl.out _ hba) HOne.out (by unfold maxLen; omega) (by omega) (by rw [World.size_alloc]; omega) ?_; intro v4 w4 hown4 hgrow4 _; rw [Nat.zero_add, List.nil_append] at hown4; obtain ⟨b4, cb4, rfl⟩ := own_lenR hown4; have hb4 : Below w.heap.size w w4 := hba.grown hgrow4 (by rw [World.size_alloc]; omega) (own_at rfl hs1); have HO4 := Lib.hid hown4; clear hown4 hgrow4)
    go_ret2
    refine ⟨b4, cb4, by rw [HW.out.1]; simp only [HW.out.2]; rfl, Lib.hid ?_, hb4⟩
    rw [HW.out.1]; simp only [HW.out.2]
    exact HO4.out
  · have HW : Hid (subR l i = ([], askX l i)) := Lib.hid (by unfold subR; rw [if_pos he])
    obtain ⟨z, hz⟩ : ∃ z, askX l i = z := ⟨_, rfl⟩
    rw [hz] at C HW he
    have hne : (z != 0) = true := bne_iff_ne.2 he
    obtain ⟨n, hn⟩ : ∃ n, l.length = n := ⟨_, rfl⟩
    rw [hn] at C ⊢
    clear h hs hi hn he hz
    go_enter Tryz.func20, Tryz.ntmps20
    go_wp2_with fail
    refine C.out.mono ?_
    rintro e w1 ⟨rfl, hb1⟩
    go_wp2_with fail
    go_ret2
    exact chgV_err HW.out hb1
set_option maxRecDepth 50000 in
set_option maxHeartbeats 6400000 in
theorem rChildren_any (v : Value) (l : List Sx) (p : Nat) (w : World) (h : XsAt w v l) (h1 : (chkX l).2 = 0) (hpn : p < l.length) :
    Calls Tryz.prog 54 #[v, .int .i64 (p : Int)] w fun e w' => ∃ a c, e = .returned (.slice a (cnt (kidsX l) p) c) ∧ Hid (w'.ownsRow w.heap.size 3 1 (.slice a (cnt (kidsX l) p) c) (cnt (kidsX l) p) (natC (kidsN (kidsX l) p))) ∧ Below w.heap.size w w' := by
  obtain ⟨va, vc, rfl, _⟩ := h.slice
  have hT := chkX_tr h1
  have hpk : p < (kidsX l).length := by rw [kidsX_len]; exact hpn
  obtain ⟨x, hx⟩ : ∃ x, l[p]? = some x := ⟨_, List.getElem?_eq_getElem hpn⟩
  obtain ⟨K, hK⟩ : ∃ K : Nat, x.c = (K : Int) := ⟨x.c.toNat, by have := chkX_kids h1 x (List.mem_of_getElem? hx); omega⟩
  have hcnt : cnt (kidsX l) p = K := by rw [cnt_of (kidsX_at hx), hK, Int.toNat_natCast]
  have hl2 := (chkX_tree h1).2.2
  have hend := (endX h1 hpn).2
  have hK2 : K ≤ 2000 := by
    have := hT.pos_mono hpk (d := K) (k := 0) (by omega)
    have e := hT.pos_end hpk
    rw [hcnt] at e
    rw [Nat.zero_add, e] at this; omega
  obtain ⟨g, off, rfl⟩ : ∃ g off, va = some ⟨g, off, none⟩ := by obtain ⟨g, off, e, _⟩ := h.node hx; exact ⟨g, off, e⟩
  have HCell : Hid (∀ W, Below w.heap.size w W → W.cell? ⟨g, off + p * 8 + 1, none⟩ = some (.int .i64 (K : Int))) := Lib.hid fun W hW => by
    obtain ⟨g', off', e, _, _, c1, _⟩ := (h.below hW (Nat.le_refl _)).node hx
    cases e; rw [hK] at c1; exact c1
  have HSt : Hid (∀ j, j < K → ∃ q q' : Nat, posK (kidsX l) p j = q ∧ posK (kidsX l) p (j + 1) = q' ∧ q < q' ∧ q' ≤ 2000 ∧ ∀ W, Below w.heap.size w W → Calls Tryz.prog 53 #[.slice (some ⟨g, off, none⟩) l.length vc, .int .i64 (q : Int)] W fun e w' => e = .returned (.int .i64 (q' : Int)) ∧ w' = W) := Lib.hid fun j hj => by
    obtain ⟨s1, s2, s3⟩ := hT.pos_step hpk (k := j) (by omega)
    rw [kidsX_len] at s2
    have s4 := hT.end_bd (p := posK (kidsX l) p j) (by rw [kidsX_len]; exact s2)
    rw [s3, kidsX_len] at s4
    refine ⟨_, _, rfl, rfl, s4.1, by omega, fun W hW => ?_⟩
    have := rEnd10_any _ (posK (kidsX l) p j) l W (h.below hW (Nat.le_refl _)) h1 s2
    rw [s3] at this; exact this
  have HP0 : Hid (posK (kidsX l) p 0 = p + 1) := Lib.hid (posK_start hpk)
  have HKl : Hid (∀ j, j < K → (kidsN (kidsX l) p).take (j + 1) = (kidsN (kidsX l) p).take j ++ [posK (kidsX l) p j]) := Lib.hid fun j hj => kidsN_take (by omega)
  have HLn : Hid ((kidsN (kidsX l) p).length = K) := Lib.hid (by rw [kidsN_len, hcnt])
  obtain ⟨n, hn⟩ : ∃ n, l.length = n := ⟨_, rfl⟩
  rw [hn] at HSt hpn hl2 ⊢
  rw [hcnt]
  have b0 : (0 : Int) ≤ (p : Int) := Int.natCast_nonneg _
  have b1 : (p : Int) < (n : Int) := by omega
  obtain ⟨i0, hi0, hz0, hz1, hz2⟩ := info_parts2 infoInt
  clear h h1 hT hpk hx hK hcnt hn hend
  go_enter Tryz.func54, Tryz.ntmps54
  go_wp2_with fail
  go_loopw [5, 6] (fun x5 x6 wr => ∃ (j q : Nat) (b : Option Addr) (c : Nat), x5 = .slice b j c ∧ x6 = .int .i64 (q : Int) ∧ j ≤ K ∧ Hid (posK (kidsX l) p j = q) ∧ Hid (wr.ownsRow w.heap.size 3 1 (.slice b j c) j (natC ((kidsN (kidsX l) p).take j))) ∧ Below w.heap.size w wr) (fun x5 _ _ => K - lenV x5)
  case atStart => exact ⟨0, p + 1, none, 0, rfl, by go_num, Nat.zero_le _, Lib.hid HP0.out, Lib.hid (by rw [List.take_zero]; exact own_nilX _ _ _ _), Below.refl _ _⟩
  case round =>
    obtain ⟨j, q, b, c, rfl, rfl, hj, HQ, HO, hb⟩ := hrel
    have c0 := HCell.out wr hb
    by_cases hlt : j < K
    · obtain ⟨q1, q', e1, e2, hqq, hq2, HSub⟩ := HSt.out j hlt
      have e3 : q = q1 := HQ.out.symm.trans e1
      subst e3
      have HSb := Lib.hid HSub
      have HQ2 := Lib.hid e2
      have HT1 : Hid (natC ((kidsN (kidsX l) p).take (j + 1)) = natC ((kidsN (kidsX l) p).take j) ++ [.int .i64 (q : Int)]) := Lib.hid (by rw [HKl.out j hlt, natC_app, e1]; rfl)
      have hd : decide ((j : Int) < (K : Int)) = true := decide_eq_true (by omega)
      have hbs := hb.size
      clear HSub e1 e2
      go_wp2_with (at_builtin; refine wpList_append_own _ rfl _ _ 33 rfl w.heap.size 3 i0 (.int .i64 0) 1 8 Tryz.underlying33 hi0 hz0 hz1 hz2 rfl (by decide) _ _ _ rfl (HO.out.alloc _) ⟨wr.heap.size, 0, none⟩ 1 1 [.int .i64 (q : Int)] rfl rfl (new_cells1 _ _ _ _ rfl) (by simp [Value.oneCell']) (by unfold maxLen; omega) (by omega) (by rw [World.size_alloc]; omega) ?_; intro v4 w4 hown4 hgrow4 _; obtain ⟨b4, cb4, rfl⟩ := own_lenR hown4; have hb4 : Below w.heap.size w w4 := (hb.alloc hb.size _).grown hgrow4 (by rw [World.size_alloc]; omega) (fun k hk => (HO.out.lt k hk).1); have HO4 := Lib.hid hown4; clear hown4 hgrow4)
      refine (HSb.out w4 hb4).mono ?_
      rintro e w5 ⟨rfl, rfl⟩
      go_wp2_with fail
      go_roundw
      case rel => exact ⟨j + 1, q', b4, cb4, rfl, by go_num, by omega, HQ2, Lib.hid (by rw [HT1.out]; exact HO4.out), hb4⟩
      case measure => simp [lenV]; omega
    · obtain rfl : j = K := by omega
      have hd : decide ((j : Int) < (j : Int)) = false := decide_eq_false (Int.lt_irrefl _)
      have HF : Hid ((kidsN (kidsX l) p).take j = kidsN (kidsX l) p) := Lib.hid (List.take_of_length_le (Nat.le_of_eq HLn.out))
      go_wp2_with fail
      go_ret
      exact ⟨b, c, rfl, Lib.hid (by have := HO.out; rw [HF.out] at this; exact this), hb⟩
set_option maxRecDepth 50000 in
theorem rKids_any (v : Value) (l : List Sx) (i : Int) (w : World) (h : XsAt w v l) (hs : SmX l) (hi : InX l) :
    Calls Tryz.prog 17 #[v, .int .i64 i] w (KidV (kidR l i) w) := by
  have C := Lib.hid (rasked_any v l i w h hs hi)
  obtain ⟨va, vc, rfl, _⟩ := h.slice
  by_cases he : askX l i = 0
  · obtain ⟨h1, h2, h3⟩ := askX_0 he
    obtain ⟨p, rfl⟩ : ∃ p : Nat, i = (p : Int) := ⟨i.toNat, by omega⟩
    have hp : p < l.length := by omega
    have CC := Lib.hid (fun W (hW : Below w.heap.size w W) => rChildren_any _ l p W (h.below hW (Nat.le_refl _)) h1 hp)
    have HW : Hid (kidR l (p : Int) = (kidsN (kidsX l) p, 0) ∧ (kidsN (kidsX l) p).length = cnt (kidsX l) p) := Lib.hid ⟨by unfold kidR; rw [if_neg (by simpa using he), Int.toNat_natCast], kidsN_len _ _⟩
    obtain ⟨n, hn⟩ : ∃ n, l.length = n := ⟨_, rfl⟩
    obtain ⟨K, hK⟩ : ∃ K, cnt (kidsX l) p = K := ⟨_, rfl⟩
    rw [he] at C
    rw [hn] at C CC ⊢
    rw [hK] at CC HW
    clear h hs hi hn he h1 h2 h3 hp hK
    go_enter Tryz.func17, Tryz.ntmps17
    go_wp2_with fail
    refine C.out.mono ?_
    rintro e w1 ⟨rfl, hb1⟩
    go_wp2_with fail
    refine (CC.out w1 hb1).mono ?_
    rintro e w2 ⟨a, c, rfl, ho, hb2⟩
    go_wp2_with fail
    go_ret2
    exact kidV_of HW.out.1 HW.out.2 (own_mono ho.out hb1.size) (below_step hb1 hb2)
  · have HW : Hid (kidR l i = ([], askX l i)) := Lib.hid (by unfold kidR; rw [if_pos he])
    obtain ⟨z, hz⟩ : ∃ z, askX l i = z := ⟨_, rfl⟩
    rw [hz] at C HW he
    have hne : (z != 0) = true := bne_iff_ne.2 he
    obtain ⟨n, hn⟩ : ∃ n, l.length = n := ⟨_, rfl⟩
    rw [hn] at C ⊢
    clear h hs hi hn he hz
    go_enter Tryz.func17, Tryz.ntmps17
    go_wp2_with fail
    refine C.out.mono ?_
    rintro e w1 ⟨rfl, hb1⟩
    go_wp2_with fail
    go_ret2
    exact kidV_of HW.out rfl (own_nilX _ _ _ _) hb1


set_option maxRecDepth 50000 in
set_option maxHeartbeats 6400000 in
theorem rPut_bad (v u : Value) (l s : List Sx) (i : Int) (w : World) (h : XsAt w v l) (h2 : XsAt w u s) (hs : SmX l) (hi : InX l) (hs2 : SmX s) (hi2 : InX s) (hb : (chkX l).2 ≠ 0 ∨ (chkX l).2 = 0 ∧ (chkX s).2 ≠ 0 ∨ (chkX l).2 = 0 ∧ (chkX s).2 = 0 ∧ askX l i ≠ 0) :
    Calls Tryz.prog 22 #[v, .int .i64 i, u] w (ChgV (putX l i s) w) := by
  have C1 := Lib.hid (rCheck10_any v l w h hs hi)
  have C2 := Lib.hid (fun W (hW : Below w.heap.size w W) => rCheck10_any u s W (h2.below hW (Nat.le_refl _)) hs2 hi2)
  have C3 := Lib.hid (fun W (hW : Below w.heap.size w W) => rasked_any v l i W (h.below hW (Nat.le_refl _)) hs hi)
  have HP : putX l i s = if (chkX l).2 ≠ 0 then ([], (chkX l).2) else if (chkX s).2 ≠ 0 then ([], (chkX s).2) else if askX l i ≠ 0 then ([], askX l i) else if (chkX (putL l i.toNat s)).2 ≠ 0 then ([], (chkX (putL l i.toNat s)).2) else (putL l i.toNat s, 0) := rfl
  obtain ⟨va, vc, rfl, _⟩ := h.slice
  obtain ⟨ua, uc, rfl, _⟩ := h2.slice
  obtain ⟨n, hn⟩ : ∃ n, l.length = n := ⟨_, rfl⟩
  obtain ⟨m, hm⟩ : ∃ m, s.length = m := ⟨_, rfl⟩
  obtain ⟨⟨a1, a2⟩, ha⟩ : ∃ z, chkX l = z := ⟨_, rfl⟩
  obtain ⟨⟨b1, b2⟩, hb'⟩ : ∃ z, chkX s = z := ⟨_, rfl⟩
  obtain ⟨q, hq⟩ : ∃ z, askX l i = z := ⟨_, rfl⟩
  rw [ha] at C1 hb HP
  rw [hb'] at C2 hb HP
  rw [hq] at C3 hb HP
  simp only at C1 C2 hb HP
  rw [hn] at C1 C3 ⊢
  rw [hm] at C2 ⊢
  clear h h2 hs hi hs2 hi2 hn hm ha hb' hq
  rcases hb with h1 | ⟨h1, h2⟩ | ⟨h1, h2, h3⟩
  · have HW := Lib.hid (HP.trans (if_pos h1))
    have q1 : (a2 == 0) = false := beq_eq_false_iff_ne.2 h1
    have q2 : (a2 != 0) = true := bne_iff_ne.2 h1
    clear HP h1
    go_enter Tryz.func22, Tryz.ntmps22
    go_wp2_with fail
    refine C1.out.mono ?_
    rintro e w1 ⟨rfl, hb1⟩
    go_wp2_with fail
    go_ret2
    exact chgV_err HW.out hb1
  · subst h1
    have HW := Lib.hid (HP.trans (by rw [if_neg (by simp), if_pos h2]))
    have q1 : (b2 == 0) = false := beq_eq_false_iff_ne.2 h2
    have q2 : (b2 != 0) = true := bne_iff_ne.2 h2
    clear HP h2
    go_enter Tryz.func22, Tryz.ntmps22
    go_wp2_with fail
    refine C1.out.mono ?_
    rintro e w1 ⟨rfl, hb1⟩
    go_wp2_with fail
    refine (C2.out w1 hb1).mono ?_
    rintro e w2 ⟨rfl, hb2⟩
    go_wp2_with fail
    go_ret2
    exact chgV_err HW.out (below_step hb1 hb2)
  · subst h1
    subst h2
    have HW := Lib.hid (HP.trans (by rw [if_neg (by simp), if_neg (by simp), if_pos h3]))
    have q2 : (q != 0) = true := bne_iff_ne.2 h3
    clear HP h3
    go_enter Tryz.func22, Tryz.ntmps22
    go_wp2_with fail
    refine C1.out.mono ?_
    rintro e w1 ⟨rfl, hb1⟩
    go_wp2_with fail
    refine (C2.out w1 hb1).mono ?_
    rintro e w2 ⟨rfl, hb2⟩
    have hB2 := below_step hb1 hb2
    go_wp2_with fail
    refine (C3.out w2 hB2).mono ?_
    rintro e w3 ⟨rfl, hb3⟩
    go_wp2_with fail
    go_ret2
    exact chgV_err HW.out (below_step hB2 hb3)
set_option maxRecDepth 50000 in
set_option maxHeartbeats 6400000 in
theorem rPut_in (v u : Value) (l s : List Sx) (i : Int) (w : World) (h : XsAt w v l) (h2 : XsAt w u s) (hs : SmX l) (hi : InX l) (hs2 : SmX s) (hi2 : InX s) (e1 : (chkX l).2 = 0) (e2 : (chkX s).2 = 0) (he : askX l i = 0) :
    Calls Tryz.prog 22 #[v, .int .i64 i, u] w (ChgV (putX l i s) w) := by
  have C1 := Lib.hid (rCheck10_any v l w h hs hi)
  have C2 := Lib.hid (fun W (hW : Below w.heap.size w W) => rCheck10_any u s W (h2.below hW (Nat.le_refl _)) hs2 hi2)
  have C3 := Lib.hid (fun W (hW : Below w.heap.size w W) => rasked_any v l i W (h.below hW (Nat.le_refl _)) hs hi)
  rw [(chkX_ok e1).1] at C1
  rw [(chkX_ok e2).1] at C2
  simp only at C1 C2
  rw [he] at C3
  obtain ⟨va, vc, rfl, hcl⟩ := h.slice
  obtain ⟨ua, uc, rfl, _⟩ := h2.slice
  obtain ⟨n, hn⟩ : ∃ n, l.length = n := ⟨_, rfl⟩
  obtain ⟨m, hm⟩ : ∃ m, s.length = m := ⟨_, rfl⟩
  obtain ⟨g, off, p, E, rfl, rfl, hp, hpn, hpE, hEn, hend, hn2, hcap, _, _⟩ := sub_at h hi he
  have CE := Lib.hid (fun W (hW : Below w.heap.size w W) => rEnd10_any _ p l W (h.below hW (Nat.le_refl _)) e1 hpn)
  rw [hend] at CE
  have hm2 := (chkX_tree e2).2.2
  have hmpos : 0 < m := by rw [← hm]; exact List.length_pos_iff.2 (chkX_tree e2).2.1
  rw [hn] at C1 C3 CE hcl h hpn hEn hn2 hcap ⊢
  rw [hm] at C2 h2 hm2 ⊢
  obtain ⟨gs, os, rfl⟩ := cap_in h2 hmpos
  have HPL : Hid (putL l p s = l.take p ++ (s ++ l.drop E) ∧ (putL l p s).length = p + m + (n - E)) := Lib.hid ⟨by unfold putL; rw [hend], by unfold putL; rw [hend, List.length_append, List.length_append, List.length_take, List.length_drop, hm]; omega⟩
  have HPX : Hid (putX l (p : Int) s = if (chkX (putL l p s)).2 ≠ 0 then ([], (chkX (putL l p s)).2) else (putL l p s, 0)) := Lib.hid (by unfold putX; rw [if_neg (by simpa using e1), if_neg (by simpa using e2), if_neg (by simpa using he), hp])
  have CM := Lib.hid (fun v' W (hx : XsAt W v' (putL l p s)) => rmade_any v' (putL l p s) W hx (put_small hs hs2) (put_int hi hi2))
  have HXt := Lib.hid (fun W (hW : Below w.heap.size w W) => xs_cells (xs_take (h.below hW (Nat.le_refl _)) (Nat.le_of_lt hpn)) (Below.refl _ _))
  have HXs := Lib.hid (fun W (hW : Below w.heap.size w W) => xs_cells (h2.below hW (Nat.le_refl _)) (Below.refl _ _))
  have hdr : ∀ W, Below w.heap.size w W → ∀ (a2 : Addr) (c2 : Nat), n - E ≤ c2 → (E < n → a2 = ⟨g, off + E * 8, none⟩) → XsAt W (.slice (some a2) (n - E) c2) (l.drop E) := fun W hW a2 c2 hc2 ha => xs_drop (h.below hW (Nat.le_refl _)) hEn (some a2) (n - E) c2 rfl hc2 (fun hlt g' off' e => by cases e; rw [ha hlt])
  have HL1 : Hid ((xcs (l.take p)).length = p * 8) := Lib.hid (by rw [xcs_len, List.length_take]; congr 1; omega)
  have HL2 : Hid ((xcs s).length = m * 8) := Lib.hid (by rw [xcs_len, hm])
  have HL3 : Hid ((xcs (l.drop E)).length = (n - E) * 8) := Lib.hid (by rw [xcs_len, List.length_drop, hn])
  have HO1 := Lib.hid (one_xcs (l.take p))
  have HO2 := Lib.hid (one_xcs s)
  have HO3 := Lib.hid (one_xcs (l.drop E))
  have b0 : (0 : Int) ≤ (p : Int) := Int.natCast_nonneg _
  have b1 : (p : Int) ≤ (vc : Int) := by omega
  have b2 : (0 : Int) ≤ (E : Int) := Int.natCast_nonneg _
  have b3 : (E : Int) ≤ (n : Int) := by omega
  have b4 : (n : Int) ≤ (vc : Int) := by omega
  have b5 : p ≤ vc := by omega
  have b6 : E ≤ n := hEn
  have b7 : n ≤ vc := hcap
  have hcases : ∃ a3 c3, (vc = E ∧ n = E ∧ a3 = (⟨g, off, none⟩ : Addr) ∧ c3 = 0) ∨ (¬ vc = E ∧ a3 = (⟨g, off + E * 8, none⟩ : Addr) ∧ c3 = vc - E) := by
    by_cases hcv : vc = E
    · exact ⟨_, _, .inl ⟨hcv, by omega, rfl, rfl⟩⟩
    · exact ⟨_, _, .inr ⟨hcv, rfl, rfl⟩⟩
  obtain ⟨a3, c3, hcs⟩ := hcases
  have HX3 : Hid (∀ W, Below w.heap.size w W → ∀ j u, (xcs (l.drop E))[j]? = some u → W.cell? (a3.add j) = some u) := Lib.hid fun W hW => by
    rcases hcs with ⟨h1, h2, rfl, rfl⟩ | ⟨h1, rfl, rfl⟩
    · exact xs_cells (hdr W hW _ 0 (by omega) (fun h => by omega)) (Below.refl _ _)
    · exact xs_cells (hdr W hW _ (vc - E) (by omega) (fun _ => rfl)) (Below.refl _ _)
  obtain ⟨z, hz⟩ : ∃ z, (chkX (putL l p s)).2 = z := ⟨_, rfl⟩
  rw [hz] at HPX CM
  have hE2 : n - E ≤ 2000 := by omega
  have hp2 : p ≤ 2000 := by omega
  have HNE := Lib.hid hEn
  clear h h2 hs hi hs2 hi2 hn hm he e1 e2 hend hcl hp hdr hz hmpos
  have HFin : Hid (∀ (W' : World) b c, W'.ownsRow w.heap.size 28 8 (.slice b (p + m + (n - E)) c) (p + m + (n - E)) (xcs (l.take p) ++ xcs s ++ xcs (l.drop E)) → XsAt W' (.slice b (p + m + (n - E)) c) (putL l p s) ∧ W'.ownsRow w.heap.size 28 8 (.slice b (p + m + (n - E)) c) (p + m + (n - E)) (xcs (putL l p s))) := Lib.hid fun W' b c ho => by
    have e : xcs (putL l p s) = xcs (l.take p) ++ xcs s ++ xcs (l.drop E) := by rw [HPL.out.1, xcs_app, xcs_app, List.append_assoc]
    rw [← e] at ho
    exact ⟨xs_own ho HPL.out.2, ho⟩
  obtain ⟨i0, hi1, hj0, hj1, hj2⟩ := info_parts2 zeroSxI
  rcases hcs with ⟨rfl, rfl, rfl, rfl⟩ | ⟨hcv, rfl, rfl⟩
  all_goals
    try simp only [Nat.sub_self, Nat.add_zero] at HX3 HFin HPL HL3
    go_enter Tryz.func22, Tryz.ntmps22
    go_wp2_with fail
    refine C1.out.mono ?_
    rintro e w1 ⟨rfl, hb1⟩
    go_wp2_with fail
    refine (C2.out w1 hb1).mono ?_
    rintro e w2 ⟨rfl, hb2⟩
    have hB2 := below_step hb1 hb2
    go_wp2_with fail
    refine (C3.out w2 hB2).mono ?_
    rintro e w3 ⟨rfl, hb3⟩
    have hB3 := below_step hB2 hb3
    have hs3 := hB3.size
    have hba : Below w.heap.size w (w3.alloc (.cells #[] 28)) := hB3.alloc hs3 _
    go_wp2_with (first
      | (at_builtin; refine wpList_append_own _ rfl _ _ 22 rfl w.heap.size 28 i0 zeroNx 8 80 Tryz.underlying22 hi1 hj0 hj1 hj2 rfl (by decide) _ _ _ rfl (emp_rowX w.heap.size w3 hs3) ⟨g, off, none⟩ p _ (xcs (l.take p)) rfl HL1.out (HXt.out _ hba) HO1.out (by unfold maxLen; omega) (by omega) (by rw [World.size_alloc]; omega) ?_; intro v4 w4 hown4 hgrow4 _; rw [Nat.zero_add, List.nil_append] at hown4; obtain ⟨b4, cb4, rfl⟩ := own_lenR hown4; have hb4 : Below w.heap.size w w4 := hba.grown hgrow4 (by rw [World.size_alloc]; omega) (own_at rfl hs3); have HO4 := Lib.hid hown4; clear hown4 hgrow4; have hs4 := hb4.size)
      | (at_builtin; refine wpList_append_own _ rfl _ _ 22 rfl w.heap.size 28 i0 zeroNx 8 80 Tryz.underlying22 hi1 hj0 hj1 hj2 rfl (by decide) _ _ _ rfl HO4.out ⟨gs, os, none⟩ m uc (xcs s) rfl HL2.out (HXs.out w4 hb4) HO2.out (by unfold maxLen; omega) (by omega) hs4 ?_; intro v5 w5 hown5 hgrow5 _; obtain ⟨b5', cb5, rfl⟩ := own_lenR hown5; have hb5 : Below w.heap.size w w5 := hb4.grown hgrow5 hs4 (fun k hk => (HO4.out.lt k hk).1); have HO5 := Lib.hid hown5; clear hown5 hgrow5))
    have hs5 := hb5.size
    refine (CE.out w5 hb5).mono ?_
    rintro e w6 ⟨rfl, rfl⟩
    go_wp2_with (at_builtin; refine wpList_append_own _ rfl _ _ 22 rfl w.heap.size 28 i0 zeroNx 8 80 Tryz.underlying22 hi1 hj0 hj1 hj2 rfl (by decide) _ _ _ rfl HO5.out _ _ _ (xcs (l.drop _)) rfl HL3.out (HX3.out w6 hb5) HO3.out (by unfold maxLen; omega) (by omega) hs5 ?_; intro v7 w7 hown7 hgrow7 _; obtain ⟨b7', cb7, rfl⟩ := own_lenR hown7; have hb7 : Below w.heap.size w w7 := hb5.grown hgrow7 hs5 (fun k hk => (HO5.out.lt k hk).1); have HF7 := Lib.hid (HFin.out w7 b7' cb7 hown7); clear hown7 hgrow7)
    refine (CM.out _ w7 HF7.out.1).mono ?_
    rintro e w8 ⟨rfl, hb8⟩
    have hb78 := below_step hb7 hb8
    by_cases hz : z = 0
    · subst hz
      have HW := Lib.hid (HPX.out.trans (if_neg (by simp)))
      rw [if_neg (by simp)]
      go_wp2_with fail
      go_ret2
      refine ⟨b7', cb7, by rw [HW.out]; simp only [HPL.out.2]; rfl, Lib.hid ?_, hb78⟩
      rw [HW.out]; simp only [HPL.out.2]
      exact own_below HF7.out.2 hb8
    · have HW := Lib.hid (HPX.out.trans (if_pos hz))
      rw [if_pos hz]
      go_wp2_with fail
      go_ret2
      exact chgV_err HW.out hb78
theorem rPut_any (v u : Value) (l s : List Sx) (i : Int) (w : World) (h : XsAt w v l) (h2 : XsAt w u s) (hs : SmX l) (hi : InX l) (hs2 : SmX s) (hi2 : InX s) :
    Calls Tryz.prog 22 #[v, .int .i64 i, u] w (ChgV (putX l i s) w) := by
  by_cases e1 : (chkX l).2 = 0
  · by_cases e2 : (chkX s).2 = 0
    · by_cases he : askX l i = 0
      · exact rPut_in v u l s i w h h2 hs hi hs2 hi2 e1 e2 he
      · exact rPut_bad v u l s i w h h2 hs hi hs2 hi2 (.inr (.inr ⟨e1, e2, he⟩))
    · exact rPut_bad v u l s i w h h2 hs hi hs2 hi2 (.inr (.inl ⟨e1, e2⟩))
  · exact rPut_bad v u l s i w h h2 hs hi hs2 hi2 (.inl e1)


set_option maxRecDepth 50000 in
set_option maxHeartbeats 6400000 in
theorem rList_any (v : Value) (ts : List (List Sx)) (x : Sx) (w : World) (h : LsAt w v ts) (hs : ∀ t ∈ ts, SmX t ∧ InX t) (hx : x.p.length ≤ 100000) (hl : ts.length ≤ 3000) (hf : ts.flatten.length ≤ 100000) :
    Calls Tryz.prog 25 #[v, sxA x] w (ChgV (listX ts x) w) := by
  have HBad := Lib.hid (fun hz => listX_bad (ts := ts) (x := x) hz)
  have HIn := Lib.hid (fun hz => listX_in (ts := ts) (x := x) hz)
  have CM := Lib.hid (fun v' W (hx' : XsAt W v' (listL10 ts x)) => rmade_any v' (listL10 ts x) W hx' (listL_small hs hx) (listL_int hs hl))
  have HC := Lib.hid (fun (k : Nat) (t : List Sx) (hk : ts[k]? = some t) vt W (hx : XsAt W vt t) => rCheck10_any vt t W hx (hs t (List.mem_of_getElem? hk)).1 (hs t (List.mem_of_getElem? hk)).2)
  obtain ⟨a, n, c, rfl, hn, hA⟩ := h
  have HA : Hid (∀ W, Below w.heap.size w W → ∀ (k : Nat) (t : List Sx), ts[k]? = some t → ∃ g off vt, a = some ⟨g, off, none⟩ ∧ W.cell? ⟨g, off + k, none⟩ = some vt ∧ g < w.heap.size ∧ XsAt W vt t) := Lib.hid fun W hW k t ht => by
    rcases hA with rfl | ⟨g, off, rfl, hg, hc⟩
    · cases ht
    · obtain ⟨vt, d0, hN⟩ := hc k t ht
      exact ⟨g, off, vt, rfl, (hW.cell (p := ⟨g, off + k, none⟩) hg).trans d0, hg, hN.below hW (Nat.le_refl _)⟩
  have HN := Lib.hid hn
  have HFl : Hid (∀ k, (ts.take k).flatten.length ≤ 100000) := Lib.hid fun k => Nat.le_trans (flat_le ts k) hf
  have HRt : Hid (∀ k, xcs (rootX n x :: (ts.take k).flatten) = [.int .i64 4, .int .i64 (n : Int), .int .i64 0, .string ⟨#[]⟩, .string (str x.p), .int .i64 x.f, .int .i64 x.t, .int .i64 x.o] ++ xcs (ts.take k).flatten) := Lib.hid fun k => rfl
  have HL0 : Hid (listL10 ts x = rootX n x :: ts.flatten) := Lib.hid (by unfold listL10; rw [hn])
  have hnl : n ≤ 3000 := by omega
  obtain ⟨i0, hi, hz0, hz1, hz2⟩ := info_parts2 zeroSxI
  unfold sxA sxC
  obtain ⟨k0, c0, n0, s0, p0, f0, t0, o0⟩ := x
  simp only at HRt ⊢
  obtain ⟨P, hP⟩ : ∃ P, str p0 = P := ⟨_, rfl⟩
  obtain ⟨S, hS⟩ : ∃ P, str s0 = P := ⟨_, rfl⟩
  rw [hP] at HRt ⊢
  rw [hS]
  have hb0 := below_b1 w (.cells #[.int .i64 k0, .int .i64 c0, .int .i64 n0, .string S, .string P, .int .i64 f0, .int .i64 t0, .int .i64 o0] 28)
  have hbx := World.alloc_heap_new w (.cells #[.int .i64 k0, .int .i64 c0, .int .i64 n0, .string S, .string P, .int .i64 f0, .int .i64 t0, .int .i64 o0] 28)
  obtain ⟨_, _, _, _, d4, d5, d6, d7⟩ := box8_facts hbx
  have hO0 := World.ownsRow_lit (base := w.heap.size) (e := 28) (size := 8) (w.alloc (.cells #[.int .i64 k0, .int .i64 c0, .int .i64 n0, .string S, .string P, .int .i64 f0, .int .i64 t0, .int .i64 o0] 28)) #[.int .i64 4, .int .i64 (n : Int), .int .i64 0, .string ⟨#[]⟩, .string P, .int .i64 f0, .int .i64 t0, .int .i64 o0] 1 (by rw [World.size_alloc]; omega) (by decide) rfl
  rw [World.size_alloc] at hO0
  have hb3 := hb0.alloc (by rw [World.size_alloc]; omega) (.cells #[.int .i64 4, .int .i64 (n : Int), .int .i64 0, .string ⟨#[]⟩, .string P, .int .i64 f0, .int .i64 t0, .int .i64 o0] 28)
  have HO0 := Lib.hid hO0
  clear hs hx hl hn hP hS hbx hA hf hO0 hb0
  go_enter Tryz.func25, Tryz.ntmps25
  go_upto_region 2 with (fail)
  obtain ⟨w3, hw3⟩ : ∃ w3, w3 = (w.alloc (.cells #[.int .i64 k0, .int .i64 c0, .int .i64 n0, .string S, .string P, .int .i64 f0, .int .i64 t0, .int .i64 o0] 28)).alloc (.cells #[.int .i64 4, .int .i64 (n : Int), .int .i64 0, .string ⟨#[]⟩, .string P, .int .i64 f0, .int .i64 t0, .int .i64 o0] 28) := ⟨_, rfl⟩
  rw [← hw3] at HO0 hb3 ⊢
  clear hw3 d4 d5 d6 d7
  go_wp2_with fail
  go_loopw [6, 7] (fun x6 x7 wr => ∃ (j p : Nat) (b : Option Addr) (cb : Nat), x7 = .int .i64 (j : Int) ∧ j ≤ n ∧ x6 = .slice b p cb ∧ Hid (1 + (ts.take j).flatten.length = p) ∧ Hid (allX ts = allX (ts.drop j)) ∧ Hid (wr.ownsRow w.heap.size 28 8 (.slice b p cb) p (xcs (rootX n ⟨k0, c0, n0, s0, p0, f0, t0, o0⟩ :: (ts.take j).flatten))) ∧ Below w.heap.size w wr) (fun _ x7 _ => n - (intOf x7).toNat)
  case atStart => exact ⟨0, 1, _, _, rfl, Nat.zero_le _, rfl, Lib.hid (by simp), Lib.hid (by rw [List.drop_zero]), Lib.hid (by rw [HRt.out]; exact HO0.out), hb3⟩
  case round =>
    obtain ⟨j, p, b, cb, rfl, hj, rfl, HP, HK, HO, hbr⟩ := hrel
    have hj0 : (0 : Int) ≤ (j : Int) := Int.natCast_nonneg _
    by_cases hlt : j < n
    · obtain ⟨t, ht⟩ : ∃ t, ts[j]? = some t := ⟨_, List.getElem?_eq_getElem (by rw [← HN.out]; exact hlt)⟩
      obtain ⟨g, off, vt, rfl, d1, hgw, hX⟩ := HA.out wr hbr j t ht
      have C := Lib.hid (HC.out j t ht vt wr hX)
      have hj1 : (j : Int) < (n : Int) := by omega
      have HXt := Lib.hid hX
      obtain ⟨gt, ct, rfl, _⟩ := hX.slice
      have HFt := Lib.hid (take_flat ht)
      have hfle := HFl.out (j + 1)
      have hpE := HP.out
      rw [HFt.out, List.length_append] at hfle
      have hgr : g < wr.heap.size := Nat.lt_of_lt_of_le hgw hbr.size
      by_cases he : (chkX t).2 = 0
      · have HK2 := Lib.hid (HK.out.trans (allX_step ht he))
        have hne : t ≠ [] := (chkX_tree he).2.1
        rw [(chkX_ok he).1] at C
        obtain ⟨tl, htl⟩ : ∃ tl, t.length = tl := ⟨_, rfl⟩
        have HTL := Lib.hid htl
        rw [htl] at d1 C HXt hfle
        obtain ⟨g2, o2, rfl⟩ := cap_in HXt.out (i := 0) (by rw [← htl]; exact List.length_pos_iff.2 hne)
        have HPt : Hid (1 + (ts.take (j + 1)).flatten.length = p + tl) := Lib.hid (by have := HP.out; rw [HFt.out, List.length_append, HTL.out]; omega)
        have hpt : p + tl ≤ 100001 := by omega
        clear ht htl hfle hne he hpE
        go_wp2_with fail
        refine C.out.mono ?_
        rintro e w1 ⟨rfl, hb1⟩
        have hB1 := below_step hbr hb1
        have d2 := (hb1.cell (p := ⟨g, off + j, none⟩) hgr).trans d1
        have HX1 := Lib.hid (xs_cells HXt.out hb1)
        have HO1 := Lib.hid (own_below HO.out hb1)
        clear d1
        go_wp2_with (at_builtin; refine wpList_append_own _ rfl _ _ 22 rfl w.heap.size 28 i0 zeroNx 8 80 Tryz.underlying22 hi hz0 hz1 hz2 rfl (by decide) _ _ _ rfl HO1.out ⟨g2, o2, none⟩ tl ct (xcs t) rfl (by rw [xcs_len, HTL.out]) HX1.out (one_xcs t) (by unfold maxLen; omega) (by omega) hB1.size ?_; intro v' w4 hown4 hgrow4 _; obtain ⟨b4, cb4, rfl⟩ := own_lenR hown4; have hb4 : Below w.heap.size w w4 := hB1.grown hgrow4 hB1.size (fun i hi => (HO1.out.lt i hi).1); have HO4 : Hid (w4.ownsRow w.heap.size 28 8 (.slice b4 (p + tl) cb4) (p + tl) (xcs (rootX n ⟨k0, c0, n0, s0, p0, f0, t0, o0⟩ :: (ts.take (j + 1)).flatten))) := Lib.hid (by rw [HFt.out, ← List.cons_append, xcs_app]; exact hown4); clear hown4 hgrow4)
        exact ⟨⟨j + 1, p + tl, b4, cb4, by go_num, by omega, rfl, HPt, HK2, HO4, hb4⟩, by simp [intOf]; omega⟩
      · have HS := Lib.hid (HK.out.trans (allX_stop ht he))
        obtain ⟨⟨z1, er⟩, hz⟩ : ∃ r, chkX t = r := ⟨_, rfl⟩
        rw [hz] at C HS he
        simp only at C HS he
        have HW := Lib.hid ((HBad.out (by rw [HS.out]; exact he)).trans (by rw [HS.out]))
        have hne : (er != 0) = true := bne_iff_ne.2 he
        obtain ⟨tl, htl⟩ : ∃ tl, t.length = tl := ⟨_, rfl⟩
        rw [htl] at d1 C
        clear ht htl hfle he hz hpE HXt
        go_wp2_with fail
        refine C.out.mono ?_
        rintro e w1 ⟨rfl, hb1⟩
        go_wp2_with fail
        go_ret2
        exact chgV_err HW.out (below_step hbr hb1)
    · obtain rfl : j = n := by omega
      have hfl : ts.take j = ts := List.take_of_length_le (Nat.le_of_eq HN.out.symm)
      have h0 : allX ts = 0 := by rw [HK.out, List.drop_of_length_le (Nat.le_of_eq HN.out.symm)]; rfl
      have HO5 : Hid (wr.ownsRow w.heap.size 28 8 (.slice b p cb) p (xcs (listL10 ts ⟨k0, c0, n0, s0, p0, f0, t0, o0⟩))) := Lib.hid (by have := HO.out; rw [hfl, ← HL0.out] at this; exact this)
      have HLp : Hid ((listL10 ts ⟨k0, c0, n0, s0, p0, f0, t0, o0⟩).length = p) := Lib.hid (by have := HP.out; rw [hfl] at this; rw [HL0.out, List.length_cons]; omega)
      have hm5 := Lib.hid (CM.out _ wr (xs_own HO5.out HLp.out))
      have HI2 := Lib.hid (HIn.out h0)
      clear hfl HO h0
      obtain ⟨z, hz⟩ : ∃ z, (chkX (listL10 ts ⟨k0, c0, n0, s0, p0, f0, t0, o0⟩)).2 = z := ⟨_, rfl⟩
      rw [hz] at hm5 HI2
      clear hz
      by_cases hz : z = 0
      · subst hz
        have HW := Lib.hid (HI2.out.trans (if_neg (by simp)))
        rw [if_neg (by simp)] at hm5
        go_wp2_with fail
        refine hm5.out.mono ?_
        rintro e' w6 ⟨rfl, hb6⟩
        go_wp2_with fail
        go_ret2
        refine ⟨b, cb, by rw [HW.out]; simp only [HLp.out]; rfl, Lib.hid ?_, below_step hbr hb6⟩
        rw [HW.out]; simp only [HLp.out]
        exact own_below HO5.out hb6
      · have HW := Lib.hid (HI2.out.trans (if_pos hz))
        rw [if_pos hz] at hm5
        go_wp2_with fail
        refine hm5.out.mono ?_
        rintro e' w6 ⟨rfl, hb6⟩
        go_wp2_with fail
        go_ret2
        exact chgV_err HW.out (below_step hbr hb6)


/-- What both Kids return. -/
def KidQ (ks : List Nat) (kn : Nat) (er : Int) (W : World) (e : Ending) (W' : World) : Prop := ∃ a c, e = .returned (.tuple #[.slice a kn c, .int .i64 er]) ∧ Hid (NatAt W' (.slice a kn c) ks) ∧ Below W.heap.size W W'
theorem kidQ_of {r : List Nat × Int} {ks : List Nat} {er : Int} {kn : Nat} (h : r = (ks, er)) (hn : ks.length = kn) {W : World} {e : Ending} {W' : World} (hc : KidV r W e W') : KidQ ks kn er W e W' := by
  subst h
  subst hn
  obtain ⟨a, c, h1, h2, h3⟩ := hc
  exact ⟨a, c, h1, Lib.hid (nat_row h2.out rfl), h3⟩
theorem ls_take {w : World} {a : Option Addr} {n c k : Nat} {ls : List (List Sx)} (h : LsAt w (.slice a n c) ls) (hk : k ≤ n) (c2 : Nat) : LsAt w (.slice a k c2) (ls.take k) := by
  obtain ⟨a', n', c', e, hn, h⟩ := h
  obtain ⟨rfl, rfl, rfl⟩ := Value.slice.inj e
  refine ⟨a, k, c2, rfl, by rw [List.length_take]; omega, ?_⟩
  rcases h with rfl | ⟨g, off, rfl, hg, hc⟩
  · left; simp
  · right
    refine ⟨g, off, rfl, hg, fun j t hj => hc j t ?_⟩
    have hjk : j < k := by have := (List.getElem?_eq_some_iff.1 hj).1; rw [List.length_take] at this; omega
    rw [List.getElem?_take_of_lt hjk] at hj; exact hj
theorem subR_sm {l : List Sx} {i : Int} (h : SmX l) : SmX (subR l i).1 := by
  unfold subR; split
  · intro x hx; cases hx
  · exact h.sub _
theorem subR_in' {l : List Sx} {i : Int} (h : InX l) : InX (subR l i).1 := by
  unfold subR; split
  · intro x hx; cases hx
  · exact h.sub _
theorem subR_le {l : List Sx} {i : Int} : (subR l i).1.length ≤ l.length := by
  unfold subR; split
  · exact Nat.zero_le _
  · unfold subX segX; rw [List.length_take, List.length_drop]; omega
theorem putX_le (l s : List Sx) (i : Int) : (putX l i s).1.length ≤ 1000000 := by
  unfold putX
  split
  · exact Nat.zero_le _
  · split
    · exact Nat.zero_le _
    · split
      · exact Nat.zero_le _
      · split
        · exact Nat.zero_le _
        · rename_i h
          have := (chkX_tree (Decidable.not_not.1 h)).2.2; simp only; omega
theorem listX_le (ts : List (List Sx)) (x : Sx) : (listX ts x).1.length ≤ 1000000 := by
  unfold listX
  split
  · exact Nat.zero_le _
  · split
    · exact Nat.zero_le _
    · rename_i h
      have := (chkX_tree (Decidable.not_not.1 h)).2.2; simp only; omega
theorem kidR_le (l : List Sx) (i : Int) : (kidR l i).1.length ≤ 1000000 := by
  unfold kidR
  split
  · exact Nat.zero_le _
  · rename_i h
    obtain ⟨h1, h2, h3⟩ := askX_0 (Decidable.not_not.1 h)
    have hT := chkX_tr h1
    have hpk : i.toNat < (kidsX l).length := by rw [kidsX_len]; omega
    have h4 := hT.pos_mono hpk (d := cnt (kidsX l) i.toNat) (k := 0) (by omega)
    rw [Nat.zero_add, hT.pos_end hpk] at h4
    have h5 := (endX h1 (i := i.toNat) (by omega)).2
    have h6 := (chkX_tree h1).2.2
    simp only
    rw [kidsN_len]; omega
def zeroS : Sx := ⟨0, 0, 0, [], [], 0, 0, 0⟩
/-- The node whose scopes, span and origin the list gets. -/
def likeX (s : List Sx) : Sx := s.getD 0 zeroS
structure GivesPa (n m : Nat) (av bv : Option Addr) (cv cs : Nat) (l s : List Sx) (i : Int) (z ez : Int) (ks : List Nat) (kn : Nat) (ke : Int) (y : List Sx) (k : Nat) (ey : Int) (P : List Sx) (np : Nat) (ep : Int) (Q : List Sx) (nq : Nat) (eq : Int) (w : World) : Prop where
  s1 : ∀ W, Below w.heap.size w W → Calls Tryz.prog 14 #[.slice av n cv, .int .i64 i] W fun e w' => e = .returned (.tuple #[.int .i64 z, .int .i64 ez]) ∧ Below W.heap.size W w'
  s2 : ∀ W, Below w.heap.size w W → Calls Tryz.prog 15 #[.slice av n cv, .int .i64 i] W fun e w' => e = .returned (.tuple #[.int .i64 z, .int .i64 ez]) ∧ Below W.heap.size W w'
  k1 : ∀ W, Below w.heap.size w W → Calls Tryz.prog 16 #[.slice av n cv, .int .i64 i] W (KidQ ks kn ke W)
  k2 : ∀ W, Below w.heap.size w W → Calls Tryz.prog 17 #[.slice av n cv, .int .i64 i] W (KidQ ks kn ke W)
  b1 : ∀ W, Below w.heap.size w W → Calls Tryz.prog 19 #[.slice av n cv, .int .i64 i] W (ChgR y k ey W)
  b2 : ∀ W, Below w.heap.size w W → Calls Tryz.prog 20 #[.slice av n cv, .int .i64 i] W (ChgR y k ey W)
  p1 : ∀ W, Below w.heap.size w W → Calls Tryz.prog 21 #[.slice av n cv, .int .i64 i, .slice bv m cs] W (ChgR P np ep W)
  p2 : ∀ W, Below w.heap.size w W → Calls Tryz.prog 22 #[.slice av n cv, .int .i64 i, .slice bv m cs] W (ChgR P np ep W)
  l1 : ∀ W vv, Below w.heap.size w W → LsAt W vv ([l, s, y].take (1 + k % 3)) → Calls Tryz.prog 24 #[vv, sxA (likeX s)] W (ChgR Q nq eq W)
  l2 : ∀ W vv, Below w.heap.size w W → LsAt W vv ([l, s, y].take (1 + k % 3)) → Calls Tryz.prog 25 #[vv, sxA (likeX s)] W (ChgR Q nq eq W)
  sz : ks.length ≤ 1000000 ∧ y.length ≤ 1000000 ∧ P.length ≤ 1000000 ∧ Q.length ≤ 1000000 ∧ k ≤ 2010
theorem givesPa {n m : Nat} {av bv : Option Addr} {cv cs : Nat} {l s : List Sx} {i : Int} {w : World} (h : XsAt w (.slice av n cv) l) (h2 : XsAt w (.slice bv m cs) s) (hs : SmX l) (hi : InX l) (hs2 : SmX s) (hi2 : InX s) (T : STabs w) (hl : l.length ≤ 2010) (hl2 : s.length ≤ 2010) :
    GivesPa n m av bv cv cs l s i (sizeX l i).1 (sizeX l i).2 (kidR l i).1 (kidR l i).1.length (kidR l i).2 (subR l i).1 (subR l i).1.length (subR l i).2 (putX l i s).1 (putX l i s).1.length (putX l i s).2 (listX ([l, s, (subR l i).1].take (1 + (subR l i).1.length % 3)) (likeX s)).1 (listX ([l, s, (subR l i).1].take (1 + (subR l i).1.length % 3)) (likeX s)).1.length (listX ([l, s, (subR l i).1].take (1 + (subR l i).1.length % 3)) (likeX s)).2 w := by
  have hv : ∀ W, Below w.heap.size w W → XsAt W (.slice av n cv) l := fun W hW => h.below hW (Nat.le_refl _)
  have hu : ∀ W, Below w.heap.size w W → XsAt W (.slice bv m cs) s := fun W hW => h2.below hW (Nat.le_refl _)
  have hle := subR_le (l := l) (i := i)
  have hps : ∀ t ∈ [l, s, (subR l i).1].take (1 + (subR l i).1.length % 3), SmX t ∧ InX t := fun t ht => by
    have := List.mem_of_mem_take ht
    simp only [List.mem_cons, List.not_mem_nil, or_false] at this
    rcases this with rfl | rfl | rfl
    · exact ⟨hs, hi⟩
    · exact ⟨hs2, hi2⟩
    · exact ⟨subR_sm hs, subR_in' hi⟩
  have hlk : (likeX s).p.length ≤ 100000 := by
    unfold likeX
    cases s with
    | nil => exact Nat.zero_le _
    | cons a t => exact (hs2 a (by simp)).2
  have hpl : ([l, s, (subR l i).1].take (1 + (subR l i).1.length % 3)).length ≤ 3000 := by rw [List.length_take]; simp only [List.length_cons, List.length_nil]; omega
  have hfl : ([l, s, (subR l i).1].take (1 + (subR l i).1.length % 3)).flatten.length ≤ 100000 := by
    refine Nat.le_trans (flat_le _ _) ?_
    simp only [List.flatten_cons, List.flatten_nil, List.length_append, List.length_nil]; omega
  refine ⟨?_, ?_, ?_, ?_, ?_, ?_, ?_, ?_, ?_, ?_, ?_⟩
  · exact fun W hW => Size_any _ l i W (hv W hW) hs hi (T.below hW)
  · exact fun W hW => rSize_any _ l i W (hv W hW) hs hi
  · exact fun W hW => (Kids_any _ l i W (hv W hW) hs hi (T.below hW)).mono fun e W' hc => kidQ_of rfl rfl hc
  · exact fun W hW => (rKids_any _ l i W (hv W hW) hs hi).mono fun e W' hc => kidQ_of rfl rfl hc
  · exact fun W hW => (Sub_any _ l i W (hv W hW) hs hi (T.below hW)).mono fun e W' hc => chgR_of rfl rfl hc
  · exact fun W hW => (rSub_any _ l i W (hv W hW) hs hi).mono fun e W' hc => chgR_of rfl rfl hc
  · exact fun W hW => (Put_any _ _ l s i W (hv W hW) (hu W hW) hs hi hs2 hi2 (T.below hW) (by omega)).mono fun e W' hc => chgR_of rfl rfl hc
  · exact fun W hW => (rPut_any _ _ l s i W (hv W hW) (hu W hW) hs hi hs2 hi2).mono fun e W' hc => chgR_of rfl rfl hc
  · exact fun W vv hW hls => (Listx_any vv _ (likeX s) W hls hps hlk (T.below hW) hpl).mono fun e W' hc => chgR_of rfl rfl hc
  · exact fun W vv hW hls => (rList_any vv _ (likeX s) W hls hps hlk hpl hfl).mono fun e W' hc => chgR_of rfl rfl hc
  · exact ⟨kidR_le l i, by omega, putX_le l s i, listX_le _ _, by omega⟩

end Go.Proofs.YtbmgpenllpbioaaGreatDoor
