/- Texts of syntax, alike syntax, and their references. (Merged by tools/domergetx.sh.) -/
import Derived.Test.YtbmgpenllpbioaaGreatDoorYi
import Derived.Test.YtbmgpenllpbioaaGreatDoorYt
import Derived.Test.YtbmgpenllpbioaaGreatDoorYtl
import Derived.Test.YtbmgpenllpbioaaGreatDoorZr
import Derived.Test.YtbmgpenllpbioaaGreatDoorYz
import Derived.Test.YtbmgpenllpbioaaGreatDoorYck
import Derived.BigQuiet
import Derived.Test.YtbmgpenllpbioaaGreatDoorYu
import Derived.Deep.RegionHeld3
namespace Go.Proofs.YtbmgpenllpbioaaGreatDoor
open Go.RowKit Go.PlainAid

theorem errX_shallow {x : Sx} {d d' : Int} (h : errX x d = 0) (hd : d' ≤ d) : errX x d' = 0 := by
  unfold errX at *
  split at h
  · cases h
  · rename_i h1
    rw [if_neg h1]
    split at h
    · cases h
    · rename_i h2
      rw [if_neg (by omega)]; exact h
/-- What is popped within a subtree. -/
theorem popZ_appX (s r : List Nat) : popZ (s ++ r) = if popZ s = [] then popZ r else popZ s ++ r := by
  induction s with
  | nil => rfl
  | cons a s ih =>
    by_cases h : a = 0
    · subst h
      have e1 : popZ (0 :: s) = popZ s := rfl
      have e2 : popZ (0 :: s ++ r) = popZ (s ++ r) := rfl
      rw [e1, e2]; exact ih
    · have e : ∀ l : List Nat, popZ (a :: l) = a :: l := fun l => by unfold popZ; rw [List.dropWhile_cons, if_neg (by simpa using h)]
      rw [List.cons_append, e, e, if_neg (by simp)]; rfl
/-- A walk that goes on behind a subtree, and the walk of this subtree alone. -/
theorem chkG_sub : ∀ (s rest : List Sx) (σ r : List Nat) (i k : Nat), r ≠ [] → stackN (popZ (σ ++ [0])) (kidsX s) = some [] → (chkG (popZ (σ ++ r)) i (s ++ rest)).2 = 0 → chkG (popZ (σ ++ [0])) k s = (0, 0) := by
  intro s
  induction s with
  | nil =>
    intro rest σ r i k _ h _
    have h' : popZ (σ ++ [0]) = [] := Option.some.inj h
    rw [h', chkG, if_pos rfl]
  | cons x s ih =>
    intro rest σ r i k hr h hg
    rw [popZ_appX] at h hg ⊢
    split at h
    · cases h
    · rename_i hs
      rw [if_neg hs] at hg ⊢
      cases hp : popZ σ with
      | nil => exact absurd hp hs
      | cons b τ =>
        rw [hp] at h hg
        have h' : stackN (popZ ((x.c.toNat :: (b - 1) :: τ) ++ [0])) (kidsX s) = some [] := h
        have hg' : (chkG (b :: (τ ++ r)) i (x :: (s ++ rest))).2 = 0 := hg
        rw [chkG, if_neg (by simp)] at hg'
        split at hg'
        · rename_i hE; exact absurd hg' hE
        · rename_i hE
          have hE0 : errX x ((((b :: τ) ++ r).length : Int) - 1) = 0 := Decidable.not_not.1 hE
          have hrl := List.length_pos_iff.2 hr
          have hE1 : errX x ((((b :: τ) ++ [0]).length : Int) - 1) = 0 := errX_shallow hE0 (by rw [List.length_append, List.length_append]; simp only [List.length_cons, List.length_nil]; omega)
          rw [chkG, if_neg (by simp), if_neg (by rw [hE1]; simp)]
          exact ih rest (x.c.toNat :: (b - 1) :: τ) r (i + 1) (k + 1) hr h' hg'
/-- A walk as far as some nodes. -/
theorem chkG_at : ∀ (p rest : List Sx) (st : List Nat) (i : Nat), rest ≠ [] → topN st → (chkG st i (p ++ rest)).2 = 0 → ∃ st' i', topN st' ∧ st' ≠ [] ∧ (chkG st' i' rest).2 = 0 := by
  intro p
  induction p with
  | nil =>
    intro rest st i hr ht h
    refine ⟨st, i, ht, ?_, h⟩
    rintro rfl
    cases rest with
    | nil => exact hr rfl
    | cons y s => rw [List.nil_append, chkG, if_pos rfl] at h; cases h
  | cons x p ih =>
    intro rest st i hr ht h
    rw [List.cons_append, chkG] at h
    split at h
    · cases h
    · split at h
      · rename_i hE; exact absurd h hE
      · exact ih rest _ _ hr (pushN_top _ _) h
theorem segX_eq (l : List Sx) (i j : Nat) : segX l i j = (l.take j).drop i := by unfold segX; rw [List.drop_take]
theorem subX_split {l : List Sx} (h : (chkX l).2 = 0) {i : Nat} (hi : i < l.length) : l = l.take i ++ (subX l i ++ l.drop (endN (kidsX l) i)) := by
  obtain ⟨e1, e2⟩ := endX h hi
  obtain ⟨q, hq⟩ : ∃ q, endN (kidsX l) i = q := ⟨_, rfl⟩
  unfold subX segX
  rw [hq] at e1 e2 ⊢
  have h1 : l.drop q = (l.drop i).drop (q - i) := by rw [List.drop_drop, show i + (q - i) = q by omega]
  rw [h1, List.take_append_drop, List.take_append_drop]
theorem subX_len {l : List Sx} (h : (chkX l).2 = 0) {i : Nat} (hi : i < l.length) : (subX l i).length = endN (kidsX l) i - i := by
  unfold subX; exact segX_len (endX h hi).2
theorem subX_ne {l : List Sx} (h : (chkX l).2 = 0) {i : Nat} (hi : i < l.length) : subX l i ≠ [] := by
  intro e
  have h1 := subX_len h hi
  have h2 := (endX h hi).1
  rw [e] at h1; simp at h1; omega
/-- A subtree of syntax is syntax. -/
theorem chkX_sub {l : List Sx} (h : (chkX l).2 = 0) {i : Nat} (hi : i < l.length) : (chkX (subX l i)).2 = 0 := by
  have hT := chkX_tr h
  obtain ⟨h0, t2, t3⟩ := chkX_one h
  obtain ⟨e1, e2⟩ := endX h hi
  obtain ⟨s1, _⟩ := hT.sub (i := i) (by rw [kidsX_len]; exact hi)
  have hsplit := subX_split h hi
  have hsl := subX_len h hi
  have hne := subX_ne h hi
  obtain ⟨q, hq⟩ : ∃ q, endN (kidsX l) i = q := ⟨_, rfl⟩
  have hks : Tr (kidsX (subX l i)) := by unfold subX; rw [segX_eq, kidsX_drop, kidsX_take]; exact s1
  rw [hq] at e1 e2 hsl hsplit
  rw [h0, hsplit] at h
  obtain ⟨st, i', g1, g2, g3⟩ := chkG_at (l.take i) (subX l i ++ l.drop q) [1] 0 (by simp [hne]) (by intro a ha; cases ha; decide) h
  have htop : topN [1] := by intro a ha; cases ha; decide
  have hst := (stack_eat (kidsX (subX l i)) [1] htop).2 hks
  unfold chkX
  rw [if_neg hne, if_neg (by omega)]
  cases hss : subX l i with
  | nil => exact absurd hss hne
  | cons x s =>
    rw [hss] at g3 hst
    cases st with
    | nil => exact absurd rfl g2
    | cons a r =>
      have h' : stackN (popZ ([x.c.toNat] ++ [0])) (kidsX s) = some [] := hst
      rw [List.cons_append, chkG, if_neg (by simp)] at g3
      split at g3
      · rename_i hE; exact absurd g3 hE
      · rename_i hE
        have hE0 : errX x (((a :: r).length : Int) - 1) = 0 := Decidable.not_not.1 hE
        have hE1 : errX x ((([1] : List Nat).length : Int) - 1) = 0 := errX_shallow hE0 (by simp only [List.length_cons, List.length_nil]; omega)
        rw [chkG, if_neg (by simp), if_neg (by rw [hE1]; simp)]
        exact congrArg Prod.snd (chkG_sub s (l.drop q) [x.c.toNat] ((a - 1) :: r) (i' + 1) 1 (by simp) h' g3)
theorem askX_in {l : List Sx} (h : (chkX l).2 = 0) {i : Nat} (hi : i < l.length) : askX l (i : Int) = 0 := by
  unfold askX; rw [if_neg (by simpa using h), if_neg (by omega)]
/-- Put of the own subtree. -/
theorem putL_own {l : List Sx} (h : (chkX l).2 = 0) {i : Nat} (hi : i < l.length) : putL l i (subX l i) = l := (subX_split h hi).symm
theorem putX_own {l : List Sx} (h : (chkX l).2 = 0) {i : Nat} (hi : i < l.length) : putX l (i : Int) (subX l i) = (l, 0) := by
  unfold putX
  rw [if_neg (by simpa using h), if_neg (by simpa using chkX_sub h hi), if_neg (by simpa using askX_in h hi), Int.toNat_natCast, putL_own h hi, if_neg (by simpa using h)]
/-- What is put stands there. -/
theorem putL_end {l s : List Sx} (h : (chkX l).2 = 0) (hs : (chkX s).2 = 0) {i : Nat} (hi : i < l.length) : endN (kidsX (putL l i s)) i = i + s.length := by
  obtain ⟨e1, e2⟩ := endX h hi
  obtain ⟨E, hE⟩ : ∃ E, endN (kidsX l) i = E := ⟨_, rfl⟩
  rw [hE] at e1 e2
  have hp : putL l i s = l.take i ++ (s ++ l.drop E) := by unfold putL; rw [hE]
  have hd : (kidsX (putL l i s)).drop i = kidsX s ++ kidsX (l.drop E) := by
    rw [hp, kidsX_app, List.drop_left' (by rw [kidsX_len, List.length_take]; omega), kidsX_app]
  have hr : eat ((kidsX (putL l i s)).drop i) 1 = some (kidsX (l.drop E)) := by
    rw [hd, eat_behind _ _ _ _ (chkX_tr hs)]; rfl
  have hlen : (putL l i s).length = i + s.length + (l.length - E) := by rw [hp, List.length_append, List.length_append, List.length_take, List.length_drop]; omega
  obtain ⟨h1, h2, h3⟩ := endN_of (ks := kidsX (putL l i s)) (p := i) (by rw [kidsX_len]; omega) hr
  have h4 := congrArg List.length h3
  rw [List.length_drop, kidsX_len, kidsX_len, List.length_drop] at h4
  rw [kidsX_len] at h2
  omega
theorem putL_sub {l s : List Sx} (h : (chkX l).2 = 0) (hs : (chkX s).2 = 0) {i : Nat} (hi : i < l.length) : subX (putL l i s) i = s := by
  unfold subX
  rw [putL_end h hs hi]
  unfold segX putL
  rw [List.drop_left' (by rw [List.length_take]; omega), show i + s.length - i = s.length by omega, List.take_left]
theorem putL_back {l s : List Sx} (h : (chkX l).2 = 0) (hs : (chkX s).2 = 0) {i : Nat} (hi : i < l.length) : putL (putL l i s) i (subX l i) = l := by
  have h1 := putL_end h hs hi
  obtain ⟨E, hE⟩ : ∃ E, endN (kidsX l) i = E := ⟨_, rfl⟩
  have hsp := subX_split h hi
  have hti : (l.take i).length = i := by rw [List.length_take]; omega
  unfold putL at h1 ⊢
  rw [h1]
  rw [hE] at hsp ⊢
  have h2 : (l.take i ++ (s ++ l.drop E)).drop (i + s.length) = l.drop E := by rw [← List.append_assoc, List.drop_left' (by rw [List.length_append, hti])]
  rw [List.take_left' hti, h2, ← hsp]
theorem putX_len {l s : List Sx} {i : Nat} (hi : i < l.length) : i < (putL l i s).length ∨ s = [] := by
  cases s with
  | nil => exact .inr rfl
  | cons a s => left; unfold putL; rw [List.length_append, List.length_take]; simp; omega
theorem putX_ok {l s : List Sx} {i : Nat} (h : (putX l (i : Int) s).2 = 0) : putX l (i : Int) s = (putL l i s, 0) ∧ (chkX (putL l i s)).2 = 0 := by
  unfold putX at *
  by_cases h1 : (chkX l).2 = 0
  · by_cases h2 : (chkX s).2 = 0
    · by_cases h3 : askX l (i : Int) = 0
      · by_cases h4 : (chkX (putL l i s)).2 = 0
        · rw [if_neg (by simpa using h1), if_neg (by simpa using h2), if_neg (by simpa using h3), Int.toNat_natCast, if_neg (by simpa using h4)]; exact ⟨rfl, h4⟩
        · rw [if_neg (by simpa using h1), if_neg (by simpa using h2), if_neg (by simpa using h3), Int.toNat_natCast, if_pos h4] at h; exact absurd h h4
      · rw [if_neg (by simpa using h1), if_neg (by simpa using h2), if_pos h3] at h; exact absurd h h3
    · rw [if_neg (by simpa using h1), if_pos h2] at h; exact absurd h h2
  · rw [if_pos h1] at h; exact absurd h h1
theorem putX_back {l s : List Sx} (h : (chkX l).2 = 0) (hs : (chkX s).2 = 0) {i : Nat} (hi : i < l.length) (hp : (chkX (putL l i s)).2 = 0) : putX (putL l i s) (i : Int) (subX l i) = (l, 0) := by
  have hlt : i < (putL l i s).length := by
    rcases putX_len (s := s) hi with h1 | h1
    · exact h1
    · rw [h1] at hs; cases hs
  unfold putX
  rw [if_neg (by simpa using hp), if_neg (by simpa using chkX_sub h hi), if_neg (by simpa using askX_in hp hlt), Int.toNat_natCast, putL_back h hs hi, if_neg (by simpa using h)]
theorem subR_in {l : List Sx} (h : (chkX l).2 = 0) {i : Nat} (hi : i < l.length) : subR l (i : Int) = (subX l i, 0) := by
  unfold subR; rw [if_neg (by simpa using askX_in h hi), Int.toNat_natCast]

/-- A list of parts: its root has what a node has beside. -/
def rootX (n : Nat) (x : Sx) : Sx := { k := 4, c := (n : Int), n := 0, s := [], p := x.p, f := x.f, t := x.t, o := x.o }
def listL10 (ts : List (List Sx)) (x : Sx) : List Sx := rootX ts.length x :: ts.flatten
def listX (ts : List (List Sx)) (x : Sx) : List Sx × Int :=
  if allX ts ≠ 0 then ([], allX ts) else if (chkX (listL10 ts x)).2 ≠ 0 then ([], (chkX (listL10 ts x)).2) else (listL10 ts x, 0)
theorem listX_long {ts : List (List Sx)} {x : Sx} (h : allX ts = 0) (hl : 2000 ≤ ts.flatten.length) : listX ts x = ([], 3) := by
  have h1 : (chkX (listL10 ts x)).2 = 3 := by
    unfold chkX listL10
    rw [if_neg (by simp), if_pos (by rw [List.length_cons]; omega)]
  unfold listX
  rw [if_neg (by simpa using h), if_pos (by rw [h1]; simp), h1]
theorem allX_0 {ts : List (List Sx)} (h : allX ts = 0) : ∀ t ∈ ts, (chkX t).2 = 0 := by
  induction ts with
  | nil => intro t ht; cases ht
  | cons y ts ih =>
    rw [allX] at h
    split at h
    · rename_i h1; exact absurd h h1
    · rename_i h1
      intro t ht
      rcases List.mem_cons.1 ht with e | e
      · rw [e]; exact Decidable.not_not.1 h1
      · exact ih h t e
theorem allX_all {ts : List (List Sx)} (h : ∀ t ∈ ts, (chkX t).2 = 0) : allX ts = 0 := by
  induction ts with
  | nil => rfl
  | cons y ts ih => rw [allX, if_neg (by simpa using h y (by simp))]; exact ih fun t ht => h t (by simp [ht])
/-- The subtrees of the first children. -/
def partsX (l : List Sx) (i m : Nat) : List (List Sx) := (List.range m).map fun k => subX l (posK (kidsX l) i k)
theorem partsX_succ (l : List Sx) (i m : Nat) : partsX l i (m + 1) = partsX l i m ++ [subX l (posK (kidsX l) i m)] := by
  unfold partsX; rw [List.range_succ, List.map_append]; rfl
theorem partsX_len (l : List Sx) (i m : Nat) : (partsX l i m).length = m := by unfold partsX; rw [List.length_map, List.length_range]
theorem partsX_flat {l : List Sx} (hT : Tr (kidsX l)) {i : Nat} (hi : i < l.length) : ∀ m, m ≤ cnt (kidsX l) i → (partsX l i m).flatten = (l.take (posK (kidsX l) i m)).drop (i + 1) := by
  have hil : i < (kidsX l).length := by rw [kidsX_len]; exact hi
  intro m
  induction m with
  | zero => intro _; rw [posK_start hil, List.drop_of_length_le (by rw [List.length_take]; omega)]; rfl
  | succ m ih =>
    intro hm
    obtain ⟨p1, p2, p3⟩ := hT.pos_step hil (k := m) (by omega)
    have p4 := hT.pos_next hil (k := m) (by omega)
    have p5 := (hT.end_bd p2).2
    rw [p3, kidsX_len] at p5
    rw [partsX_succ, List.flatten_append, ih (by omega), List.flatten_singleton]
    unfold subX
    rw [p3, segX_eq]
    obtain ⟨a, ha⟩ : ∃ a, posK (kidsX l) i m = a := ⟨_, rfl⟩
    obtain ⟨b, hb⟩ : ∃ b, posK (kidsX l) i (m + 1) = b := ⟨_, rfl⟩
    rw [ha] at p1 p4 ⊢
    rw [hb] at p4 p5 ⊢
    have h1 : l.take b = l.take a ++ (l.take b).drop a := by
      have := (List.take_append_drop a (l.take b)).symm
      rw [List.take_take, Nat.min_eq_left (Nat.le_of_lt p4)] at this; exact this
    conv => rhs; rw [h1]
    rw [List.drop_append_of_le_length (by rw [List.length_take]; omega)]
theorem kidsN_in {l : List Sx} (h : (chkX l).2 = 0) {i k : Nat} (hi : i < l.length) (hk : k < cnt (kidsX l) i) : posK (kidsX l) i k < l.length := by
  have := ((chkX_tr h).pos_step (i := i) (k := k) (by rw [kidsX_len]; exact hi) hk).2.1
  rwa [kidsX_len] at this
/-- The subtrees of the children of a list make up the list. -/
theorem list_own {l : List Sx} (h : (chkX l).2 = 0) {i : Nat} {x : Sx} (hx : l[i]? = some x) (h4 : x.k = 4) : listX (partsX l i (cnt (kidsX l) i)) x = (subX l i, 0) := by
  have hT := chkX_tr h
  obtain ⟨hi, hxe⟩ := List.getElem?_eq_some_iff.1 hx
  have hil : i < (kidsX l).length := by rw [kidsX_len]; exact hi
  obtain ⟨e1, e2⟩ := endX h hi
  have hk0 := chkX_kids h x (List.mem_of_getElem? hx)
  have hcnt : cnt (kidsX l) i = x.c.toNat := cnt_of (kidsX_at hx)
  have hok := ((chkX_ok h).2 x (List.mem_of_getElem? hx)).1
  unfold kindX at hok
  rw [if_neg (by omega), if_neg (by omega), if_pos h4] at hok
  simp only [Bool.and_eq_true, decide_eq_true_eq] at hok
  have hL : listL10 (partsX l i (cnt (kidsX l) i)) x = subX l i := by
    unfold listL10
    rw [partsX_flat hT hi _ (Nat.le_refl _), hT.pos_end hil, partsX_len, hcnt]
    unfold subX
    rw [segX_eq]
    obtain ⟨q, hq⟩ : ∃ q, endN (kidsX l) i = q := ⟨_, rfl⟩
    rw [hq] at e1 e2 ⊢
    have hgi : (l.take q)[i]? = some x := by rw [List.getElem?_take, if_pos e1, hx]
    obtain ⟨hil2, hxe2⟩ := List.getElem?_eq_some_iff.1 hgi
    rw [List.drop_eq_getElem_cons hil2, hxe2]
    congr 1
    obtain ⟨k, c, n, s, p, f, t, o⟩ := x
    simp only at hok h4 hk0
    obtain ⟨⟨_, rfl⟩, rfl⟩ := hok
    subst h4
    unfold rootX
    simp only
    rw [Int.toNat_of_nonneg hk0]
  have ha : allX (partsX l i (cnt (kidsX l) i)) = 0 := allX_all fun t ht => by
    unfold partsX at ht
    obtain ⟨k, hk, rfl⟩ := List.mem_map.1 ht
    exact chkX_sub h (kidsN_in h hi (List.mem_range.1 hk))
  have hs := chkX_sub h hi
  unfold listX
  rw [hL, if_neg (by simpa using ha), if_neg (by simpa using hs)]


/-- The texts of some nodes, one behind the other, with a blank between them. -/
def joinX (T : Nat → List UInt8 × Int) : List Nat → Bool → List UInt8 → List UInt8 × Int
  | [], _, out => (out, 0)
  | k :: ks, first, out => if (T k).2 ≠ 0 then ([], (T k).2) else joinX T ks false ((if first then out else out ++ [32]) ++ (T k).1)
def txtF : Nat → List Sx → Nat → List UInt8 × Int
  | 0, _, _ => ([], 0)
  | f + 1, l, i => match l[i]? with
    | none => ([], 0)
    | some x => if x.k ≠ 4 then (if (leafS x).2 ≠ 0 then ([], (leafS x).2) else leafS x)
      else if (joinX (txtF f l) (kidsN (kidsX l) i) true [40]).2 ≠ 0 then ([], (joinX (txtF f l) (kidsN (kidsX l) i) true [40]).2) else ((joinX (txtF f l) (kidsN (kidsX l) i) true [40]).1 ++ [41], 0)
theorem txtF_leaf {f i : Nat} {l : List Sx} {x : Sx} (hx : l[i]? = some x) (h4 : x.k ≠ 4) : txtF (f + 1) l i = if (leafS x).2 ≠ 0 then ([], (leafS x).2) else leafS x := by
  rw [txtF, hx]; simp only; rw [if_pos h4]
theorem txtF_list {f i : Nat} {l : List Sx} {x : Sx} (hx : l[i]? = some x) (h4 : x.k = 4) : txtF (f + 1) l i = if (joinX (txtF f l) (kidsN (kidsX l) i) true [40]).2 ≠ 0 then ([], (joinX (txtF f l) (kidsN (kidsX l) i) true [40]).2) else ((joinX (txtF f l) (kidsN (kidsX l) i) true [40]).1 ++ [41], 0) := by
  rw [txtF, hx]; simp only; rw [if_neg (by simpa using h4)]
theorem joinX_app (T : Nat → List UInt8 × Int) : ∀ (ks : List Nat) (fl : Bool) (a b : List UInt8), (joinX T ks fl (a ++ b)).2 = (joinX T ks fl b).2 ∧ ((joinX T ks fl b).2 = 0 → (joinX T ks fl (a ++ b)).1 = a ++ (joinX T ks fl b).1) := by
  intro ks
  induction ks with
  | nil => intro fl a b; exact ⟨rfl, fun _ => rfl⟩
  | cons k ks ih =>
    intro fl a b
    rw [joinX, joinX]
    by_cases h : (T k).2 ≠ 0
    · rw [if_pos h, if_pos h]; exact ⟨rfl, fun e => absurd e h⟩
    · rw [if_neg h, if_neg h]
      have e : (if fl then a ++ b else a ++ b ++ [32]) ++ (T k).1 = a ++ ((if fl then b else b ++ [32]) ++ (T k).1) := by
        cases fl <;> simp
      rw [e]
      exact ih false a _
theorem joinX_sep (T : Nat → List UInt8 × Int) (k : Nat) (ks : List Nat) (o : List UInt8) : joinX T (k :: ks) false o = joinX T (k :: ks) true (o ++ [32]) := by
  rw [joinX, joinX]; rfl
def sepX (a : List Nat) : List UInt8 := if a = [] then [] else [32]
/-- What follows the text of a node. -/
def tailX (a b : List Nat) : List UInt8 := List.replicate (a.length - b.length) 41 ++ sepX b
theorem popZ_le (d : List Nat) : (popZ d).length ≤ d.length := by
  have := (List.dropWhile_suffix (l := d) (p := fun x => x == 0)).length_le
  unfold popZ; exact this
theorem cntA_0 (a : List Nat) : cntA 0 a = popZ (decT a) := by unfold cntA; rw [if_pos rfl]
/-- The walk over the children of a list, when each child's walk is known. -/
theorem prF_kids {l : List Sx} (hT : Tr (kidsX l)) {i c : Nat} (hi : i < (kidsX l).length) (hc : cnt (kidsX l) i = c) (T : Nat → List UInt8 × Int) (d : List Nat)
    (IH : ∀ j, j < c → ∀ (a : List Nat) (out : List UInt8), prF (l.drop (posK (kidsX l) i j)) a out = if (T (posK (kidsX l) i j)).2 ≠ 0 then ([], (T (posK (kidsX l) i j)).2) else prF (l.drop (posK (kidsX l) i (j + 1))) (cntA 0 a) ((out ++ (T (posK (kidsX l) i j)).1) ++ tailX a (cntA 0 a))) :
    ∀ (m j : Nat) (o : List UInt8), j + (m + 1) = c → prF (l.drop (posK (kidsX l) i j)) ((m + 1) :: d) o =
      if (joinX T ((kidsN (kidsX l) i).drop j) true o).2 ≠ 0 then ([], (joinX T ((kidsN (kidsX l) i).drop j) true o).2) else prF (l.drop (endN (kidsX l) i)) (popZ d) (((joinX T ((kidsN (kidsX l) i).drop j) true o).1 ++ [41]) ++ (List.replicate (d.length - (popZ d).length) 41 ++ sepX (popZ d))) := by
  have hdr : ∀ j, j < c → (kidsN (kidsX l) i).drop j = posK (kidsX l) i j :: (kidsN (kidsX l) i).drop (j + 1) := fun j hj => by
    have h1 := kidsN_at (ks := kidsX l) (i := i) (k := j) (by omega)
    obtain ⟨h2, h3⟩ := List.getElem?_eq_some_iff.1 h1
    rw [List.drop_eq_getElem_cons h2, h3]
  intro m
  induction m with
  | zero =>
    intro j o hj
    have hend : posK (kidsX l) i (j + 1) = endN (kidsX l) i := by rw [show j + 1 = cnt (kidsX l) i by omega]; exact hT.pos_end hi
    have hnil : (kidsN (kidsX l) i).drop (j + 1) = [] := List.drop_of_length_le (by rw [kidsN_len]; omega)
    rw [IH j (by omega), hend, hdr j (by omega), hnil, joinX, joinX]
    have h0 : cntA 0 ((0 + 1) :: d) = popZ d := by rw [cntA_0]; exact popZ_0 d
    rw [h0]
    by_cases he : (T (posK (kidsX l) i j)).2 ≠ 0
    · rw [if_pos he, if_pos (by rw [if_pos he]; exact he), if_pos he]
    · rw [if_neg he, if_neg (by rw [if_neg he]; simp), if_neg he]
      have hle := popZ_le d
      have e1 : tailX ((0 + 1) :: d) (popZ d) = [41] ++ (List.replicate (d.length - (popZ d).length) 41 ++ sepX (popZ d)) := by
        unfold tailX
        rw [List.length_cons, show d.length + 1 - (popZ d).length = (d.length - (popZ d).length) + 1 by omega, List.replicate_succ]; rfl
      rw [e1]
      simp only [if_true, List.append_assoc]
  | succ m ih =>
    intro j o hj
    have h0 : cntA 0 ((m + 1 + 1) :: d) = (m + 1) :: d := by
      rw [cntA_0]
      show popZ ((m + 1) :: d) = _
      exact popZ_nz (by omega) d
    rw [IH j (by omega), hdr j (by omega), joinX, h0]
    by_cases he : (T (posK (kidsX l) i j)).2 ≠ 0
    · rw [if_pos he, if_pos he, if_pos he]
    · rw [if_neg he, if_neg he, if_pos rfl]
      have e1 : tailX ((m + 1 + 1) :: d) ((m + 1) :: d) = [32] := by
        unfold tailX sepX
        rw [List.length_cons, List.length_cons, Nat.sub_self, if_neg (by simp)]; rfl
      rw [e1, ih (j + 1) _ (by omega), hdr (j + 1) (by omega), joinX_sep]
/-- The walk over a subtree writes its text, and what follows it. -/
theorem prF_txt {l : List Sx} (h : (chkX l).2 = 0) : ∀ (f i : Nat) (a : List Nat) (out : List UInt8), i < l.length → endN (kidsX l) i - i ≤ f →
    prF (l.drop i) a out = if (txtF f l i).2 ≠ 0 then ([], (txtF f l i).2) else prF (l.drop (endN (kidsX l) i)) (cntA 0 a) ((out ++ (txtF f l i).1) ++ tailX a (cntA 0 a)) := by
  have hT := chkX_tr h
  intro f
  induction f with
  | zero => intro i a out hi hf; have := (endX h hi).1; omega
  | succ f ih =>
    intro i a out hi hf
    obtain ⟨x, hx⟩ : ∃ x, l[i]? = some x := ⟨_, List.getElem?_eq_getElem hi⟩
    have hil : i < (kidsX l).length := by rw [kidsX_len]; exact hi
    have hcnt : cnt (kidsX l) i = x.c.toNat := cnt_of (kidsX_at hx)
    have hx0 := chkX_kids h x (List.mem_of_getElem? hx)
    have hk := ((chkX_ok h).2 x (List.mem_of_getElem? hx)).1
    have hdl : l.drop i = x :: l.drop (i + 1) := by
      obtain ⟨h1, h2⟩ := List.getElem?_eq_some_iff.1 hx
      rw [List.drop_eq_getElem_cons h1, h2]
    rw [hdl, prF]
    by_cases hc : 0 < x.c
    · have h4 : x.k = 4 := by
        unfold kindX at hk
        split at hk
        · simp only [Bool.and_eq_true, decide_eq_true_eq] at hk; omega
        · split at hk
          · simp only [Bool.and_eq_true, decide_eq_true_eq] at hk; omega
          · split at hk
            · assumption
            · cases hk
      obtain ⟨c, hcE⟩ : ∃ c, x.c.toNat = c + 1 := ⟨x.c.toNat - 1, by omega⟩
      have hpe : prE x = 0 := by unfold prE; rw [if_pos hc]
      have hpo : prO x a out = out ++ [40] := by unfold prO; rw [if_pos hc]
      have hca : cntA x.c.toNat a = (c + 1) :: decT a := by unfold cntA; rw [hcE, if_neg (by omega)]
      rw [hpe, if_neg (by simp), hpo, hca, txtF_list hx h4]
      have hst : l.drop (i + 1) = l.drop (posK (kidsX l) i 0) := by rw [posK_start hil]
      have key := prF_kids hT hil (c := c + 1) (by omega) (txtF f l) (decT a) (fun j hj a' out' => by
        obtain ⟨p1, p2, p3⟩ := hT.pos_step hil (k := j) (by omega)
        rw [kidsX_len] at p2
        have p4 := hT.pos_le hil (k := j + 1) (m := cnt (kidsX l) i) (by omega) (Nat.le_refl _)
        rw [hT.pos_end hil] at p4
        have := ih (posK (kidsX l) i j) a' out' p2 (by rw [p3]; omega)
        rw [p3] at this; exact this) c 0 (out ++ [40]) (by omega)
      rw [List.drop_zero] at key
      rw [hst, key]
      obtain ⟨j1, j2⟩ := joinX_app (txtF f l) (kidsN (kidsX l) i) true out [40]
      rw [j1]
      by_cases he : (joinX (txtF f l) (kidsN (kidsX l) i) true [40]).2 ≠ 0
      · rw [if_pos he, if_pos (by rw [if_pos he]; exact he), if_pos he]
      · rw [if_neg he, if_neg (by rw [if_neg he]; simp), if_neg he, j2 (Decidable.not_not.1 he), cntA_0]
        congr 1
        unfold tailX
        rw [decT_len]
        simp only [List.append_assoc]
    · have hc0 : x.c = 0 := by omega
      have hE : endN (kidsX l) i = i + 1 := by
        rw [← hT.pos_end hil, hcnt, hc0]
        exact posK_start hil
      have hpe : prE x = (leafS x).2 := by unfold prE; rw [if_neg hc]
      have hpo : prO x a out = (out ++ (leafS x).1) ++ tailX a (cntA 0 a) := by
        unfold prO tailX sepX; rw [if_neg hc, List.append_assoc, List.append_assoc]
      rw [hpe, hpo, hE, show x.c.toNat = 0 by omega]
      by_cases h4 : x.k = 4
      · have hl : leafS x = ([40, 41], 0) := by unfold leafS; rw [if_pos h4]
        have hkn : kidsN (kidsX l) i = [] := List.length_eq_zero_iff.1 (by rw [kidsN_len, hcnt, hc0]; rfl)
        rw [txtF_list hx h4, hkn, hl]
        rfl
      · rw [txtF_leaf hx h4]
        by_cases he : (leafS x).2 ≠ 0
        · rw [if_pos he, if_pos (by rw [if_pos he]; exact he), if_pos he]
        · rw [if_neg he, if_neg (by rw [if_neg he]; exact he), if_neg he]
theorem prtX_txt {l : List Sx} (h : (chkX l).2 = 0) : prtX l = txtF l.length l 0 := by
  have hT := chkX_tr h
  have hpos := List.length_pos_iff.2 (chkX_tree h).2.1
  have he : endN (kidsX l) 0 = l.length := by rw [hT.end_0, kidsX_len]
  have h1 := prF_txt h l.length 0 [] [] hpos (by omega)
  unfold prtX
  rw [if_neg (by simpa using h)]
  rw [List.drop_zero, he, List.drop_length] at h1
  rw [h1]
  have h2 : ∀ r : List UInt8 × Int, (r.2 ≠ 0 → r.1 = []) → (if r.2 ≠ 0 then ([], r.2) else prF [] (cntA 0 []) (([] ++ r.1) ++ tailX [] (cntA 0 []))) = r := fun r hr => by
    obtain ⟨r1, r2⟩ := r
    by_cases hz : r2 = 0
    · subst hz
      rw [if_neg (by simp), prF]
      have : tailX [] (cntA 0 []) = [] := rfl
      rw [this]; simp
    · rw [if_pos hz]
      have := hr hz
      simp only at this
      rw [this]
  refine h2 _ ?_
  intro hz
  obtain ⟨n, hn⟩ : ∃ n, l.length = n + 1 := ⟨l.length - 1, by omega⟩
  obtain ⟨x, hx⟩ : ∃ x, l[0]? = some x := ⟨_, List.getElem?_eq_getElem hpos⟩
  rw [hn] at hz ⊢
  by_cases h4 : x.k = 4
  · rw [txtF_list hx h4] at hz ⊢
    by_cases h5 : (joinX (txtF n l) (kidsN (kidsX l) 0) true [40]).2 ≠ 0
    · rw [if_pos h5]
    · rw [if_neg h5] at hz; exact absurd rfl hz
  · rw [txtF_leaf hx h4] at hz ⊢
    by_cases h5 : (leafS x).2 ≠ 0
    · rw [if_pos h5]
    · rw [if_neg h5] at hz; exact absurd hz h5
/-- Alike syntax. -/
def bareX (x : Sx) : Sx := { x with f := 0, t := 0, o := 0 }
def alikeB : List Sx → List Sx → Bool
  | [], [] => true
  | x :: a, y :: b => decide (bareX x = bareX y) && alikeB a b
  | _, _ => false
theorem alike_map : ∀ {a b : List Sx}, alikeB a b = true ↔ a.map bareX = b.map bareX := by
  intro a
  induction a with
  | nil => intro b; cases b <;> simp [alikeB]
  | cons x a ih => intro b; cases b with
    | nil => simp [alikeB]
    | cons y b => rw [alikeB, Bool.and_eq_true, ih, List.map_cons, List.map_cons]; simp
theorem prF_bare : ∀ (l : List Sx) (a : List Nat) (out : List UInt8), prF (l.map bareX) a out = prF l a out := by
  intro l
  induction l with
  | nil => intro a out; rfl
  | cons x l ih =>
    intro a out
    rw [List.map_cons, prF, prF, ih]
    rfl
def alikeX (a b : List Sx) : Bool × Int := if (chkX a).2 ≠ 0 then (false, (chkX a).2) else if (chkX b).2 ≠ 0 then (false, (chkX b).2) else (alikeB a b, 0)
theorem alike_print {a b : List Sx} (h : (alikeX a b).1 = true) : prtX a = prtX b := by
  unfold alikeX at h
  by_cases h1 : (chkX a).2 ≠ 0
  · rw [if_pos h1] at h; cases h
  · by_cases h2 : (chkX b).2 ≠ 0
    · rw [if_neg h1, if_pos h2] at h; cases h
    · rw [if_neg h1, if_neg h2] at h
      unfold prtX
      rw [if_neg h1, if_neg h2, ← prF_bare a, ← prF_bare b, alike_map.1 h]


theorem ids_i64 (L : List UInt8) : ∀ n ∈ (idsL L).map (fun n : Nat => (n : Int)), i64r n := fun n hn => by
  obtain ⟨m, hm, rfl⟩ := List.mem_map.1 hn
  have := ids_lt L m hm
  unfold i64r; omega
set_option maxRecDepth 100000 in
theorem rprint_any (L : List UInt8) (w : World) (hL : L.length ≤ 100000) :
    Calls Tryz.prog 87 #[.string (str L)] w fun e w' => e = .returned (strE (prS L)) ∧ Below w.heap.size w w' := by
  have C := Lib.hid (rIds_any L w hL)
  unfold IdsV at C
  by_cases h0 : chkE L = 0
  · have CL : Hid (∀ v W, W.ownsRow w.heap.size 3 1 v (idsL L).length (natC (idsL L)) → Calls Tryz.prog 105 #[v] W fun e w' => e = .returned (strE (prS L)) ∧ Below W.heap.size W w') := Lib.hid fun v W ho => by
      have := rlist_arg v _ W (.inr (ints_own ho rfl)) (by rw [List.length_map, ids_len]; omega) (ids_i64 L)
      unfold ListV at this
      have e : prS L = listS ((idsL L).map fun n : Nat => (n : Int)) := by unfold prS; rw [if_neg (by simpa using h0)]
      unfold strE; rw [e]; exact this
    have HI : Hid (idsS L = (idsL L, 0)) := Lib.hid (by unfold idsS; rw [if_neg (by simpa using h0)])
    rw [HI.out] at C
    obtain ⟨S, e0, hr⟩ := strE_two (prS L)
    rw [hr] at CL ⊢
    obtain ⟨U, hU⟩ : ∃ T, str L = T := ⟨_, rfl⟩
    rw [hU] at C ⊢
    clear hr hU h0 HI hL
    go_enter Tryz.func87, Tryz.ntmps87
    go_wp2_with fail
    refine C.out.mono ?_
    rintro e w1 ⟨v, rfl, ho, hb1⟩
    have CL1 := Lib.hid (CL.out v w1 ho)
    clear ho
    go_wp2_with fail
    refine CL1.out.mono ?_
    rintro e w2 ⟨rfl, hb2⟩
    have hbA := below_step hb1 hb2
    go_wp2_with fail
    go_ret2
    exact ⟨rfl, hbA⟩
  · have HI : idsS L = ([], chkE L) := by unfold idsS; rw [if_pos h0]
    have HV : Hid (strE (prS L) = strE ([], chkE L)) := Lib.hid (by unfold prS; rw [if_pos h0])
    rw [HI] at C
    obtain ⟨e0, he0⟩ : ∃ e, chkE L = e := ⟨_, rfl⟩
    rw [he0] at h0 C HV
    have hne : (e0 != 0) = true := bne_iff_ne.2 h0
    obtain ⟨U, hU⟩ : ∃ T, str L = T := ⟨_, rfl⟩
    rw [hU] at C ⊢
    clear hU he0 h0 HI hL
    go_enter Tryz.func87, Tryz.ntmps87
    go_wp2_with fail
    refine C.out.mono ?_
    rintro e w1 ⟨v, rfl, ho, hb1⟩
    clear ho
    go_wp2_with fail
    go_ret2
    exact ⟨by rw [HV.out]; rfl, hb1⟩


set_option maxRecDepth 50000 in
set_option maxHeartbeats 1600000 in
theorem rEnd10_any (v : Value) (i : Nat) (l : List Sx) (w : World) (h : XsAt w v l) (hv : (chkX l).2 = 0) (hi : i < l.length) :
    Calls Tryz.prog 53 #[v, .int .i64 (i : Int)] w fun e w' => e = .returned (.int .i64 (endN (kidsX l) i : Int)) ∧ w' = w := by
  obtain ⟨a, n, c, rfl, hn, hcap, _⟩ := id h
  have hl2 := (chkX_tree hv).2.2
  obtain ⟨r, hr⟩ := (chkX_tr hv).each (p := i) (by rw [kidsX_len]; omega)
  have he := endN_of (by rw [kidsX_len]; omega) hr
  obtain ⟨E, hE⟩ : ∃ E, endN (kidsX l) i = E := ⟨_, rfl⟩
  rw [hE] at he ⊢
  obtain ⟨he1, he2, he3⟩ := he
  rw [kidsX_len, ← hn] at he2
  have HR := Lib.hid hr
  have HRE : Hid (∀ e : Nat, e ≤ n → (kidsX l).drop e = r → e = E) := Lib.hid fun e h1 h2 => by
    have h3 := congrArg List.length h2
    have h4 := congrArg List.length he3
    rw [List.length_drop, kidsX_len] at h3 h4; omega
  have HX := Lib.hid h
  have HN := Lib.hid hn
  have HK := Lib.hid (chkX_kids hv)
  have hnb : n ≤ 2000 := by omega
  have hin : i < n := by omega
  clear h hv hn he3 hr hE hi
  go_enter Tryz.func53, Tryz.ntmps53
  go_wp2_with fail
  go_loop [1, 5] (fun x1 x5 => ∃ e m : Nat, x1 = .int .i64 (e : Int) ∧ x5 = .int .i64 (m : Int) ∧ e ≤ n ∧ m ≤ 2000 ∧ Hid (eat ((kidsX l).drop e) m = some r)) (fun x1 _ => n - (intOf x1).toNat)
  case atStart => exact ⟨i, 1, rfl, rfl, by omega, by omega, HR⟩
  case round =>
    obtain ⟨e, m, rfl, rfl, hen, hm, HE⟩ := hrel
    have he0 : (0 : Int) ≤ (e : Int) := Int.natCast_nonneg _
    cases m with
    | zero =>
      have hr2 : (kidsX l).drop e = r := by have := HE.out; rw [eat_zero] at this; exact Option.some.inj this
      obtain rfl := HRE.out e hen hr2
      clear hr2
      go_wp2_with fail
      go_ret
      exact ⟨rfl, rfl⟩
    | succ m =>
      have hlt : e < n := by
        have := eat_len HE.out
        rw [List.length_drop, kidsX_len, ← HN.out] at this; omega
      obtain ⟨x, hx⟩ : ∃ x, l[e]? = some x := ⟨_, List.getElem?_eq_getElem (by rw [← HN.out]; exact hlt)⟩
      obtain ⟨g, off, rfl, _, _, c1, _⟩ := HX.out.node hx
      have hx0 := HK.out x (List.mem_of_getElem? hx)
      obtain ⟨q, hq⟩ : ∃ q : Nat, x.c = (q : Int) := ⟨x.c.toNat, by omega⟩
      have hE2 := eat_at hx HE.out
      rw [hq, Int.toNat_natCast] at hE2
      have hlen := eat_len hE2
      rw [List.length_drop, kidsX_len, ← HN.out] at hlen
      rw [hq] at c1
      have HE2 := Lib.hid hE2
      have hlt' : (e : Int) < (n : Int) := by omega
      clear hE2 hq hx hx0
      go_wp2_with fail
      go_round
      case rel => exact ⟨e + 1, m + q, by go_num, by go_num, by omega, by omega, by rw [Nat.add_comm m q]; exact HE2⟩
      case measure => simp [intOf]; omega
set_option maxRecDepth 50000 in
theorem rasked_any (v : Value) (l : List Sx) (i : Int) (w : World) (h : XsAt w v l) (hs : SmX l) (hi : InX l) :
    Calls Tryz.prog 52 #[v, .int .i64 i] w fun e w' => e = .returned (.int .i64 (askX l i)) ∧ Below w.heap.size w w' := by
  have C := Lib.hid (rCheck10_any v l w h hs hi)
  obtain ⟨a, c, rfl, _⟩ := h.slice
  obtain ⟨n, hn⟩ : ∃ n, l.length = n := ⟨_, rfl⟩
  obtain ⟨⟨z1, z2⟩, hz⟩ : ∃ z, chkX l = z := ⟨_, rfl⟩
  have HV : Hid (askX l i = if z2 ≠ 0 then z2 else if i < 0 ∨ (n : Int) ≤ i then 4 else 0) := Lib.hid (by unfold askX; rw [hz, hn])
  rw [hz] at C
  simp only at C
  rw [hn] at C ⊢
  clear h hs hi hn hz
  by_cases h0 : z2 = 0
  · subst h0
    by_cases h1 : i < 0
    · have HW := Lib.hid (HV.out.trans (by rw [if_neg (by simp), if_pos (.inl h1)]))
      have d1 : decide (i < 0) = true := decide_eq_true h1
      clear HV h1
      go_enter Tryz.func52, Tryz.ntmps52
      go_wp2_with fail
      refine C.out.mono ?_
      rintro e w1 ⟨rfl, hb1⟩
      go_wp2_with fail
      go_ret
      exact ⟨ret_int HW.out.symm, hb1⟩
    · have d1 : decide (i < 0) = false := decide_eq_false h1
      by_cases h2 : (n : Int) ≤ i
      · have HW := Lib.hid (HV.out.trans (by rw [if_neg (by simp), if_pos (.inr h2)]))
        have d2 : decide ((n : Int) ≤ i) = true := decide_eq_true h2
        clear HV h1 h2
        go_enter Tryz.func52, Tryz.ntmps52
        go_wp2_with fail
        refine C.out.mono ?_
        rintro e w1 ⟨rfl, hb1⟩
        go_wp2_with fail
        go_ret
        exact ⟨ret_int HW.out.symm, hb1⟩
      · have HW := Lib.hid (HV.out.trans (by rw [if_neg (by simp), if_neg (by omega)]))
        have d2 : decide ((n : Int) ≤ i) = false := decide_eq_false h2
        clear HV h1 h2
        go_enter Tryz.func52, Tryz.ntmps52
        go_wp2_with fail
        refine C.out.mono ?_
        rintro e w1 ⟨rfl, hb1⟩
        go_wp2_with fail
        go_ret
        exact ⟨ret_int HW.out.symm, hb1⟩
  · have HW := Lib.hid (HV.out.trans (if_pos h0))
    have hne : (z2 == 0) = false := beq_eq_false_iff_ne.2 h0
    clear HV h0
    go_enter Tryz.func52, Tryz.ntmps52
    go_wp2_with fail
    refine C.out.mono ?_
    rintro e w1 ⟨rfl, hb1⟩
    go_wp2_with fail
    go_ret
    exact ⟨ret_int HW.out.symm, hb1⟩

theorem emp_rowX (B : Nat) (W : World) (h : B ≤ W.heap.size) : (W.alloc (.cells #[] 28)).ownsRow B 28 8 (.slice (some ⟨W.heap.size, 0, none⟩) 0 0) 0 [] :=
  ⟨rfl, .inr ⟨W.heap.size, 0, #[], rfl, h, World.alloc_heap_new _ _, Nat.le_refl _, by unfold maxLen; omega, rfl, rfl⟩⟩

set_option maxRecDepth 50000 in
theorem rSize_any (v : Value) (l : List Sx) (i : Int) (w : World) (h : XsAt w v l) (hs : SmX l) (hi : InX l) :
    Calls Tryz.prog 15 #[v, .int .i64 i] w fun e w' => e = .returned (.tuple #[.int .i64 (sizeX l i).1, .int .i64 (sizeX l i).2]) ∧ Below w.heap.size w w' := by
  have C := Lib.hid (rasked_any v l i w h hs hi)
  obtain ⟨va, vc, rfl, _⟩ := h.slice
  by_cases he : askX l i = 0
  · obtain ⟨h1, h2, h3⟩ := askX_0 he
    obtain ⟨p, rfl⟩ : ∃ p : Nat, i = (p : Int) := ⟨i.toNat, by omega⟩
    have hp : p < l.length := by omega
    have CE := Lib.hid (fun W (hW : Below w.heap.size w W) => rEnd10_any _ p l W (h.below hW (Nat.le_refl _)) h1 hp)
    obtain ⟨e1, e2⟩ := endX h1 hp
    have hl2 := (chkX_tree h1).2.2
    obtain ⟨E, hE⟩ : ∃ E, endN (kidsX l) p = E := ⟨_, rfl⟩
    have HW : Hid (sizeX l (p : Int) = (((E - p : Nat) : Int), 0)) := Lib.hid (by unfold sizeX; rw [if_neg (by simpa using he), Int.toNat_natCast, hE])
    rw [hE] at CE e1 e2
    obtain ⟨n, hn⟩ : ∃ n, l.length = n := ⟨_, rfl⟩
    rw [he] at C
    rw [hn] at C CE e2 hl2 ⊢
    have w0 : IntKind.i64.wrap ((E : Int) - (p : Int)) = ((E - p : Nat) : Int) := by rw [IntKind.wrap_i64]; omega
    clear h hs hi hn he hE h1 h2 h3 hp
    go_enter Tryz.func15, Tryz.ntmps15
    go_wp2_with fail
    refine C.out.mono ?_
    rintro e w1 ⟨rfl, hb1⟩
    go_wp2_with fail
    refine (CE.out w1 hb1).mono ?_
    rintro e w2 ⟨rfl, rfl⟩
    go_wp2_with fail
    go_ret2
    exact ⟨by rw [HW.out]; rfl, hb1⟩
  · have HW : Hid (sizeX l i = (0, askX l i)) := Lib.hid (by unfold sizeX; rw [if_pos he])
    obtain ⟨z, hz⟩ : ∃ z, askX l i = z := ⟨_, rfl⟩
    rw [hz] at C HW he
    have hne : (z != 0) = true := bne_iff_ne.2 he
    obtain ⟨n, hn⟩ : ∃ n, l.length = n := ⟨_, rfl⟩
    rw [hn] at C ⊢
    clear h hs hi hn he hz
    go_enter Tryz.func15, Tryz.ntmps15
    go_wp2_with fail
    refine C.out.mono ?_
    rintro e w1 ⟨rfl, hb1⟩
    go_wp2_with fail
    go_ret2
    exact ⟨by rw [HW.out]; rfl, hb1⟩
set_option maxRecDepth 50000 in
theorem rmade_any (v : Value) (l : List Sx) (w : World) (h : XsAt w v l) (hs : SmX l) (hi : InX l) :
    Calls Tryz.prog 59 #[v] w fun e w' => e = .returned (.tuple #[if (chkX l).2 ≠ 0 then .slice none 0 0 else v, .int .i64 (chkX l).2]) ∧ Below w.heap.size w w' := by
  have C := Lib.hid (rCheck10_any v l w h hs hi)
  obtain ⟨va, vc, rfl, _⟩ := h.slice
  obtain ⟨n, hn⟩ : ∃ n, l.length = n := ⟨_, rfl⟩
  obtain ⟨⟨z1, z⟩, hz⟩ : ∃ z, chkX l = z := ⟨_, rfl⟩
  rw [hz] at C ⊢
  simp only at C ⊢
  rw [hn] at C ⊢
  clear h hs hi hn hz
  by_cases he : z = 0
  · subst he
    rw [if_neg (by simp)]
    go_enter Tryz.func59, Tryz.ntmps59
    go_wp2_with fail
    refine C.out.mono ?_
    rintro e w1 ⟨rfl, hb1⟩
    go_wp2_with fail
    go_ret2
    exact ⟨rfl, hb1⟩
  · rw [if_pos he]
    have hne : (z != 0) = true := bne_iff_ne.2 he
    clear he
    go_enter Tryz.func59, Tryz.ntmps59
    go_wp2_with fail
    refine C.out.mono ?_
    rintro e w1 ⟨rfl, hb1⟩
    go_wp2_with fail
    go_ret2
    exact ⟨rfl, hb1⟩
def lenV : Value → Nat | .slice _ n _ => n | _ => 0
theorem xs_cells {w W : World} {g off n c : Nat} {l : List Sx} (h : XsAt w (.slice (some ⟨g, off, none⟩) n c) l) (hW : Below w.heap.size w W) : ∀ j u, (xcs l)[j]? = some u → W.cell? ((⟨g, off, none⟩ : Addr).add j) = some u := by
  intro j u hj
  obtain ⟨_, _, _, e, _, _, hr⟩ := h
  obtain ⟨rfl, rfl, rfl⟩ := Value.slice.inj e
  rcases hr with rfl | ⟨g', off', e', hg, hc⟩
  · simp [xcs] at hj
  · cases e'
    rw [Go.WideShapes.add_plain]; exact (hW.cell (p := ⟨g, off + j, none⟩) hg).trans (hc j u hj)
set_option maxRecDepth 50000 in
set_option maxHeartbeats 3200000 in
theorem rSub_any (v : Value) (l : List Sx) (i : Int) (w : World) (h : XsAt w v l) (hs : SmX l) (hi : InX l) :
    Calls Tryz.prog 20 #[v, .int .i64 i] w (ChgV (subR l i) w) := by
  have C := Lib.hid (rasked_any v l i w h hs hi)
  obtain ⟨va, vc, rfl, _⟩ := h.slice
  by_cases he : askX l i = 0
  · obtain ⟨g, off, p, E, rfl, rfl, hp, hpn, hpE, hEn, hend, hn2, hcap, HS, HX⟩ := sub_at h hi he
    obtain ⟨h1, h2, h3⟩ := askX_0 he
    have CE := Lib.hid (fun W (hW : Below w.heap.size w W) => rEnd10_any _ p l W (h.below hW (Nat.le_refl _)) h1 hpn)
    have HCl : Hid (∀ W, Below w.heap.size w W → ∀ j u, (xcs (subX l p))[j]? = some u → W.cell? ((⟨g, off + p * 8, none⟩ : Addr).add j) = some u) := Lib.hid fun W hW => xs_cells (HX W hW) (Below.refl _ _)
    have HW : Hid (subR l (p : Int) = (subX l p, 0) ∧ (subX l p).length = E - p) := Lib.hid ⟨by unfold subR; rw [if_neg (by simpa using he), hp], by unfold subX; rw [segX_len (by omega), hend]⟩
    have HL : Hid ((xcs (subX l p)).length = (E - p) * 8) := Lib.hid (by rw [xcs_len, HW.out.2])
    have HOne := Lib.hid (one_xcs (subX l p))
    obtain ⟨n, hn⟩ : ∃ n, l.length = n := ⟨_, rfl⟩
    rw [he] at C
    rw [hend] at CE
    rw [hn] at C CE hpn hEn hn2 hcap ⊢
    have b0 : (0 : Int) ≤ (p : Int) := Int.natCast_nonneg _
    have b1 : (p : Int) ≤ (E : Int) := by omega
    have b2 : (E : Int) ≤ (vc : Int) := by omega
    have b3 : p ≤ E := by omega
    have b4 : E ≤ vc := by omega
    have b5 : ¬ vc = p := by omega
    obtain ⟨i0, hi1, hj0, hj1, hj2⟩ := info_parts2 zeroSxI
    clear h hs hi hn he h1 h2 h3 HS HX hp hend
    go_enter Tryz.func20, Tryz.ntmps20
    go_wp2_with fail
    refine C.out.mono ?_
    rintro e w1 ⟨rfl, hb1⟩
    have hs1 := hb1.size
    have hba : Below w.heap.size w (w1.alloc (.cells #[] 28)) := hb1.alloc hs1 _
    go_wp2_with fail
    refine (CE.out _ hba).mono ?_
    rintro e w2 ⟨rfl, rfl⟩
    go_wp2_with (at_builtin; refine wpList_append_own _ rfl _ _ 22 rfl w.heap.size 28 i0 zeroNx 8 80 Tryz.underlying22 hi1 hj0 hj1 hj2 rfl (by decide) _ _ _ rfl (emp_rowX w.heap.size w1 hs1) ⟨g, off + p * 8, none⟩ (E - p) (vc - p) (xcs (subX l p)) rfl HL.out (HCl.out _ hba) HOne.out (by unfold maxLen; omega) (by omega) (by rw [World.size_alloc]; omega) ?_; intro v4 w4 hown4 hgrow4 _; rw [Nat.zero_add, List.nil_append] at hown4; obtain ⟨b4, cb4, rfl⟩ := own_lenR hown4; have hb4 : Below w.heap.size w w4 := hba.grown hgrow4 (by rw [World.size_alloc]; omega) (own_at rfl hs1); have HO4 := Lib.hid hown4; clear hown4 hgrow4)
    go_ret2
    refine ⟨b4, cb4, by rw [HW.out.1]; simp only [HW.out.2]; rfl, Lib.hid ?_, hb4⟩
    rw [HW.out.1]; simp only [HW.out.2]
    exact HO4.out
  · have HW : Hid (subR l i = ([], askX l i)) := Lib.hid (by unfold subR; rw [if_pos he])
    obtain ⟨z, hz⟩ : ∃ z, askX l i = z := ⟨_, rfl⟩
    rw [hz] at C HW he
    have hne : (z != 0) = true := bne_iff_ne.2 he
    obtain ⟨n, hn⟩ : ∃ n, l.length = n := ⟨_, rfl⟩
    rw [hn] at C ⊢
    clear h hs hi hn he hz
    go_enter Tryz.func20, Tryz.ntmps20
    go_wp2_with fail
    refine C.out.mono ?_
    rintro e w1 ⟨rfl, hb1⟩
    go_wp2_with fail
    go_ret2
    exact chgV_err HW.out hb1
set_option maxRecDepth 50000 in
set_option maxHeartbeats 6400000 in
theorem rChildren_any (v : Value) (l : List Sx) (p : Nat) (w : World) (h : XsAt w v l) (h1 : (chkX l).2 = 0) (hpn : p < l.length) :
    Calls Tryz.prog 54 #[v, .int .i64 (p : Int)] w fun e w' => ∃ a c, e = .returned (.slice a (cnt (kidsX l) p) c) ∧ Hid (w'.ownsRow w.heap.size 3 1 (.slice a (cnt (kidsX l) p) c) (cnt (kidsX l) p) (natC (kidsN (kidsX l) p))) ∧ Below w.heap.size w w' := by
  obtain ⟨va, vc, rfl, _⟩ := h.slice
  have hT := chkX_tr h1
  have hpk : p < (kidsX l).length := by rw [kidsX_len]; exact hpn
  obtain ⟨x, hx⟩ : ∃ x, l[p]? = some x := ⟨_, List.getElem?_eq_getElem hpn⟩
  obtain ⟨K, hK⟩ : ∃ K : Nat, x.c = (K : Int) := ⟨x.c.toNat, by have := chkX_kids h1 x (List.mem_of_getElem? hx); omega⟩
  have hcnt : cnt (kidsX l) p = K := by rw [cnt_of (kidsX_at hx), hK, Int.toNat_natCast]
  have hl2 := (chkX_tree h1).2.2
  have hend := (endX h1 hpn).2
  have hK2 : K ≤ 2000 := by
    have := hT.pos_mono hpk (d := K) (k := 0) (by omega)
    have e := hT.pos_end hpk
    rw [hcnt] at e
    rw [Nat.zero_add, e] at this; omega
  obtain ⟨g, off, rfl⟩ : ∃ g off, va = some ⟨g, off, none⟩ := by obtain ⟨g, off, e, _⟩ := h.node hx; exact ⟨g, off, e⟩
  have HCell : Hid (∀ W, Below w.heap.size w W → W.cell? ⟨g, off + p * 8 + 1, none⟩ = some (.int .i64 (K : Int))) := Lib.hid fun W hW => by
    obtain ⟨g', off', e, _, _, c1, _⟩ := (h.below hW (Nat.le_refl _)).node hx
    cases e; rw [hK] at c1; exact c1
  have HSt : Hid (∀ j, j < K → ∃ q q' : Nat, posK (kidsX l) p j = q ∧ posK (kidsX l) p (j + 1) = q' ∧ q < q' ∧ q' ≤ 2000 ∧ ∀ W, Below w.heap.size w W → Calls Tryz.prog 53 #[.slice (some ⟨g, off, none⟩) l.length vc, .int .i64 (q : Int)] W fun e w' => e = .returned (.int .i64 (q' : Int)) ∧ w' = W) := Lib.hid fun j hj => by
    obtain ⟨s1, s2, s3⟩ := hT.pos_step hpk (k := j) (by omega)
    rw [kidsX_len] at s2
    have s4 := hT.end_bd (p := posK (kidsX l) p j) (by rw [kidsX_len]; exact s2)
    rw [s3, kidsX_len] at s4
    refine ⟨_, _, rfl, rfl, s4.1, by omega, fun W hW => ?_⟩
    have := rEnd10_any _ (posK (kidsX l) p j) l W (h.below hW (Nat.le_refl _)) h1 s2
    rw [s3] at this; exact this
  have HP0 : Hid (posK (kidsX l) p 0 = p + 1) := Lib.hid (posK_start hpk)
  have HKl : Hid (∀ j, j < K → (kidsN (kidsX l) p).take (j + 1) = (kidsN (kidsX l) p).take j ++ [posK (kidsX l) p j]) := Lib.hid fun j hj => kidsN_take (by omega)
  have HLn : Hid ((kidsN (kidsX l) p).length = K) := Lib.hid (by rw [kidsN_len, hcnt])
  obtain ⟨n, hn⟩ : ∃ n, l.length = n := ⟨_, rfl⟩
  rw [hn] at HSt hpn hl2 ⊢
  rw [hcnt]
  have b0 : (0 : Int) ≤ (p : Int) := Int.natCast_nonneg _
  have b1 : (p : Int) < (n : Int) := by omega
  obtain ⟨i0, hi0, hz0, hz1, hz2⟩ := info_parts2 infoInt
  clear h h1 hT hpk hx hK hcnt hn hend
  go_enter Tryz.func54, Tryz.ntmps54
  go_wp2_with fail
  go_loopw [5, 6] (fun x5 x6 wr => ∃ (j q : Nat) (b : Option Addr) (c : Nat), x5 = .slice b j c ∧ x6 = .int .i64 (q : Int) ∧ j ≤ K ∧ Hid (posK (kidsX l) p j = q) ∧ Hid (wr.ownsRow w.heap.size 3 1 (.slice b j c) j (natC ((kidsN (kidsX l) p).take j))) ∧ Below w.heap.size w wr) (fun x5 _ _ => K - lenV x5)
  case atStart => exact ⟨0, p + 1, none, 0, rfl, by go_num, Nat.zero_le _, Lib.hid HP0.out, Lib.hid (by rw [List.take_zero]; exact own_nilX _ _ _ _), Below.refl _ _⟩
  case round =>
    obtain ⟨j, q, b, c, rfl, rfl, hj, HQ, HO, hb⟩ := hrel
    have c0 := HCell.out wr hb
    by_cases hlt : j < K
    · obtain ⟨q1, q', e1, e2, hqq, hq2, HSub⟩ := HSt.out j hlt
      have e3 : q = q1 := HQ.out.symm.trans e1
      subst e3
      have HSb := Lib.hid HSub
      have HQ2 := Lib.hid e2
      have HT1 : Hid (natC ((kidsN (kidsX l) p).take (j + 1)) = natC ((kidsN (kidsX l) p).take j) ++ [.int .i64 (q : Int)]) := Lib.hid (by rw [HKl.out j hlt, natC_app, e1]; rfl)
      have hd : decide ((j : Int) < (K : Int)) = true := decide_eq_true (by omega)
      have hbs := hb.size
      clear HSub e1 e2
      go_wp2_with (at_builtin; refine wpList_append_own _ rfl _ _ 33 rfl w.heap.size 3 i0 (.int .i64 0) 1 8 Tryz.underlying33 hi0 hz0 hz1 hz2 rfl (by decide) _ _ _ rfl (HO.out.alloc _) ⟨wr.heap.size, 0, none⟩ 1 1 [.int .i64 (q : Int)] rfl rfl (new_cells1 _ _ _ _ rfl) (by simp [Value.oneCell']) (by unfold maxLen; omega) (by omega) (by rw [World.size_alloc]; omega) ?_; intro v4 w4 hown4 hgrow4 _; obtain ⟨b4, cb4, rfl⟩ := own_lenR hown4; have hb4 : Below w.heap.size w w4 := (hb.alloc hb.size _).grown hgrow4 (by rw [World.size_alloc]; omega) (fun k hk => (HO.out.lt k hk).1); have HO4 := Lib.hid hown4; clear hown4 hgrow4)
      refine (HSb.out w4 hb4).mono ?_
      rintro e w5 ⟨rfl, rfl⟩
      go_wp2_with fail
      go_roundw
      case rel => exact ⟨j + 1, q', b4, cb4, rfl, by go_num, by omega, HQ2, Lib.hid (by rw [HT1.out]; exact HO4.out), hb4⟩
      case measure => simp [lenV]; omega
    · obtain rfl : j = K := by omega
      have hd : decide ((j : Int) < (j : Int)) = false := decide_eq_false (Int.lt_irrefl _)
      have HF : Hid ((kidsN (kidsX l) p).take j = kidsN (kidsX l) p) := Lib.hid (List.take_of_length_le (Nat.le_of_eq HLn.out))
      go_wp2_with fail
      go_ret
      exact ⟨b, c, rfl, Lib.hid (by have := HO.out; rw [HF.out] at this; exact this), hb⟩
set_option maxRecDepth 50000 in
theorem rKids_any (v : Value) (l : List Sx) (i : Int) (w : World) (h : XsAt w v l) (hs : SmX l) (hi : InX l) :
    Calls Tryz.prog 17 #[v, .int .i64 i] w (KidV (kidR l i) w) := by
  have C := Lib.hid (rasked_any v l i w h hs hi)
  obtain ⟨va, vc, rfl, _⟩ := h.slice
  by_cases he : askX l i = 0
  · obtain ⟨h1, h2, h3⟩ := askX_0 he
    obtain ⟨p, rfl⟩ : ∃ p : Nat, i = (p : Int) := ⟨i.toNat, by omega⟩
    have hp : p < l.length := by omega
    have CC := Lib.hid (fun W (hW : Below w.heap.size w W) => rChildren_any _ l p W (h.below hW (Nat.le_refl _)) h1 hp)
    have HW : Hid (kidR l (p : Int) = (kidsN (kidsX l) p, 0) ∧ (kidsN (kidsX l) p).length = cnt (kidsX l) p) := Lib.hid ⟨by unfold kidR; rw [if_neg (by simpa using he), Int.toNat_natCast], kidsN_len _ _⟩
    obtain ⟨n, hn⟩ : ∃ n, l.length = n := ⟨_, rfl⟩
    obtain ⟨K, hK⟩ : ∃ K, cnt (kidsX l) p = K := ⟨_, rfl⟩
    rw [he] at C
    rw [hn] at C CC ⊢
    rw [hK] at CC HW
    clear h hs hi hn he h1 h2 h3 hp hK
    go_enter Tryz.func17, Tryz.ntmps17
    go_wp2_with fail
    refine C.out.mono ?_
    rintro e w1 ⟨rfl, hb1⟩
    go_wp2_with fail
    refine (CC.out w1 hb1).mono ?_
    rintro e w2 ⟨a, c, rfl, ho, hb2⟩
    go_wp2_with fail
    go_ret2
    exact kidV_of HW.out.1 HW.out.2 (own_mono ho.out hb1.size) (below_step hb1 hb2)
  · have HW : Hid (kidR l i = ([], askX l i)) := Lib.hid (by unfold kidR; rw [if_pos he])
    obtain ⟨z, hz⟩ : ∃ z, askX l i = z := ⟨_, rfl⟩
    rw [hz] at C HW he
    have hne : (z != 0) = true := bne_iff_ne.2 he
    obtain ⟨n, hn⟩ : ∃ n, l.length = n := ⟨_, rfl⟩
    rw [hn] at C ⊢
    clear h hs hi hn he hz
    go_enter Tryz.func17, Tryz.ntmps17
    go_wp2_with fail
    refine C.out.mono ?_
    rintro e w1 ⟨rfl, hb1⟩
    go_wp2_with fail
    go_ret2
    exact kidV_of HW.out rfl (own_nilX _ _ _ _) hb1


theorem joinX_len {l : List Sx} (hT : Tr (kidsX l)) {i : Nat} (hi : i < (kidsX l).length) (T : Nat → List UInt8 × Int) (hB : ∀ j, j < cnt (kidsX l) i → (T (posK (kidsX l) i j)).1.length ≤ (posK (kidsX l) i (j + 1) - posK (kidsX l) i j) * 210000) :
    ∀ (m j : Nat) (fl : Bool) (o : List UInt8), j + m = cnt (kidsX l) i → (joinX T ((kidsN (kidsX l) i).drop j) fl o).1.length ≤ o.length + (endN (kidsX l) i - posK (kidsX l) i j) * 210000 + m := by
  intro m
  induction m with
  | zero =>
    intro j fl o hj
    rw [List.drop_of_length_le (by rw [kidsN_len]; omega), joinX]
    simp only; omega
  | succ m ih =>
    intro j fl o hj
    have h1 := kidsN_at (ks := kidsX l) (i := i) (k := j) (by omega)
    obtain ⟨h2, h3⟩ := List.getElem?_eq_some_iff.1 h1
    rw [List.drop_eq_getElem_cons h2, h3, joinX]
    by_cases he : (T (posK (kidsX l) i j)).2 ≠ 0
    · rw [if_pos he]; exact Nat.zero_le _
    · rw [if_neg he]
      have h4 := ih (j + 1) false ((if fl then o else o ++ [32]) ++ (T (posK (kidsX l) i j)).1) (by omega)
      have h5 := hB j (by omega)
      have h6 := hT.pos_next hi (k := j) (by omega)
      have h7 := hT.pos_le hi (k := j + 1) (m := cnt (kidsX l) i) (by omega) (Nat.le_refl _)
      rw [hT.pos_end hi] at h7
      have h8 : (if fl then o else o ++ [32]).length ≤ o.length + 1 := by cases fl <;> simp
      rw [List.length_append] at h4
      have h9 : (endN (kidsX l) i - posK (kidsX l) i j) * 210000 = (endN (kidsX l) i - posK (kidsX l) i (j + 1)) * 210000 + (posK (kidsX l) i (j + 1) - posK (kidsX l) i j) * 210000 := by
        rw [← Nat.add_mul]; congr 1; omega
      omega
theorem txt_len {l : List Sx} (h : (chkX l).2 = 0) (hs : SmX l) (hr : IrX l) : ∀ (f i : Nat), i < l.length → endN (kidsX l) i - i ≤ f → (txtF f l i).1.length ≤ (endN (kidsX l) i - i) * 210000 := by
  have hT := chkX_tr h
  have hl2 := (chkX_tree h).2.2
  intro f
  induction f with
  | zero => intro i hi hf; have := (endX h hi).1; omega
  | succ f ih =>
    intro i hi hf
    obtain ⟨x, hx⟩ : ∃ x, l[i]? = some x := ⟨_, List.getElem?_eq_getElem hi⟩
    have hil : i < (kidsX l).length := by rw [kidsX_len]; exact hi
    obtain ⟨e1, e2⟩ := endX h hi
    have hxm := List.mem_of_getElem? hx
    by_cases h4 : x.k = 4
    · rw [txtF_list hx h4]
      have key := joinX_len hT hil (txtF f l) (fun j hj => by
        obtain ⟨p1, p2, p3⟩ := hT.pos_step hil (k := j) hj
        rw [kidsX_len] at p2
        have p4 := hT.pos_le hil (k := j + 1) (m := cnt (kidsX l) i) (by omega) (Nat.le_refl _)
        rw [hT.pos_end hil] at p4
        have := ih (posK (kidsX l) i j) p2 (by rw [p3]; omega)
        rw [p3] at this; exact this) (cnt (kidsX l) i) 0 true [40] (by omega)
      rw [List.drop_zero, posK_start hil] at key
      have hk : cnt (kidsX l) i ≤ 2000 := by
        have := hT.pos_mono hil (d := cnt (kidsX l) i) (k := 0) (by omega)
        rw [Nat.zero_add, hT.pos_end hil] at this; omega
      have h9 : (endN (kidsX l) i - i) * 210000 = (endN (kidsX l) i - (i + 1)) * 210000 + 210000 := by
        rw [show endN (kidsX l) i - i = (endN (kidsX l) i - (i + 1)) + 1 by omega, Nat.add_mul]
      have h10 : ([40] : List UInt8).length = 1 := rfl
      split
      · exact Nat.zero_le _
      · simp only [List.length_append, List.length_cons, List.length_nil]; omega
    · rw [txtF_leaf hx h4]
      have := leafS_len (hs x hxm).1 (hr x hxm)
      have h9 : 210000 ≤ (endN (kidsX l) i - i) * 210000 := Nat.le_mul_of_pos_left _ (by omega)
      split
      · exact Nat.zero_le _
      · omega
theorem kind_cases {x : Sx} (h : kindX x = true) : x.k = 1 ∨ x.k = 2 ∨ x.k = 3 ∨ x.k = 4 := by
  unfold kindX at h
  split at h
  · omega
  · split at h
    · omega
    · split at h
      · omega
      · cases h
theorem bool_n {x : Sx} (h : fldX x = 0) (h2 : x.k = 2) : x.n = 0 ∨ x.n = 1 := by
  unfold fldX at h
  by_cases h3 : x.k = 2 ∧ x.n ≠ 0 ∧ x.n ≠ 1
  · rw [if_pos h3] at h; cases h
  · omega
set_option maxRecDepth 50000 in
set_option maxHeartbeats 3200000 in
/-- A leaf's text. -/
theorem rtext_leaf (g off n c i : Nat) (l : List Sx) (x : Sx) (f : Nat) (w : World) (h : XsAt w (.slice (some ⟨g, off, none⟩) n c) l) (hx : l[i]? = some x) (hin : i < n) (hk : kindX x = true) (hfd : fldX x = 0) (h4 : x.k ≠ 4) (hp : x.p.length ≤ 100000) (hs : x.s.length ≤ 100000) (hr : i64r x.n) :
    Calls Tryz.prog 67 #[.slice (some ⟨g, off, none⟩) n c, .int .i64 (i : Int)] w fun e w' => e = .returned (strE (txtF (f + 1) l i)) ∧ Below w.heap.size w w' := by
  rw [txtF_leaf hx h4]
  obtain ⟨_, _, e0, _, c0, c1, c2, c3, c4, c5, c6, c7⟩ := h.node hx
  cases e0
  have hi0 : (0 : Int) ≤ (i : Int) := Int.natCast_nonneg _
  have hi1 : (i : Int) < (n : Int) := by omega
  have hkc := kind_cases hk
  have hbn := bool_n hfd
  have hpr := prS_len x.p
  obtain ⟨k, q, nn, s, p, ff, tt, o⟩ := x
  simp only at c0 c1 c2 c3 c4 c5 c6 c7 hkc hbn hpr hp hs hr h4
  have hB := below_b1 w (.cells #[.int .i64 k, .int .i64 q, .int .i64 nn, .string (str s), .string (str p), .int .i64 ff, .int .i64 tt, .int .i64 o] 28)
  rcases hkc with rfl | rfl | rfl | rfl
  · have HV : Hid (leafS ⟨1, q, nn, s, p, ff, tt, o⟩ = (Lib.itoa nn, 0)) := Lib.hid rfl
    rw [HV.out, if_neg (by simp)]
    have CD := Lib.hid (rdigits_any nn.natAbs nn (w.alloc (.cells #[.int .i64 1, .int .i64 q, .int .i64 nn, .string (str s), .string (str p), .int .i64 ff, .int .i64 tt, .int .i64 o] 28)) (Nat.le_refl _) hr)
    obtain ⟨S, hS⟩ : ∃ S, str s = S := ⟨_, rfl⟩
    obtain ⟨P, hP⟩ : ∃ S, str p = S := ⟨_, rfl⟩
    rw [hS] at c3 CD hB
    rw [hP] at c4 CD hB
    have HB := Lib.hid hB
    clear h hx hk hfd hp hs hr h4 hbn hpr hS hP hB HV
    go_enter Tryz.func67, Tryz.ntmps67
    go_wp2_with fail
    refine CD.out.mono ?_
    rintro e w1 ⟨rfl, hb1⟩
    go_wp2_with fail
    go_ret2
    exact ⟨rfl, below_step HB.out hb1⟩
  · have hE : ∀ m : Int, leafS ⟨2, q, m, s, p, ff, tt, o⟩ = if m = 1 then ([35, 116], 0) else ([35, 102], 0) := fun m => rfl
    rw [hE]
    obtain ⟨S, hS⟩ : ∃ S, str s = S := ⟨_, rfl⟩
    obtain ⟨P, hP⟩ : ∃ S, str p = S := ⟨_, rfl⟩
    rw [hS] at c3 hB
    rw [hP] at c4 hB
    have HB := Lib.hid hB
    have hbn2 := hbn rfl
    clear h hx hk hfd hp hs hr h4 hbn hpr hS hP hB hE
    rcases hbn2 with rfl | rfl
    all_goals
      go_enter Tryz.func67, Tryz.ntmps67
      go_wp2_with fail
      go_ret2
      exact ⟨rfl, HB.out.alloc HB.out.size _⟩
  · have HV : Hid (leafS ⟨3, q, nn, s, p, ff, tt, o⟩ = (((s ++ [123]) ++ (prS p).1) ++ [125], (prS p).2)) := Lib.hid rfl
    have CP := Lib.hid (rprint_any p (w.alloc (.cells #[.int .i64 3, .int .i64 q, .int .i64 nn, .string (str s), .string (str p), .int .i64 ff, .int .i64 tt, .int .i64 o] 28)) hp)
    unfold strE at CP
    obtain ⟨⟨r, e0⟩, hq⟩ : ∃ r, prS p = r := ⟨_, rfl⟩
    rw [hq] at CP HV hpr
    simp only at CP HV hpr
    rw [HV.out]
    simp only
    have HCat : Hid (str (((s ++ [123]) ++ r) ++ [125]) = ((str s ++ ⟨#[123]⟩) ++ str r) ++ ⟨#[125]⟩) := Lib.hid (by rw [← str_cat, ← str_cat, ← str_cat]; rfl)
    obtain ⟨S, hS⟩ : ∃ S, str s = S := ⟨_, rfl⟩
    obtain ⟨P, hP⟩ : ∃ S, str p = S := ⟨_, rfl⟩
    obtain ⟨Q, hQ⟩ : ∃ S, str r = S := ⟨_, rfl⟩
    have zS : S.size ≤ 100000 := by rw [← hS, str_size]; exact hs
    have zQ : Q.size ≤ 22000 := by rw [← hQ, str_size]; exact hpr
    have ho1 : ∀ W, (Op.stringOp .add S ⟨#[123]⟩).run Tryz.prog W = .ok (.string (S ++ ⟨#[123]⟩)) W := fun W => run_string_add_sum W _ _ (by show S.size + 1 ≤ _; omega)
    have ho2 : ∀ W, (Op.stringOp .add (S ++ ⟨#[123]⟩) Q).run Tryz.prog W = .ok (.string ((S ++ ⟨#[123]⟩) ++ Q)) W := fun W => run_string_add_sum W _ _ (by rw [ByteArray.size_append]; show S.size + 1 + Q.size ≤ _; omega)
    have ho3 : ∀ W, (Op.stringOp .add ((S ++ ⟨#[123]⟩) ++ Q) ⟨#[125]⟩).run Tryz.prog W = .ok (.string (((S ++ ⟨#[123]⟩) ++ Q) ++ ⟨#[125]⟩)) W := fun W => run_string_add_sum W _ _ (by rw [ByteArray.size_append, ByteArray.size_append]; show S.size + 1 + Q.size + 1 ≤ _; omega)
    rw [hS] at c3 CP HCat hB
    rw [hP] at c4 CP hB
    rw [hQ] at CP HCat
    have hbx := World.alloc_heap_new w (.cells #[.int .i64 3, .int .i64 q, .int .i64 nn, .string S, .string P, .int .i64 ff, .int .i64 tt, .int .i64 o] 28)
    have HB := Lib.hid hB
    have HD : Hid (∀ W, Below (w.alloc (.cells #[.int .i64 3, .int .i64 q, .int .i64 nn, .string S, .string P, .int .i64 ff, .int .i64 tt, .int .i64 o] 28)).heap.size (w.alloc (.cells #[.int .i64 3, .int .i64 q, .int .i64 nn, .string S, .string P, .int .i64 ff, .int .i64 tt, .int .i64 o] 28)) W → W.cell? ⟨w.heap.size, 3, none⟩ = some (.string S)) := Lib.hid fun W hW => (box8_facts ((hW.block w.heap.size (by rw [World.size_alloc]; omega)).trans hbx)).2.2.2.1
    clear h hx hk hfd hp hs hr h4 hbn hpr hS hP hQ hq HV hB hbx
    by_cases he : e0 = 0
    · subst he
      rw [if_neg (by simp)]
      go_enter Tryz.func67, Tryz.ntmps67
      go_wp2_with fail
      refine CP.out.mono ?_
      rintro e w1 ⟨rfl, hb1⟩
      have d3 := HD.out w1 hb1
      go_wp2_with fail
      go_ret2
      exact ⟨by unfold strE; simp only; rw [HCat.out]; rfl, below_step HB.out hb1⟩
    · rw [if_pos he]
      have hne : (e0 != 0) = true := bne_iff_ne.2 he
      clear he
      go_enter Tryz.func67, Tryz.ntmps67
      go_wp2_with fail
      refine CP.out.mono ?_
      rintro e w1 ⟨rfl, hb1⟩
      go_wp2_with fail
      go_ret2
      exact ⟨rfl, below_step HB.out hb1⟩
  · exact absurd rfl h4


theorem str_app (a b : List UInt8) : str (a ++ b) = str a ++ str b := str_cat a b
set_option maxRecDepth 50000 in
set_option maxHeartbeats 12800000 in
theorem rtext_any (g off n c : Nat) (l : List Sx) (w0 : World) (h : XsAt w0 (.slice (some ⟨g, off, none⟩) n c) l) (hv : (chkX l).2 = 0) (hs : SmX l) (hr : IrX l) (hln : l.length = n) :
    ∀ (f i : Nat) (w : World), Below w0.heap.size w0 w → i < n → endN (kidsX l) i - i ≤ f → Calls Tryz.prog 67 #[.slice (some ⟨g, off, none⟩) n c, .int .i64 (i : Int)] w fun e w' => e = .returned (strE (txtF f l i)) ∧ Below w.heap.size w w' := by
  have hT := chkX_tr hv
  have hl2 := (chkX_tree hv).2.2
  intro f
  induction f with
  | zero => intro i w hw hin hf; have := (endX hv (i := i) (by omega)).1; omega
  | succ f ih =>
    intro i w hw hin hf
    have hil0 : i < l.length := by omega
    obtain ⟨x, hx⟩ : ∃ x, l[i]? = some x := ⟨_, List.getElem?_eq_getElem hil0⟩
    have hxm := List.mem_of_getElem? hx
    obtain ⟨hk1, hk2⟩ := (chkX_ok hv).2 x hxm
    have hX : ∀ W, Below w.heap.size w W → XsAt W (.slice (some ⟨g, off, none⟩) n c) l := fun W hW => h.below (below_step hw hW) (Nat.le_refl _)
    by_cases h4 : x.k = 4
    case neg => exact rtext_leaf g off n c i l x f w (hX w (Below.refl _ _)) hx hin hk1 hk2 h4 (hs x hxm).2 (hs x hxm).1 (hr x hxm)
    have hil : i < (kidsX l).length := by rw [kidsX_len]; exact hil0
    have CC := Lib.hid (fun W (hW : Below w.heap.size w W) => rChildren_any _ l i W (hX W hW) hv hil0)
    obtain ⟨K, hK⟩ : ∃ K, cnt (kidsX l) i = K := ⟨_, rfl⟩
    have hend := (endX hv hil0).2
    have hK2 : K ≤ 2000 := by
      have := hT.pos_mono hil (d := cnt (kidsX l) i) (k := 0) (by omega)
      rw [Nat.zero_add, hT.pos_end hil] at this; omega
    obtain ⟨T, hTE⟩ : ∃ T, txtF f l = T := ⟨_, rfl⟩
    have HIH : Hid (∀ j, j < K → ∀ W, Below w.heap.size w W → Calls Tryz.prog 67 #[.slice (some ⟨g, off, none⟩) n c, .int .i64 (posK (kidsX l) i j : Int)] W fun e w' => e = .returned (strE (T (posK (kidsX l) i j))) ∧ Below W.heap.size W w') := Lib.hid fun j hj W hW => by
      obtain ⟨p1, p2, p3⟩ := hT.pos_step hil (k := j) (by omega)
      rw [kidsX_len] at p2
      have p4 := hT.pos_le hil (k := j + 1) (m := cnt (kidsX l) i) (by omega) (Nat.le_refl _)
      rw [hT.pos_end hil] at p4
      rw [← hTE]
      exact ih (posK (kidsX l) i j) W (below_step hw hW) (by omega) (by rw [p3]; omega)
    have HB : Hid (∀ j, j ≤ K → 1 + (posK (kidsX l) i j - (i + 1)) * 210000 + j ≤ 500000000) := Lib.hid fun j hj => by
      have h1 := hT.pos_le hil (k := j) (m := cnt (kidsX l) i) (by omega) (Nat.le_refl _)
      rw [hT.pos_end hil] at h1
      have h2 : (posK (kidsX l) i j - (i + 1)) * 210000 ≤ 2000 * 210000 := Nat.mul_le_mul_right _ (by omega)
      omega
    have HS : Hid (∀ j, j < K → (1 + (posK (kidsX l) i j - (i + 1)) * 210000 + j) + 1 + (T (posK (kidsX l) i j)).1.length ≤ 1 + (posK (kidsX l) i (j + 1) - (i + 1)) * 210000 + (j + 1)) := Lib.hid fun j hj => by
      obtain ⟨p1, p2, p3⟩ := hT.pos_step hil (k := j) (by omega)
      rw [kidsX_len] at p2
      have p4 := hT.pos_le hil (k := j + 1) (m := cnt (kidsX l) i) (by omega) (Nat.le_refl _)
      rw [hT.pos_end hil] at p4
      have p5 := hT.pos_next hil (k := j) (by omega)
      have p6 := txt_len hv hs hr f (posK (kidsX l) i j) p2 (by rw [p3]; omega)
      rw [hTE, p3] at p6
      have p7 : (posK (kidsX l) i (j + 1) - (i + 1)) * 210000 = (posK (kidsX l) i j - (i + 1)) * 210000 + (posK (kidsX l) i (j + 1) - posK (kidsX l) i j) * 210000 := by
        rw [← Nat.add_mul]; congr 1; omega
      omega
    have HStep : Hid (∀ j (fl : Bool) (o : List UInt8), j < K → joinX T ((kidsN (kidsX l) i).drop j) fl o = if (T (posK (kidsX l) i j)).2 ≠ 0 then ([], (T (posK (kidsX l) i j)).2) else joinX T ((kidsN (kidsX l) i).drop (j + 1)) false ((if fl then o else o ++ [32]) ++ (T (posK (kidsX l) i j)).1)) := Lib.hid fun j fl o hj => by
      have h1 := kidsN_at (ks := kidsX l) (i := i) (k := j) (by omega)
      obtain ⟨h2, h3⟩ := List.getElem?_eq_some_iff.1 h1
      rw [List.drop_eq_getElem_cons h2, h3, joinX]
    have HEnd : Hid (∀ fl o, joinX T ((kidsN (kidsX l) i).drop K) fl o = (o, 0)) := Lib.hid fun fl o => by
      rw [List.drop_of_length_le (by rw [kidsN_len]; omega), joinX]
    have HR : Hid (txtF (f + 1) l i = if (joinX T (kidsN (kidsX l) i) true [40]).2 ≠ 0 then ([], (joinX T (kidsN (kidsX l) i) true [40]).2) else ((joinX T (kidsN (kidsX l) i) true [40]).1 ++ [41], 0)) := Lib.hid (by rw [txtF_list hx h4, hTE])
    obtain ⟨R, hRE⟩ : ∃ R, txtF (f + 1) l i = R := ⟨_, rfl⟩
    rw [hRE] at HR ⊢
    obtain ⟨J, hJ⟩ : ∃ J, joinX T (kidsN (kidsX l) i) true [40] = J := ⟨_, rfl⟩
    have HJ0 : Hid (J = joinX T ((kidsN (kidsX l) i).drop 0) true [40]) := Lib.hid (by rw [List.drop_zero, hJ])
    rw [hJ] at HR
    have HPs : Hid (posK (kidsX l) i 0 = i + 1) := Lib.hid (posK_start hil)
    have HKn : Hid (∀ j, j < K → (natC (kidsN (kidsX l) i))[j]? = some (.int .i64 (posK (kidsX l) i j : Int))) := Lib.hid fun j hj => by
      unfold natC; rw [List.getElem?_map, kidsN_at (by omega)]; rfl
    rw [hK] at CC
    obtain ⟨_, _, e0, _, c0, c1, c2, c3, c4, c5, c6, c7⟩ := (hX w (Below.refl _ _)).node hx
    cases e0
    have hi0 : (0 : Int) ≤ (i : Int) := Int.natCast_nonneg _
    have hi1 : (i : Int) < (n : Int) := by omega
    obtain ⟨k, q, nn, s, p, ff, tt, o⟩ := x
    simp only at c0 c1 c2 c3 c4 c5 c6 c7 h4
    subst h4
    obtain ⟨S, hS⟩ : ∃ S, str s = S := ⟨_, rfl⟩
    obtain ⟨P, hP⟩ : ∃ S, str p = S := ⟨_, rfl⟩
    rw [hS] at c3
    rw [hP] at c4
    have hB := below_b1 w (.cells #[.int .i64 4, .int .i64 q, .int .i64 nn, .string S, .string P, .int .i64 ff, .int .i64 tt, .int .i64 o] 28)
    have CC1 := Lib.hid (CC.out _ hB)
    have HBw := Lib.hid hB
    clear h hv hs hr hT hl2 ih hw hin hf hil0 hx hxm hk1 hk2 hX hil CC hK hend hTE hRE hJ hS hP hB hln
    go_enter Tryz.func67, Tryz.ntmps67
    go_wp2_with fail
    refine CC1.out.mono ?_
    rintro e w1 ⟨ga, ca, rfl, HRow, hb1⟩
    have HB1 := Lib.hid (below_step HBw.out hb1)
    clear c0 c1 c2 c3 c4 c5 c6 c7 CC1 hb1
    go_wp2_with fail
    go_loopw [9, 11] (fun x9 x11 wr => ∃ (j : Nat) (o : List UInt8) (O : ByteArray), x11 = .int .i64 (j : Int) ∧ j ≤ K ∧ x9 = .string O ∧ Hid (str o = O) ∧ Hid (o.length ≤ 1 + (posK (kidsX l) i j - (i + 1)) * 210000 + j) ∧ Hid (J = joinX T ((kidsN (kidsX l) i).drop j) (decide (j = 0)) o) ∧ Below w1.heap.size w1 wr) (fun _ x11 _ => K - (intOf x11).toNat)
    case atStart => exact ⟨0, [40], _, rfl, Nat.zero_le _, rfl, Lib.hid rfl, Lib.hid (by rw [HPs.out]; simp), HJ0, Below.refl _ _⟩
    case round =>
      obtain ⟨j, o, O, rfl, hj, rfl, HO, HL, HJ, hbr⟩ := hrel
      have hj0 : (0 : Int) ≤ (j : Int) := Int.natCast_nonneg _
      have hBr := below_step HB1.out hbr
      have zO : O.size ≤ 500000000 := by
        have h1 := HL.out; have h2 := HB.out j hj
        rw [← HO.out, str_size]; omega
      by_cases hlt : j < K
      · have hj1 : (j : Int) < (K : Int) := by omega
        rcases own_formR HRow.out with ⟨_, h0⟩ | ⟨gr, cr, e1, hg1, hg2⟩
        · omega
        obtain ⟨rfl, -, -⟩ := Value.slice.inj e1
        have d0 := own_cell HRow.out (HKn.out j hlt)
        have d1 := (hbr.cell (p := ⟨gr, j, none⟩) hg2).trans d0
        obtain ⟨p, hp⟩ : ∃ p, posK (kidsX l) i j = p := ⟨_, rfl⟩
        have HPj := Lib.hid hp
        have IHj := Lib.hid (HIH.out j hlt wr hBr)
        have HSj := Lib.hid (HS.out j hlt)
        have HStj := Lib.hid (HStep.out j (decide (j = 0)) o hlt)
        rw [hp] at IHj HSj HStj d1
        unfold strE at IHj
        obtain ⟨⟨s, er⟩, hTp⟩ : ∃ r, T p = r := ⟨_, rfl⟩
        rw [hTp] at IHj HSj HStj
        simp only at IHj HSj HStj
        obtain ⟨S', hS'⟩ : ∃ S, str s = S := ⟨_, rfl⟩
        rw [hS'] at IHj
        have HS' := Lib.hid hS'
        have zS : S'.size ≤ 500000000 := by
          have h1 := HSj.out; have h2 := HB.out (j + 1) (by omega)
          rw [← hS', str_size]; omega
        clear e1 d0 hp hTp hS'
        by_cases he : er = 0
        · subst he
          have HJ2 : Hid (J = joinX T ((kidsN (kidsX l) i).drop (j + 1)) false ((if decide (j = 0) then o else o ++ [32]) ++ s)) := Lib.hid (by rw [HJ.out, HStj.out, if_neg (by simp)])
          by_cases hj00 : j = 0
          · have dz : decide ((0 : Int) < (j : Int)) = false := decide_eq_false (by omega)
            have dz2 : ¬ 0 < j := by omega
            have HJ3 : Hid (J = joinX T ((kidsN (kidsX l) i).drop (j + 1)) false (o ++ s)) := Lib.hid (by have := HJ2.out; rw [decide_eq_true hj00, if_pos rfl] at this; exact this)
            clear hj00
            have ho1 : ∀ W, (Op.stringOp .add O S').run Tryz.prog W = .ok (.string (O ++ S')) W := fun W => run_string_add_sum W _ _ (by omega)
            go_wp2_with fail
            refine IHj.out.mono ?_
            rintro e w2 ⟨rfl, hb2⟩
            go_wp2_with fail
            go_roundw
            case rel => exact ⟨j + 1, o ++ s, O ++ S', by go_num, by omega, rfl, Lib.hid (by rw [str_app, HO.out, HS'.out]), Lib.hid (by have h1 := HL.out; rw [HPj.out] at h1; have h2 := HSj.out; rw [List.length_append]; omega), Lib.hid (by rw [decide_eq_false (by omega)]; exact HJ3.out), below_step hbr hb2⟩
            case measure => simp [intOf]; omega
          · have dz : decide ((0 : Int) < (j : Int)) = true := decide_eq_true (by omega)
            have dz2 : 0 < j := by omega
            have HJ3 : Hid (J = joinX T ((kidsN (kidsX l) i).drop (j + 1)) false ((o ++ [32]) ++ s)) := Lib.hid (by have := HJ2.out; rw [decide_eq_false hj00, if_neg (by simp)] at this; exact this)
            clear hj00
            have ho1 : ∀ W, (Op.stringOp .add O ⟨#[32]⟩).run Tryz.prog W = .ok (.string (O ++ ⟨#[32]⟩)) W := fun W => run_string_add_sum W _ _ (by show O.size + 1 ≤ _; omega)
            have ho2 : ∀ W, (Op.stringOp .add (O ++ ⟨#[32]⟩) S').run Tryz.prog W = .ok (.string ((O ++ ⟨#[32]⟩) ++ S')) W := fun W => run_string_add_sum W _ _ (by rw [ByteArray.size_append]; show O.size + 1 + S'.size ≤ _; omega)
            go_wp2_with fail
            refine IHj.out.mono ?_
            rintro e w2 ⟨rfl, hb2⟩
            go_wp2_with fail
            go_roundw
            case rel => exact ⟨j + 1, (o ++ [32]) ++ s, (O ++ ⟨#[32]⟩) ++ S', by go_num, by omega, rfl, Lib.hid (by rw [str_app, str_app, HO.out, HS'.out]; rfl), Lib.hid (by have h1 := HL.out; rw [HPj.out] at h1; have h2 := HSj.out; rw [List.length_append, List.length_append]; simp only [List.length_cons, List.length_nil]; omega), Lib.hid (by rw [decide_eq_false (by omega)]; exact HJ3.out), below_step hbr hb2⟩
            case measure => simp [intOf]; omega
        · have hne : (er != 0) = true := bne_iff_ne.2 he
          have HW : Hid (R = ([], er)) := Lib.hid (by
            have hJe : J = ([], er) := by rw [HJ.out, HStj.out, if_pos he]
            rw [HR.out, hJe, if_pos he])
          clear he
          go_wp2_with fail
          refine IHj.out.mono ?_
          rintro e w2 ⟨rfl, hb2⟩
          go_wp2_with fail
          go_ret2
          exact ⟨by rw [HW.out]; rfl, below_step hBr hb2⟩
      · obtain rfl : j = K := by omega
        have HW : Hid (R = (o ++ [41], 0)) := Lib.hid (by
          have hJe : J = (o, 0) := by rw [HJ.out, HEnd.out]
          rw [HR.out, hJe, if_neg (by simp)])
        have ho1 : ∀ W, (Op.stringOp .add O ⟨#[41]⟩).run Tryz.prog W = .ok (.string (O ++ ⟨#[41]⟩)) W := fun W => run_string_add_sum W _ _ (by show O.size + 1 ≤ _; omega)
        go_wp2_with fail
        go_ret2
        exact ⟨by rw [HW.out]; unfold strE; simp only; rw [str_app, HO.out]; rfl, hBr⟩
set_option maxRecDepth 50000 in
theorem rPrint_any (v : Value) (l : List Sx) (w : World) (h : XsAt w v l) (hs : SmX l) (hi : InX l) (hr : IrX l) :
    Calls Tryz.prog 39 #[v] w fun e w' => e = .returned (strE (prtX l)) ∧ Below w.heap.size w w' := by
  have C := Lib.hid (rCheck10_any v l w h hs hi)
  obtain ⟨av, cv, rfl, _⟩ := h.slice
  by_cases he : (chkX l).2 = 0
  · have hne := List.length_pos_iff.2 (chkX_tree he).2.1
    obtain ⟨g, off, rfl⟩ := cap_in h hne
    have CT := Lib.hid (fun W (hW : Below w.heap.size w W) => rtext_any g off l.length cv l w h he hs hr rfl l.length 0 W hW hne (by have := (endX he hne).2; omega))
    rw [prtX_txt he]
    rw [(chkX_ok he).1] at C
    obtain ⟨r, hrE⟩ : ∃ r, txtF l.length l 0 = r := ⟨_, rfl⟩
    rw [hrE] at CT ⊢
    obtain ⟨S, e0, hq⟩ := strE_two r
    rw [hq] at CT ⊢
    obtain ⟨n, hn⟩ : ∃ n, l.length = n := ⟨_, rfl⟩
    rw [hn] at C CT ⊢
    simp only at C
    clear h hs hi hr he hne hrE hq hn
    go_enter Tryz.func39, Tryz.ntmps39
    go_wp2_with fail
    refine C.out.mono ?_
    rintro e w1 ⟨rfl, hb1⟩
    go_wp2_with fail
    refine (CT.out w1 hb1).mono ?_
    rintro e w2 ⟨rfl, hb2⟩
    go_wp2_with fail
    go_ret2
    exact ⟨rfl, below_step hb1 hb2⟩
  · have hp : prtX l = ([], (chkX l).2) := by unfold prtX; rw [if_pos he]
    rw [hp]
    obtain ⟨⟨z1, z⟩, hz⟩ : ∃ z, chkX l = z := ⟨_, rfl⟩
    rw [hz] at C he ⊢
    simp only at C he ⊢
    obtain ⟨n, hn⟩ : ∃ n, l.length = n := ⟨_, rfl⟩
    rw [hn] at C ⊢
    have hne : (z != 0) = true := bne_iff_ne.2 he
    clear h hs hi hr he hp hz hn
    go_enter Tryz.func39, Tryz.ntmps39
    go_wp2_with fail
    refine C.out.mono ?_
    rintro e w1 ⟨rfl, hb1⟩
    go_wp2_with fail
    go_ret2
    exact ⟨rfl, hb1⟩


theorem results_box8 {fn : Func} {p : Tmp} (h : fn.results = #[.cell p 28]) (tmps : Array Value) (W : World) (n : Nat) (y0 y1 y2 y3 y4 y5 y6 y7 : Value) (tt : TypeId) (hp : tmps.getD p undef = .pointer (some ⟨n, 0, none⟩)) (b : W.heap[n]? = some (.cells #[y0, y1, y2, y3, y4, y5, y6, y7] tt (0, 0))) :
    (results fn tmps).run Tryz.prog W = .ok (.agg #[y0, y1, y2, y3, y4, y5, y6, y7]) W := by
  obtain ⟨c0, c1, c2, c3, c4, c5, c6, c7⟩ := box8_facts b
  have hp' : tmps[p]?.getD undef = .pointer (some ⟨n, 0, none⟩) := by simpa using hp
  simp [results, h, hp', go_sem, c0, c1, c2, c3, c4, c5, c6, c7]
set_option maxRecDepth 50000 in
set_option maxHeartbeats 3200000 in
theorem rSame_x (x y : Sx) (w : World) : Calls Tryz.prog 43 #[sxA x, sxA y] w fun e w' => e = .returned (.bool (sameX x y)) ∧ Below w.heap.size w w' := by
  obtain ⟨x0, x1, x2, x3, x4, x5, x6, x7⟩ := x
  obtain ⟨y0, y1, y2, y3, y4, y5, y6, y7⟩ := y
  have hb3 := str_beq x3 y3
  have hb4 := str_beq x4 y4
  obtain ⟨b3, h3⟩ : ∃ b, decide (x3 = y3) = b := ⟨_, rfl⟩
  obtain ⟨b4, h4⟩ : ∃ b, decide (x4 = y4) = b := ⟨_, rfl⟩
  obtain ⟨bx, hx⟩ : ∃ b, (x0 == 3) = b := ⟨_, rfl⟩
  obtain ⟨by', hy⟩ : ∃ b, (y0 == 3) = b := ⟨_, rfl⟩
  have HV : Hid (sameX ⟨x0, x1, x2, x3, x4, x5, x6, x7⟩ ⟨y0, y1, y2, y3, y4, y5, y6, y7⟩ = (bx && (by' && (b3 && b4)))) := Lib.hid (by
    unfold sameX; rw [← h3, ← h4, ← hx, ← hy, Bool.eq_iff_iff]
    simp only [decide_eq_true_eq, Bool.and_eq_true, beq_iff_eq])
  rw [h3] at hb3
  rw [h4] at hb4
  show Calls _ _ #[.agg #[.int .i64 x0, .int .i64 x1, .int .i64 x2, .string (str x3), .string (str x4), .int .i64 x5, .int .i64 x6, .int .i64 x7], .agg #[.int .i64 y0, .int .i64 y1, .int .i64 y2, .string (str y3), .string (str y4), .int .i64 y5, .int .i64 y6, .int .i64 y7]] _ _
  obtain ⟨S3, hS3⟩ : ∃ S, str x3 = S := ⟨_, rfl⟩
  obtain ⟨S4, hS4⟩ : ∃ S, str x4 = S := ⟨_, rfl⟩
  obtain ⟨T3, hT3⟩ : ∃ S, str y3 = S := ⟨_, rfl⟩
  obtain ⟨T4, hT4⟩ : ∃ S, str y4 = S := ⟨_, rfl⟩
  rw [hS3, hT3] at hb3
  rw [hS4, hT4] at hb4
  rw [hS3, hS4, hT3, hT4]
  have HB : Hid (∀ o o', Below w.heap.size w ((w.alloc o).alloc o')) := Lib.hid fun o o' => (below_b1 w o).alloc (by rw [World.size_alloc]; omega) o'
  clear h3 h4 hS3 hS4 hT3 hT4
  cases bx <;> cases by' <;> cases b3 <;> cases b4 <;> (
    go_enter Tryz.func43, Tryz.ntmps43
    go_wp2_with fail
    go_ret
    exact ⟨ret_bool HV.out.symm, HB.out _ _⟩)
set_option maxRecDepth 50000 in
set_option maxHeartbeats 3200000 in
theorem rbare_any (x : Sx) (w : World) : Calls Tryz.prog 68 #[sxA x] w fun e w' => e = .returned (sxA (bareX x)) ∧ Below w.heap.size w w' := by
  obtain ⟨x0, x1, x2, x3, x4, x5, x6, x7⟩ := x
  show Calls _ _ #[.agg #[.int .i64 x0, .int .i64 x1, .int .i64 x2, .string (str x3), .string (str x4), .int .i64 x5, .int .i64 x6, .int .i64 x7]] _ _
  have hR : sxA (bareX ⟨x0, x1, x2, x3, x4, x5, x6, x7⟩) = .agg #[.int .i64 x0, .int .i64 x1, .int .i64 x2, .string (str x3), .string (str x4), .int .i64 0, .int .i64 0, .int .i64 0] := rfl
  rw [hR]
  obtain ⟨S, hS⟩ : ∃ S, str x3 = S := ⟨_, rfl⟩
  obtain ⟨P, hP⟩ : ∃ S, str x4 = S := ⟨_, rfl⟩
  rw [hS, hP]
  clear hR hS hP
  go_enter Tryz.func68, Tryz.ntmps68
  go_wp2_with fail
  have hbx := World.alloc_heap_new (w.alloc (.cells #[.int .i64 x0, .int .i64 x1, .int .i64 x2, .string S, .string P, .int .i64 0, .int .i64 0, .int .i64 0] 28)) (.cells #[.int .i64 x0, .int .i64 x1, .int .i64 x2, .string S, .string P, .int .i64 0, .int .i64 0, .int .i64 0] 28)
  rw [World.size_alloc] at hbx
  refine bodyPost_ret (results_box8 rfl _ _ (w.heap.size + 1) _ _ _ _ _ _ _ _ _ rfl hbx) rfl ?_
  exact ⟨rfl, (below_b1 w _).alloc (by rw [World.size_alloc]; omega) _⟩


theorem alikeB_cons (x y : Sx) (a b : List Sx) : alikeB (x :: a) (y :: b) = (decide (bareX x = bareX y) && alikeB a b) := rfl
theorem alike_step {a b : List Sx} {i : Nat} {x y : Sx} (hx : a[i]? = some x) (hy : b[i]? = some y) (h : bareX x = bareX y) : alikeB (a.drop i) (b.drop i) = alikeB (a.drop (i + 1)) (b.drop (i + 1)) := by
  obtain ⟨h1, h2⟩ := List.getElem?_eq_some_iff.1 hx
  obtain ⟨h3, h4⟩ := List.getElem?_eq_some_iff.1 hy
  rw [List.drop_eq_getElem_cons h1, h2, List.drop_eq_getElem_cons h3, h4, alikeB_cons, decide_eq_true h, Bool.true_and]
theorem alike_stop {a b : List Sx} {i : Nat} {x y : Sx} (hx : a[i]? = some x) (hy : b[i]? = some y) (h : bareX x ≠ bareX y) : alikeB (a.drop i) (b.drop i) = false := by
  obtain ⟨h1, h2⟩ := List.getElem?_eq_some_iff.1 hx
  obtain ⟨h3, h4⟩ := List.getElem?_eq_some_iff.1 hy
  rw [List.drop_eq_getElem_cons h1, h2, List.drop_eq_getElem_cons h3, h4, alikeB_cons, decide_eq_false h, Bool.false_and]
theorem alike_len {a b : List Sx} (h : a.length ≠ b.length) : alikeB a b = false := by
  rw [Bool.eq_false_iff]
  intro e
  have := congrArg List.length (alike_map.1 e)
  rw [List.length_map, List.length_map] at this
  exact h this
/-- The fields that count. -/
theorem bare_iff (x y : Sx) : bareX x = bareX y ↔ x.k = y.k ∧ x.c = y.c ∧ x.n = y.n ∧ x.s = y.s ∧ x.p = y.p := by
  obtain ⟨x0, x1, x2, x3, x4, x5, x6, x7⟩ := x
  obtain ⟨y0, y1, y2, y3, y4, y5, y6, y7⟩ := y
  unfold bareX
  simp
theorem str_injX {a b : List UInt8} (h : str a = str b) : a = b := congrArg (fun s : ByteArray => s.data.toList) h
theorem toList_injX {a b : ByteArray} (h : a.toList = b.toList) : a = b := by
  rw [ByteArray.toList_eq, ByteArray.toList_eq] at h
  obtain ⟨⟨a⟩⟩ := a
  obtain ⟨⟨b⟩⟩ := b
  cases h; rfl
theorem neq_sx {x0 x1 x2 x5 x6 x7 y0 y1 y2 y5 y6 y7 : Int} {S3 S4 T3 T4 : ByteArray} (h : ¬ (x0 = y0 ∧ x1 = y1 ∧ x2 = y2 ∧ S3 = T3 ∧ S4 = T4)) (W : World) :
    (binOp .neq 28 (.agg #[.int .i64 x0, .int .i64 x1, .int .i64 x2, .string S3, .string S4, .int .i64 x5, .int .i64 x6, .int .i64 x7]) (.agg #[.int .i64 y0, .int .i64 y1, .int .i64 y2, .string T3, .string T4, .int .i64 y5, .int .i64 y6, .int .i64 y7])).run Tryz.prog W = .ok (.bool true) W := by
  simp [go_sem]
  intro h0 h1 h2 h3 h4
  exact absurd ⟨h0, h1, h2, toList_injX h3, toList_injX h4⟩ h
theorem eq_sx (x0 x1 x2 x5 x6 x7 : Int) (S3 S4 : ByteArray) (W : World) :
    (binOp .neq 28 (.agg #[.int .i64 x0, .int .i64 x1, .int .i64 x2, .string S3, .string S4, .int .i64 x5, .int .i64 x6, .int .i64 x7]) (.agg #[.int .i64 x0, .int .i64 x1, .int .i64 x2, .string S3, .string S4, .int .i64 x5, .int .i64 x6, .int .i64 x7])).run Tryz.prog W = .ok (.bool false) W := by
  simp [go_sem]
set_option maxRecDepth 50000 in
set_option maxHeartbeats 6400000 in
theorem rAlike_in (ga oa gb ob n ca cb : Nat) (a b : List Sx) (w : World) (h : XsAt w (.slice (some ⟨ga, oa, none⟩) n ca) a) (h2 : XsAt w (.slice (some ⟨gb, ob, none⟩) n cb) b) (hs : SmX a) (hi : InX a) (hs2 : SmX b) (hi2 : InX b) (e1 : (chkX a).2 = 0) (e2 : (chkX b).2 = 0) (hna : a.length = n) (hnb : b.length = n) :
    Calls Tryz.prog 41 #[.slice (some ⟨ga, oa, none⟩) n ca, .slice (some ⟨gb, ob, none⟩) n cb] w fun e w' => e = .returned (.tuple #[.bool (alikeB a b), .int .i64 0]) ∧ Below w.heap.size w w' := by
  have C1 := Lib.hid (rCheck10_any _ a w h hs hi)
  have C2 := Lib.hid (fun W (hW : Below w.heap.size w W) => rCheck10_any _ b W (h2.below hW (Nat.le_refl _)) hs2 hi2)
  rw [(chkX_ok e1).1] at C1
  rw [(chkX_ok e2).1] at C2
  simp only at C1 C2
  have HV := Lib.hid (fun W (hW : Below w.heap.size w W) => h.below hW (Nat.le_refl _))
  have HU := Lib.hid (fun W (hW : Below w.heap.size w W) => h2.below hW (Nat.le_refl _))
  have CB := Lib.hid (fun x W => rbare_any x W)
  have HNa := Lib.hid hna
  have HNb := Lib.hid hnb
  have hn2 : n ≤ 2000 := by have := (chkX_tree e1).2.2; omega
  have q0 : ((n : Int) != (n : Int)) = false := by simp
  obtain ⟨R, hR⟩ : ∃ R, alikeB a b = R := ⟨_, rfl⟩
  have HR0 : Hid (R = alikeB (a.drop 0) (b.drop 0)) := Lib.hid (by rw [List.drop_zero, List.drop_zero, hR])
  rw [hR]
  clear h h2 hs hi hs2 hi2 e1 e2 hna hnb hR
  go_enter Tryz.func41, Tryz.ntmps41
  go_wp2_with fail
  refine C1.out.mono ?_
  rintro e w1 ⟨rfl, hb1⟩
  go_wp2_with fail
  refine (C2.out w1 hb1).mono ?_
  rintro e w2 ⟨rfl, hb2⟩
  have hB2 := below_step hb1 hb2
  clear hb1 hb2
  go_wp2_with fail
  go_loopw [8] (fun x8 wr => ∃ i : Nat, i ≤ n ∧ x8 = .int .i64 (i : Int) ∧ Hid (R = alikeB (a.drop i) (b.drop i)) ∧ Below w.heap.size w wr) (fun x8 _ => n - (intOf x8).toNat)
  case atStart => exact ⟨0, Nat.zero_le _, rfl, HR0, hB2⟩
  case round =>
    obtain ⟨i, hin, rfl, HRi, hb⟩ := hrel
    have hi0 : (0 : Int) ≤ (i : Int) := Int.natCast_nonneg _
    by_cases hlt : i < n
    · obtain ⟨x, hx⟩ : ∃ x, a[i]? = some x := ⟨_, List.getElem?_eq_getElem (by rw [HNa.out]; exact hlt)⟩
      obtain ⟨y, hy⟩ : ∃ x, b[i]? = some x := ⟨_, List.getElem?_eq_getElem (by rw [HNb.out]; exact hlt)⟩
      have hi9 : (i : Int) < (n : Int) := by omega
      have HEq := Lib.hid (fun he => HRi.out.trans (alike_step hx hy he))
      have HNe := Lib.hid (fun he => HRi.out.trans (alike_stop hx hy he))
      have CX := Lib.hid (CB.out x)
      have CY := Lib.hid (CB.out y)
      have hbD := Lib.hid hb.drew
      obtain ⟨x0, x1, x2, x3, x4, x5, x6, x7⟩ := x
      obtain ⟨y0, y1, y2, y3, y4, y5, y6, y7⟩ := y
      have HBi : Hid (bareX ⟨x0, x1, x2, x3, x4, x5, x6, x7⟩ = bareX ⟨y0, y1, y2, y3, y4, y5, y6, y7⟩ ↔ x0 = y0 ∧ x1 = y1 ∧ x2 = y2 ∧ x3 = y3 ∧ x4 = y4) := Lib.hid (bare_iff _ _)
      unfold bareX sxA sxC at CX CY
      simp only at CX CY
      obtain ⟨S3, hS3⟩ : ∃ S, str x3 = S := ⟨_, rfl⟩
      obtain ⟨S4, hS4⟩ : ∃ S, str x4 = S := ⟨_, rfl⟩
      obtain ⟨T3, hT3⟩ : ∃ S, str y3 = S := ⟨_, rfl⟩
      obtain ⟨T4, hT4⟩ : ∃ S, str y4 = S := ⟨_, rfl⟩
      rw [hS3, hS4] at CX
      rw [hT3, hT4] at CY
      have HK : Hid (∀ W, Below w.heap.size w W → (W.cell? ⟨ga, oa + i * 8, none⟩ = some (.int .i64 x0) ∧ W.cell? ⟨ga, oa + i * 8 + 1, none⟩ = some (.int .i64 x1) ∧ W.cell? ⟨ga, oa + i * 8 + 2, none⟩ = some (.int .i64 x2) ∧ W.cell? ⟨ga, oa + i * 8 + 3, none⟩ = some (.string S3) ∧ W.cell? ⟨ga, oa + i * 8 + 4, none⟩ = some (.string S4) ∧ W.cell? ⟨ga, oa + i * 8 + 5, none⟩ = some (.int .i64 x5) ∧ W.cell? ⟨ga, oa + i * 8 + 6, none⟩ = some (.int .i64 x6) ∧ W.cell? ⟨ga, oa + i * 8 + 7, none⟩ = some (.int .i64 x7)) ∧
          W.cell? ⟨gb, ob + i * 8, none⟩ = some (.int .i64 y0) ∧ W.cell? ⟨gb, ob + i * 8 + 1, none⟩ = some (.int .i64 y1) ∧ W.cell? ⟨gb, ob + i * 8 + 2, none⟩ = some (.int .i64 y2) ∧ W.cell? ⟨gb, ob + i * 8 + 3, none⟩ = some (.string T3) ∧ W.cell? ⟨gb, ob + i * 8 + 4, none⟩ = some (.string T4) ∧ W.cell? ⟨gb, ob + i * 8 + 5, none⟩ = some (.int .i64 y5) ∧ W.cell? ⟨gb, ob + i * 8 + 6, none⟩ = some (.int .i64 y6) ∧ W.cell? ⟨gb, ob + i * 8 + 7, none⟩ = some (.int .i64 y7)) := Lib.hid fun W hW => by
        obtain ⟨g1, o1, u1, _, k0, k1, k2, k3, k4, k5, k6, k7⟩ := (HV.out W hW).node hx
        obtain ⟨g2, o2, u2, _, m0, m1, m2, m3, m4, m5, m6, m7⟩ := (HU.out W hW).node hy
        cases u1
        cases u2
        simp only at k0 k1 k2 k3 k4 k5 k6 k7 m0 m1 m2 m3 m4 m5 m6 m7
        rw [hS3] at k3
        rw [hS4] at k4
        rw [hT3] at m3
        rw [hT4] at m4
        exact ⟨⟨k0, k1, k2, k3, k4, k5, k6, k7⟩, m0, m1, m2, m3, m4, m5, m6, m7⟩
      obtain ⟨⟨k0, k1, k2, k3, k4, k5, k6, k7⟩, m0, m1, m2, m3, m4, m5, m6, m7⟩ := HK.out wr hb
      by_cases hxy : bareX ⟨x0, x1, x2, x3, x4, x5, x6, x7⟩ = bareX ⟨y0, y1, y2, y3, y4, y5, y6, y7⟩
      · have HR2 := Lib.hid (HEq.out hxy)
        obtain ⟨u0, u1, u2, u3, u4⟩ := HBi.out.1 hxy
        subst u0 u1 u2 u3 u4
        have v3 : S3 = T3 := hS3.symm.trans hT3
        have v4 : S4 = T4 := hS4.symm.trans hT4
        subst v3 v4
        have hneq := fun W => eq_sx x0 x1 x2 0 0 0 S3 S4 W
        clear hx hy hS3 hS4 hT3 hT4 HEq HNe HBi hxy
        go_wp2_with fail
        go_region_held3 (fun W => (W.cell? ⟨ga, oa + i * 8, none⟩ = some (.int .i64 x0) ∧ W.cell? ⟨ga, oa + i * 8 + 1, none⟩ = some (.int .i64 x1) ∧ W.cell? ⟨ga, oa + i * 8 + 2, none⟩ = some (.int .i64 x2) ∧ W.cell? ⟨ga, oa + i * 8 + 3, none⟩ = some (.string S3) ∧ W.cell? ⟨ga, oa + i * 8 + 4, none⟩ = some (.string S4) ∧ W.cell? ⟨ga, oa + i * 8 + 5, none⟩ = some (.int .i64 x5) ∧ W.cell? ⟨ga, oa + i * 8 + 6, none⟩ = some (.int .i64 x6) ∧ W.cell? ⟨ga, oa + i * 8 + 7, none⟩ = some (.int .i64 x7)) ∧
            W.cell? ⟨gb, ob + i * 8, none⟩ = some (.int .i64 x0) ∧ W.cell? ⟨gb, ob + i * 8 + 1, none⟩ = some (.int .i64 x1) ∧ W.cell? ⟨gb, ob + i * 8 + 2, none⟩ = some (.int .i64 x2) ∧ W.cell? ⟨gb, ob + i * 8 + 3, none⟩ = some (.string S3) ∧ W.cell? ⟨gb, ob + i * 8 + 4, none⟩ = some (.string S4) ∧ W.cell? ⟨gb, ob + i * 8 + 5, none⟩ = some (.int .i64 y5) ∧ W.cell? ⟨gb, ob + i * 8 + 6, none⟩ = some (.int .i64 y6) ∧ W.cell? ⟨gb, ob + i * 8 + 7, none⟩ = some (.int .i64 y7)) (first | exact HK.out _ (by assumption) | go_keep) (first
          | (go_at_call 68; with_reducible refine (CX.out _).mono ?_; rintro e w3 ⟨rfl, hb3'⟩; have hB3 := below_step (by first | assumption | exact hbD.out) hb3')
          | (go_at_call 68; with_reducible refine (CY.out _).mono ?_; rintro e w4 ⟨rfl, hb4'⟩; have hB4 := below_step (by first | assumption | exact hbD.out) hb4'))
        all_goals go_wp2_with fail
        all_goals exact ⟨⟨i + 1, by omega, by go_num, HR2, by assumption⟩, by simp [intOf]; omega⟩
      · have HW := Lib.hid (HNe.out hxy)
        have hne := fun hh : x0 = y0 ∧ x1 = y1 ∧ x2 = y2 ∧ S3 = T3 ∧ S4 = T4 => hxy (HBi.out.2 ⟨hh.1, hh.2.1, hh.2.2.1, str_injX (by rw [hS3, hT3]; exact hh.2.2.2.1), str_injX (by rw [hS4, hT4]; exact hh.2.2.2.2)⟩)
        have hneq := fun W => neq_sx (x5 := 0) (x6 := 0) (x7 := 0) (y5 := 0) (y6 := 0) (y7 := 0) hne W
        clear hx hy hS3 hS4 hT3 hT4 HEq HNe HBi hxy hne
        go_wp2_with fail
        go_region_held3 (fun W => (W.cell? ⟨ga, oa + i * 8, none⟩ = some (.int .i64 x0) ∧ W.cell? ⟨ga, oa + i * 8 + 1, none⟩ = some (.int .i64 x1) ∧ W.cell? ⟨ga, oa + i * 8 + 2, none⟩ = some (.int .i64 x2) ∧ W.cell? ⟨ga, oa + i * 8 + 3, none⟩ = some (.string S3) ∧ W.cell? ⟨ga, oa + i * 8 + 4, none⟩ = some (.string S4) ∧ W.cell? ⟨ga, oa + i * 8 + 5, none⟩ = some (.int .i64 x5) ∧ W.cell? ⟨ga, oa + i * 8 + 6, none⟩ = some (.int .i64 x6) ∧ W.cell? ⟨ga, oa + i * 8 + 7, none⟩ = some (.int .i64 x7)) ∧
            W.cell? ⟨gb, ob + i * 8, none⟩ = some (.int .i64 y0) ∧ W.cell? ⟨gb, ob + i * 8 + 1, none⟩ = some (.int .i64 y1) ∧ W.cell? ⟨gb, ob + i * 8 + 2, none⟩ = some (.int .i64 y2) ∧ W.cell? ⟨gb, ob + i * 8 + 3, none⟩ = some (.string T3) ∧ W.cell? ⟨gb, ob + i * 8 + 4, none⟩ = some (.string T4) ∧ W.cell? ⟨gb, ob + i * 8 + 5, none⟩ = some (.int .i64 y5) ∧ W.cell? ⟨gb, ob + i * 8 + 6, none⟩ = some (.int .i64 y6) ∧ W.cell? ⟨gb, ob + i * 8 + 7, none⟩ = some (.int .i64 y7)) (first | exact HK.out _ (by assumption) | go_keep) (first
          | (go_at_call 68; with_reducible refine (CX.out _).mono ?_; rintro e w3 ⟨rfl, hb3'⟩; have hB3 := below_step (by first | assumption | exact hbD.out) hb3')
          | (go_at_call 68; with_reducible refine (CY.out _).mono ?_; rintro e w4 ⟨rfl, hb4'⟩; have hB4 := below_step (by first | assumption | exact hbD.out) hb4'))
        all_goals go_wp2_with fail
        all_goals go_ret2
        all_goals exact ⟨by rw [HW.out]; rfl, by assumption⟩
    · obtain rfl : i = n := by omega
      have HW : Hid (R = true) := Lib.hid (by
        rw [HRi.out, List.drop_of_length_le (Nat.le_of_eq HNa.out), List.drop_of_length_le (Nat.le_of_eq HNb.out)]; rfl)
      go_wp2_with fail
      go_ret2
      exact ⟨by rw [HW.out]; rfl, hb⟩
set_option maxRecDepth 50000 in
theorem rAlike_bad (v u : Value) (a b : List Sx) (w : World) (h : XsAt w v a) (h2 : XsAt w u b) (hs : SmX a) (hi : InX a) (hs2 : SmX b) (hi2 : InX b) (hb : (chkX a).2 ≠ 0 ∨ (chkX a).2 = 0 ∧ (chkX b).2 ≠ 0 ∨ (chkX a).2 = 0 ∧ (chkX b).2 = 0 ∧ a.length ≠ b.length) :
    Calls Tryz.prog 41 #[v, u] w fun e w' => e = .returned (.tuple #[.bool (alikeX a b).1, .int .i64 (alikeX a b).2]) ∧ Below w.heap.size w w' := by
  have C1 := Lib.hid (rCheck10_any v a w h hs hi)
  have C2 := Lib.hid (fun W (hW : Below w.heap.size w W) => rCheck10_any u b W (h2.below hW (Nat.le_refl _)) hs2 hi2)
  have HP : alikeX a b = if (chkX a).2 ≠ 0 then (false, (chkX a).2) else if (chkX b).2 ≠ 0 then (false, (chkX b).2) else (alikeB a b, 0) := rfl
  have HL := fun hl => alike_len (a := a) (b := b) hl
  obtain ⟨va, vc, rfl, _⟩ := h.slice
  obtain ⟨ua, uc, rfl, _⟩ := h2.slice
  obtain ⟨n, hn⟩ : ∃ n, a.length = n := ⟨_, rfl⟩
  obtain ⟨m, hm⟩ : ∃ n, b.length = n := ⟨_, rfl⟩
  obtain ⟨⟨a1, a2⟩, ha⟩ : ∃ z, chkX a = z := ⟨_, rfl⟩
  obtain ⟨⟨b1, b2⟩, hb'⟩ : ∃ z, chkX b = z := ⟨_, rfl⟩
  obtain ⟨R, hR⟩ : ∃ R, alikeX a b = R := ⟨_, rfl⟩
  rw [ha] at C1 hb HP
  rw [hb'] at C2 hb HP
  rw [hR] at HP ⊢
  simp only at C1 C2 hb HP
  rw [hn] at C1 hb HL ⊢
  rw [hm] at C2 hb HL ⊢
  clear h h2 hs hi hs2 hi2 hn hm ha hb' hR
  rcases hb with h1 | ⟨h1, h2⟩ | ⟨h1, h2, h3⟩
  · have HW := Lib.hid (HP.trans (if_pos h1))
    have q1 : (a2 == 0) = false := beq_eq_false_iff_ne.2 h1
    have q2 : (a2 != 0) = true := bne_iff_ne.2 h1
    clear HP h1 HL
    go_enter Tryz.func41, Tryz.ntmps41
    go_wp2_with fail
    refine C1.out.mono ?_
    rintro e w1 ⟨rfl, hb1⟩
    go_wp2_with fail
    go_ret2
    exact ⟨by rw [HW.out]; rfl, hb1⟩
  · subst h1
    have HW := Lib.hid (HP.trans (by rw [if_neg (by simp), if_pos h2]))
    have q2 : (b2 != 0) = true := bne_iff_ne.2 h2
    clear HP h2 HL
    go_enter Tryz.func41, Tryz.ntmps41
    go_wp2_with fail
    refine C1.out.mono ?_
    rintro e w1 ⟨rfl, hb1⟩
    go_wp2_with fail
    refine (C2.out w1 hb1).mono ?_
    rintro e w2 ⟨rfl, hb2⟩
    go_wp2_with fail
    go_ret2
    exact ⟨by rw [HW.out]; rfl, below_step hb1 hb2⟩
  · subst h1
    subst h2
    have HW := Lib.hid (HP.trans (by rw [if_neg (by simp), if_neg (by simp), HL h3]))
    have q2 : ((n : Int) != (m : Int)) = true := bne_iff_ne.2 (by omega)
    clear HP h3 HL
    go_enter Tryz.func41, Tryz.ntmps41
    go_wp2_with fail
    refine C1.out.mono ?_
    rintro e w1 ⟨rfl, hb1⟩
    go_wp2_with fail
    refine (C2.out w1 hb1).mono ?_
    rintro e w2 ⟨rfl, hb2⟩
    go_wp2_with fail
    go_ret2
    exact ⟨by rw [HW.out]; rfl, below_step hb1 hb2⟩
theorem rAlike_any (v u : Value) (a b : List Sx) (w : World) (h : XsAt w v a) (h2 : XsAt w u b) (hs : SmX a) (hi : InX a) (hs2 : SmX b) (hi2 : InX b) :
    Calls Tryz.prog 41 #[v, u] w fun e w' => e = .returned (.tuple #[.bool (alikeX a b).1, .int .i64 (alikeX a b).2]) ∧ Below w.heap.size w w' := by
  by_cases e1 : (chkX a).2 = 0
  · by_cases e2 : (chkX b).2 = 0
    · by_cases hl : a.length = b.length
      · have hpa := List.length_pos_iff.2 (chkX_tree e1).2.1
        obtain ⟨va, vc, rfl, _⟩ := h.slice
        obtain ⟨ua, uc, rfl, _⟩ := h2.slice
        obtain ⟨ga, oa, rfl⟩ := cap_in h hpa
        obtain ⟨gb, ob, rfl⟩ := cap_in h2 (by omega : 0 < b.length)
        have hx : alikeX a b = (alikeB a b, 0) := by unfold alikeX; rw [if_neg (by simpa using e1), if_neg (by simpa using e2)]
        rw [hx, ← hl]
        rw [← hl] at h2
        exact rAlike_in ga oa gb ob a.length vc uc a b w h h2 hs hi hs2 hi2 e1 e2 rfl hl.symm
      · exact rAlike_bad v u a b w h h2 hs hi hs2 hi2 (.inr (.inr ⟨e1, e2, hl⟩))
    · exact rAlike_bad v u a b w h h2 hs hi hs2 hi2 (.inr (.inl ⟨e1, e2⟩))
  · exact rAlike_bad v u a b w h h2 hs hi hs2 hi2 (.inl e1)


set_option maxRecDepth 50000 in
set_option maxHeartbeats 6400000 in
theorem Alike_in (ga oa gb ob n ca cb : Nat) (a b : List Sx) (w : World) (h : XsAt w (.slice (some ⟨ga, oa, none⟩) n ca) a) (h2 : XsAt w (.slice (some ⟨gb, ob, none⟩) n cb) b) (hs : SmX a) (hi : InX a) (hs2 : SmX b) (hi2 : InX b) (T : STabs w) (e1 : (chkX a).2 = 0) (e2 : (chkX b).2 = 0) (hna : a.length = n) (hnb : b.length = n) :
    Calls Tryz.prog 40 #[.slice (some ⟨ga, oa, none⟩) n ca, .slice (some ⟨gb, ob, none⟩) n cb] w fun e w' => e = .returned (.tuple #[.bool (alikeB a b), .int .i64 0]) ∧ Below w.heap.size w w' := by
  have C := Lib.hid (check_two _ _ a b w h h2 hs hi hs2 hi2 T)
  rw [if_neg (by simpa using e1), e2] at C
  have HV := Lib.hid (fun W (hW : Below w.heap.size w W) => h.below hW (Nat.le_refl _))
  have HU := Lib.hid (fun W (hW : Below w.heap.size w W) => h2.below hW (Nat.le_refl _))
  have HNa := Lib.hid hna
  have HNb := Lib.hid hnb
  have hn2 : n ≤ 2000 := by have := (chkX_tree e1).2.2; omega
  have q0 : ((n : Int) != (n : Int)) = false := by simp
  obtain ⟨R, hR⟩ : ∃ R, alikeB a b = R := ⟨_, rfl⟩
  have HR0 : Hid (R = alikeB (a.drop 0) (b.drop 0)) := Lib.hid (by rw [List.drop_zero, List.drop_zero, hR])
  rw [hR]
  clear h h2 hs hi hs2 hi2 T e1 e2 hna hnb hR
  go_enter Tryz.func40, Tryz.ntmps40
  go_wp2_with fail
  refine C.out.mono ?_
  rintro e w1 ⟨rfl, hB1⟩
  go_wp2_with fail
  go_loopw [23] (fun x8 wr => ∃ i : Nat, i ≤ n ∧ x8 = .int .i64 (i : Int) ∧ Hid (R = alikeB (a.drop i) (b.drop i)) ∧ Below w.heap.size w wr) (fun x8 _ => n - (intOf x8).toNat)
  case atStart => exact ⟨0, Nat.zero_le _, rfl, HR0, hB1⟩
  case round =>
    obtain ⟨i, hin, rfl, HRi, hb⟩ := hrel
    have hi0 : (0 : Int) ≤ (i : Int) := Int.natCast_nonneg _
    by_cases hlt : i < n
    · obtain ⟨x, hx⟩ : ∃ x, a[i]? = some x := ⟨_, List.getElem?_eq_getElem (by rw [HNa.out]; exact hlt)⟩
      obtain ⟨y, hy⟩ : ∃ x, b[i]? = some x := ⟨_, List.getElem?_eq_getElem (by rw [HNb.out]; exact hlt)⟩
      have hi9 : (i : Int) < (n : Int) := by omega
      have HEq := Lib.hid (fun he => HRi.out.trans (alike_step hx hy he))
      have HNe := Lib.hid (fun he => HRi.out.trans (alike_stop hx hy he))
      obtain ⟨g1, o1, u1, hga, k0, k1, k2, k3, k4, k5, k6, k7⟩ := (HV.out wr hb).node hx
      cases u1
      obtain ⟨g2, o2, u2, hgb, m0, m1, m2, m3, m4, m5, m6, m7⟩ := (HU.out wr hb).node hy
      cases u2
      obtain ⟨x0, x1, x2, x3, x4, x5, x6, x7⟩ := x
      obtain ⟨y0, y1, y2, y3, y4, y5, y6, y7⟩ := y
      have HBi : Hid (bareX ⟨x0, x1, x2, x3, x4, x5, x6, x7⟩ = bareX ⟨y0, y1, y2, y3, y4, y5, y6, y7⟩ ↔ x0 = y0 ∧ x1 = y1 ∧ x2 = y2 ∧ x3 = y3 ∧ x4 = y4) := Lib.hid (bare_iff _ _)
      simp only at k0 k1 k2 k3 k4 k5 k6 k7 m0 m1 m2 m3 m4 m5 m6 m7
      obtain ⟨S3, hS3⟩ : ∃ S, str x3 = S := ⟨_, rfl⟩
      obtain ⟨S4, hS4⟩ : ∃ S, str x4 = S := ⟨_, rfl⟩
      obtain ⟨T3, hT3⟩ : ∃ S, str y3 = S := ⟨_, rfl⟩
      obtain ⟨T4, hT4⟩ : ∃ S, str y4 = S := ⟨_, rfl⟩
      rw [hS3] at k3
      rw [hS4] at k4
      rw [hT3] at m3
      rw [hT4] at m4
      have hwz := hb.size
      by_cases hxy : bareX ⟨x0, x1, x2, x3, x4, x5, x6, x7⟩ = bareX ⟨y0, y1, y2, y3, y4, y5, y6, y7⟩
      · have HR2 := Lib.hid (HEq.out hxy)
        obtain ⟨u0, u1, u2, u3, u4⟩ := HBi.out.1 hxy
        subst u0 u1 u2 u3 u4
        have v3 : S3 = T3 := hS3.symm.trans hT3
        have v4 : S4 = T4 := hS4.symm.trans hT4
        subst v3 v4
        have hneq := fun W => eq_sx x0 x1 x2 y5 y6 y7 S3 S4 W
        clear hx hy hS3 hS4 hT3 hT4 HEq HNe HBi hxy
        go_wp2_with fail
        go_region
        go_wp2_with fail
        go_region
        all_goals go_wp2_with fail
        all_goals exact ⟨⟨i + 1, by omega, by go_num, HR2, (hb.alloc hwz _).drew.drew⟩, by simp [intOf]; omega⟩
      · have HW := Lib.hid (HNe.out hxy)
        have hne := fun hh : x0 = y0 ∧ x1 = y1 ∧ x2 = y2 ∧ S3 = T3 ∧ S4 = T4 => hxy (HBi.out.2 ⟨hh.1, hh.2.1, hh.2.2.1, str_injX (by rw [hS3, hT3]; exact hh.2.2.2.1), str_injX (by rw [hS4, hT4]; exact hh.2.2.2.2)⟩)
        have hneq := fun W => neq_sx (x5 := y5) (x6 := y6) (x7 := y7) (y5 := y5) (y6 := y6) (y7 := y7) hne W
        clear hx hy hS3 hS4 hT3 hT4 HEq HNe HBi hxy hne
        go_wp2_with fail
        go_region
        go_wp2_with fail
        go_region
        all_goals go_wp2_with fail
        all_goals go_ret2
        all_goals exact ⟨by rw [HW.out]; rfl, (hb.alloc hwz _).drew.drew⟩
    · obtain rfl : i = n := by omega
      have HW : Hid (R = true) := Lib.hid (by
        rw [HRi.out, List.drop_of_length_le (Nat.le_of_eq HNa.out), List.drop_of_length_le (Nat.le_of_eq HNb.out)]; rfl)
      go_wp2_with fail
      go_ret2
      exact ⟨by rw [HW.out]; rfl, hb⟩
set_option maxRecDepth 50000 in
theorem Alike_bad (v u : Value) (a b : List Sx) (w : World) (h : XsAt w v a) (h2 : XsAt w u b) (hs : SmX a) (hi : InX a) (hs2 : SmX b) (hi2 : InX b) (T : STabs w) (hb : (chkX a).2 ≠ 0 ∨ (chkX a).2 = 0 ∧ (chkX b).2 ≠ 0 ∨ (chkX a).2 = 0 ∧ (chkX b).2 = 0 ∧ a.length ≠ b.length) :
    Calls Tryz.prog 40 #[v, u] w fun e w' => e = .returned (.tuple #[.bool (alikeX a b).1, .int .i64 (alikeX a b).2]) ∧ Below w.heap.size w w' := by
  have C := Lib.hid (check_two v u a b w h h2 hs hi hs2 hi2 T)
  have HP : alikeX a b = if (chkX a).2 ≠ 0 then (false, (chkX a).2) else if (chkX b).2 ≠ 0 then (false, (chkX b).2) else (alikeB a b, 0) := rfl
  have HL := fun hl => alike_len (a := a) (b := b) hl
  obtain ⟨va, vc, rfl, _⟩ := h.slice
  obtain ⟨ua, uc, rfl, _⟩ := h2.slice
  obtain ⟨n, hn⟩ : ∃ n, a.length = n := ⟨_, rfl⟩
  obtain ⟨m, hm⟩ : ∃ n, b.length = n := ⟨_, rfl⟩
  obtain ⟨a2, ha⟩ : ∃ z, (chkX a).2 = z := ⟨_, rfl⟩
  obtain ⟨b2, hb'⟩ : ∃ z, (chkX b).2 = z := ⟨_, rfl⟩
  obtain ⟨R, hR⟩ : ∃ R, alikeX a b = R := ⟨_, rfl⟩
  rw [ha, hb'] at C hb HP
  rw [hR] at HP ⊢
  rw [hn] at C hb HL ⊢
  rw [hm] at C hb HL ⊢
  clear h h2 hs hi hs2 hi2 T hn hm ha hb' hR
  have hor : (∃ er, er ≠ 0 ∧ (if a2 ≠ 0 then a2 else b2) = er ∧ R = (false, er)) ∨ ((if a2 ≠ 0 then a2 else b2) = 0 ∧ R = (false, 0) ∧ n ≠ m) := by
    rcases hb with h1 | ⟨h1, h2⟩ | ⟨h1, h2, h3⟩
    · left; exact ⟨a2, h1, if_pos h1, by rw [HP, if_pos h1]⟩
    · left; exact ⟨b2, h2, by rw [if_neg (by simpa using h1)], by rw [HP, if_neg (by simpa using h1), if_pos h2]⟩
    · right; exact ⟨by rw [if_neg (by simpa using h1)]; exact h2, by rw [HP, if_neg (by simpa using h1), if_neg (by simpa using h2), HL h3], h3⟩
  clear hb HP HL
  rcases hor with ⟨er, her, e1, e2⟩ | ⟨e1, e2, h3⟩
  · rw [e1] at C
    have HW := Lib.hid e2
    have q2 : (er != 0) = true := bne_iff_ne.2 her
    clear e1 e2 her
    go_enter Tryz.func40, Tryz.ntmps40
    go_wp2_with fail
    refine C.out.mono ?_
    rintro e w1 ⟨rfl, hb1⟩
    go_wp2_with fail
    go_ret2
    exact ⟨by rw [HW.out]; rfl, hb1⟩
  · rw [e1] at C
    have HW := Lib.hid e2
    have q2 : ((n : Int) != (m : Int)) = true := bne_iff_ne.2 (by omega)
    clear e1 e2 h3
    go_enter Tryz.func40, Tryz.ntmps40
    go_wp2_with fail
    refine C.out.mono ?_
    rintro e w1 ⟨rfl, hb1⟩
    go_wp2_with fail
    go_ret2
    exact ⟨by rw [HW.out]; rfl, hb1⟩
theorem Alike_any (v u : Value) (a b : List Sx) (w : World) (h : XsAt w v a) (h2 : XsAt w u b) (hs : SmX a) (hi : InX a) (hs2 : SmX b) (hi2 : InX b) (T : STabs w) :
    Calls Tryz.prog 40 #[v, u] w fun e w' => e = .returned (.tuple #[.bool (alikeX a b).1, .int .i64 (alikeX a b).2]) ∧ Below w.heap.size w w' := by
  by_cases e1 : (chkX a).2 = 0
  · by_cases e2 : (chkX b).2 = 0
    · by_cases hl : a.length = b.length
      · have hpa := List.length_pos_iff.2 (chkX_tree e1).2.1
        obtain ⟨va, vc, rfl, _⟩ := h.slice
        obtain ⟨ua, uc, rfl, _⟩ := h2.slice
        obtain ⟨ga, oa, rfl⟩ := cap_in h hpa
        obtain ⟨gb, ob, rfl⟩ := cap_in h2 (by omega : 0 < b.length)
        have hx : alikeX a b = (alikeB a b, 0) := by unfold alikeX; rw [if_neg (by simpa using e1), if_neg (by simpa using e2)]
        rw [hx, ← hl]
        rw [← hl] at h2
        exact Alike_in ga oa gb ob a.length vc uc a b w h h2 hs hi hs2 hi2 T e1 e2 rfl hl.symm
      · exact Alike_bad v u a b w h h2 hs hi hs2 hi2 T (.inr (.inr ⟨e1, e2, hl⟩))
    · exact Alike_bad v u a b w h h2 hs hi hs2 hi2 T (.inr (.inl ⟨e1, e2⟩))
  · exact Alike_bad v u a b w h h2 hs hi hs2 hi2 T (.inl e1)

end Go.Proofs.YtbmgpenllpbioaaGreatDoor
