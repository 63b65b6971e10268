/- Of, Data, Spans of syntax, and their references. (Merged by tools/domergeda.sh.) -/
import Derived.Test.YtbmgpenllpbioaaGreatDoorYi
import Derived.Test.YtbmgpenllpbioaaGreatDoorYd
import Derived.Laws.MakeOwn
import Derived.BigQuiet
import Derived.Test.YtbmgpenllpbioaaGreatDoorYs
import Derived.Test.YtbmgpenllpbioaaGreatDoorYk
import Derived.Test.YtbmgpenllpbioaaGreatDoorYck
namespace Go.Proofs.YtbmgpenllpbioaaGreatDoor
open Go.RowKit Go.PlainAid

theorem errX_shallow {x : Sx} {d d' : Int} (h : errX x d = 0) (hd : d' ≤ d) : errX x d' = 0 := by
  unfold errX at *
  split at h
  · cases h
  · rename_i h1
    rw [if_neg h1]
    split at h
    · cases h
    · rename_i h2
      rw [if_neg (by omega)]; exact h
/-- What is popped within a subtree. -/
theorem popZ_appX (s r : List Nat) : popZ (s ++ r) = if popZ s = [] then popZ r else popZ s ++ r := by
  induction s with
  | nil => rfl
  | cons a s ih =>
    by_cases h : a = 0
    · subst h
      have e1 : popZ (0 :: s) = popZ s := rfl
      have e2 : popZ (0 :: s ++ r) = popZ (s ++ r) := rfl
      rw [e1, e2]; exact ih
    · have e : ∀ l : List Nat, popZ (a :: l) = a :: l := fun l => by unfold popZ; rw [List.dropWhile_cons, if_neg (by simpa using h)]
      rw [List.cons_append, e, e, if_neg (by simp)]; rfl
/-- A walk that goes on behind a subtree, and the walk of this subtree alone. -/
theorem chkG_sub : ∀ (s rest : List Sx) (σ r : List Nat) (i k : Nat), r ≠ [] → stackN (popZ (σ ++ [0])) (kidsX s) = some [] → (chkG (popZ (σ ++ r)) i (s ++ rest)).2 = 0 → chkG (popZ (σ ++ [0])) k s = (0, 0) := by
  intro s
  induction s with
  | nil =>
    intro rest σ r i k _ h _
    have h' : popZ (σ ++ [0]) = [] := Option.some.inj h
    rw [h', chkG, if_pos rfl]
  | cons x s ih =>
    intro rest σ r i k hr h hg
    rw [popZ_appX] at h hg ⊢
    split at h
    · cases h
    · rename_i hs
      rw [if_neg hs] at hg ⊢
      cases hp : popZ σ with
      | nil => exact absurd hp hs
      | cons b τ =>
        rw [hp] at h hg
        have h' : stackN (popZ ((x.c.toNat :: (b - 1) :: τ) ++ [0])) (kidsX s) = some [] := h
        have hg' : (chkG (b :: (τ ++ r)) i (x :: (s ++ rest))).2 = 0 := hg
        rw [chkG, if_neg (by simp)] at hg'
        split at hg'
        · rename_i hE; exact absurd hg' hE
        · rename_i hE
          have hE0 : errX x ((((b :: τ) ++ r).length : Int) - 1) = 0 := Decidable.not_not.1 hE
          have hrl := List.length_pos_iff.2 hr
          have hE1 : errX x ((((b :: τ) ++ [0]).length : Int) - 1) = 0 := errX_shallow hE0 (by rw [List.length_append, List.length_append]; simp only [List.length_cons, List.length_nil]; omega)
          rw [chkG, if_neg (by simp), if_neg (by rw [hE1]; simp)]
          exact ih rest (x.c.toNat :: (b - 1) :: τ) r (i + 1) (k + 1) hr h' hg'
/-- A walk as far as some nodes. -/
theorem chkG_at : ∀ (p rest : List Sx) (st : List Nat) (i : Nat), rest ≠ [] → topN st → (chkG st i (p ++ rest)).2 = 0 → ∃ st' i', topN st' ∧ st' ≠ [] ∧ (chkG st' i' rest).2 = 0 := by
  intro p
  induction p with
  | nil =>
    intro rest st i hr ht h
    refine ⟨st, i, ht, ?_, h⟩
    rintro rfl
    cases rest with
    | nil => exact hr rfl
    | cons y s => rw [List.nil_append, chkG, if_pos rfl] at h; cases h
  | cons x p ih =>
    intro rest st i hr ht h
    rw [List.cons_append, chkG] at h
    split at h
    · cases h
    · split at h
      · rename_i hE; exact absurd h hE
      · exact ih rest _ _ hr (pushN_top _ _) h
theorem segX_eq (l : List Sx) (i j : Nat) : segX l i j = (l.take j).drop i := by unfold segX; rw [List.drop_take]
theorem subX_split {l : List Sx} (h : (chkX l).2 = 0) {i : Nat} (hi : i < l.length) : l = l.take i ++ (subX l i ++ l.drop (endN (kidsX l) i)) := by
  obtain ⟨e1, e2⟩ := endX h hi
  obtain ⟨q, hq⟩ : ∃ q, endN (kidsX l) i = q := ⟨_, rfl⟩
  unfold subX segX
  rw [hq] at e1 e2 ⊢
  have h1 : l.drop q = (l.drop i).drop (q - i) := by rw [List.drop_drop, show i + (q - i) = q by omega]
  rw [h1, List.take_append_drop, List.take_append_drop]
theorem subX_len {l : List Sx} (h : (chkX l).2 = 0) {i : Nat} (hi : i < l.length) : (subX l i).length = endN (kidsX l) i - i := by
  unfold subX; exact segX_len (endX h hi).2
theorem subX_ne {l : List Sx} (h : (chkX l).2 = 0) {i : Nat} (hi : i < l.length) : subX l i ≠ [] := by
  intro e
  have h1 := subX_len h hi
  have h2 := (endX h hi).1
  rw [e] at h1; simp at h1; omega
/-- A subtree of syntax is syntax. -/
theorem chkX_sub {l : List Sx} (h : (chkX l).2 = 0) {i : Nat} (hi : i < l.length) : (chkX (subX l i)).2 = 0 := by
  have hT := chkX_tr h
  obtain ⟨h0, t2, t3⟩ := chkX_one h
  obtain ⟨e1, e2⟩ := endX h hi
  obtain ⟨s1, _⟩ := hT.sub (i := i) (by rw [kidsX_len]; exact hi)
  have hsplit := subX_split h hi
  have hsl := subX_len h hi
  have hne := subX_ne h hi
  obtain ⟨q, hq⟩ : ∃ q, endN (kidsX l) i = q := ⟨_, rfl⟩
  have hks : Tr (kidsX (subX l i)) := by unfold subX; rw [segX_eq, kidsX_drop, kidsX_take]; exact s1
  rw [hq] at e1 e2 hsl hsplit
  rw [h0, hsplit] at h
  obtain ⟨st, i', g1, g2, g3⟩ := chkG_at (l.take i) (subX l i ++ l.drop q) [1] 0 (by simp [hne]) (by intro a ha; cases ha; decide) h
  have htop : topN [1] := by intro a ha; cases ha; decide
  have hst := (stack_eat (kidsX (subX l i)) [1] htop).2 hks
  unfold chkX
  rw [if_neg hne, if_neg (by omega)]
  cases hss : subX l i with
  | nil => exact absurd hss hne
  | cons x s =>
    rw [hss] at g3 hst
    cases st with
    | nil => exact absurd rfl g2
    | cons a r =>
      have h' : stackN (popZ ([x.c.toNat] ++ [0])) (kidsX s) = some [] := hst
      rw [List.cons_append, chkG, if_neg (by simp)] at g3
      split at g3
      · rename_i hE; exact absurd g3 hE
      · rename_i hE
        have hE0 : errX x (((a :: r).length : Int) - 1) = 0 := Decidable.not_not.1 hE
        have hE1 : errX x ((([1] : List Nat).length : Int) - 1) = 0 := errX_shallow hE0 (by simp only [List.length_cons, List.length_nil]; omega)
        rw [chkG, if_neg (by simp), if_neg (by rw [hE1]; simp)]
        exact congrArg Prod.snd (chkG_sub s (l.drop q) [x.c.toNat] ((a - 1) :: r) (i' + 1) 1 (by simp) h' g3)
theorem askX_in {l : List Sx} (h : (chkX l).2 = 0) {i : Nat} (hi : i < l.length) : askX l (i : Int) = 0 := by
  unfold askX; rw [if_neg (by simpa using h), if_neg (by omega)]
/-- Put of the own subtree. -/
theorem putL_own {l : List Sx} (h : (chkX l).2 = 0) {i : Nat} (hi : i < l.length) : putL l i (subX l i) = l := (subX_split h hi).symm
theorem putX_own {l : List Sx} (h : (chkX l).2 = 0) {i : Nat} (hi : i < l.length) : putX l (i : Int) (subX l i) = (l, 0) := by
  unfold putX
  rw [if_neg (by simpa using h), if_neg (by simpa using chkX_sub h hi), if_neg (by simpa using askX_in h hi), Int.toNat_natCast, putL_own h hi, if_neg (by simpa using h)]
/-- What is put stands there. -/
theorem putL_end {l s : List Sx} (h : (chkX l).2 = 0) (hs : (chkX s).2 = 0) {i : Nat} (hi : i < l.length) : endN (kidsX (putL l i s)) i = i + s.length := by
  obtain ⟨e1, e2⟩ := endX h hi
  obtain ⟨E, hE⟩ : ∃ E, endN (kidsX l) i = E := ⟨_, rfl⟩
  rw [hE] at e1 e2
  have hp : putL l i s = l.take i ++ (s ++ l.drop E) := by unfold putL; rw [hE]
  have hd : (kidsX (putL l i s)).drop i = kidsX s ++ kidsX (l.drop E) := by
    rw [hp, kidsX_app, List.drop_left' (by rw [kidsX_len, List.length_take]; omega), kidsX_app]
  have hr : eat ((kidsX (putL l i s)).drop i) 1 = some (kidsX (l.drop E)) := by
    rw [hd, eat_behind _ _ _ _ (chkX_tr hs)]; rfl
  have hlen : (putL l i s).length = i + s.length + (l.length - E) := by rw [hp, List.length_append, List.length_append, List.length_take, List.length_drop]; omega
  obtain ⟨h1, h2, h3⟩ := endN_of (ks := kidsX (putL l i s)) (p := i) (by rw [kidsX_len]; omega) hr
  have h4 := congrArg List.length h3
  rw [List.length_drop, kidsX_len, kidsX_len, List.length_drop] at h4
  rw [kidsX_len] at h2
  omega
theorem putL_sub {l s : List Sx} (h : (chkX l).2 = 0) (hs : (chkX s).2 = 0) {i : Nat} (hi : i < l.length) : subX (putL l i s) i = s := by
  unfold subX
  rw [putL_end h hs hi]
  unfold segX putL
  rw [List.drop_left' (by rw [List.length_take]; omega), show i + s.length - i = s.length by omega, List.take_left]
theorem putL_back {l s : List Sx} (h : (chkX l).2 = 0) (hs : (chkX s).2 = 0) {i : Nat} (hi : i < l.length) : putL (putL l i s) i (subX l i) = l := by
  have h1 := putL_end h hs hi
  obtain ⟨E, hE⟩ : ∃ E, endN (kidsX l) i = E := ⟨_, rfl⟩
  have hsp := subX_split h hi
  have hti : (l.take i).length = i := by rw [List.length_take]; omega
  unfold putL at h1 ⊢
  rw [h1]
  rw [hE] at hsp ⊢
  have h2 : (l.take i ++ (s ++ l.drop E)).drop (i + s.length) = l.drop E := by rw [← List.append_assoc, List.drop_left' (by rw [List.length_append, hti])]
  rw [List.take_left' hti, h2, ← hsp]
theorem putX_len {l s : List Sx} {i : Nat} (hi : i < l.length) : i < (putL l i s).length ∨ s = [] := by
  cases s with
  | nil => exact .inr rfl
  | cons a s => left; unfold putL; rw [List.length_append, List.length_take]; simp; omega
theorem putX_ok {l s : List Sx} {i : Nat} (h : (putX l (i : Int) s).2 = 0) : putX l (i : Int) s = (putL l i s, 0) ∧ (chkX (putL l i s)).2 = 0 := by
  unfold putX at *
  by_cases h1 : (chkX l).2 = 0
  · by_cases h2 : (chkX s).2 = 0
    · by_cases h3 : askX l (i : Int) = 0
      · by_cases h4 : (chkX (putL l i s)).2 = 0
        · rw [if_neg (by simpa using h1), if_neg (by simpa using h2), if_neg (by simpa using h3), Int.toNat_natCast, if_neg (by simpa using h4)]; exact ⟨rfl, h4⟩
        · rw [if_neg (by simpa using h1), if_neg (by simpa using h2), if_neg (by simpa using h3), Int.toNat_natCast, if_pos h4] at h; exact absurd h h4
      · rw [if_neg (by simpa using h1), if_neg (by simpa using h2), if_pos h3] at h; exact absurd h h3
    · rw [if_neg (by simpa using h1), if_pos h2] at h; exact absurd h h2
  · rw [if_pos h1] at h; exact absurd h h1
theorem putX_back {l s : List Sx} (h : (chkX l).2 = 0) (hs : (chkX s).2 = 0) {i : Nat} (hi : i < l.length) (hp : (chkX (putL l i s)).2 = 0) : putX (putL l i s) (i : Int) (subX l i) = (l, 0) := by
  have hlt : i < (putL l i s).length := by
    rcases putX_len (s := s) hi with h1 | h1
    · exact h1
    · rw [h1] at hs; cases hs
  unfold putX
  rw [if_neg (by simpa using hp), if_neg (by simpa using chkX_sub h hi), if_neg (by simpa using askX_in hp hlt), Int.toNat_natCast, putL_back h hs hi, if_neg (by simpa using h)]
theorem subR_in {l : List Sx} (h : (chkX l).2 = 0) {i : Nat} (hi : i < l.length) : subR l (i : Int) = (subX l i, 0) := by
  unfold subR; rw [if_neg (by simpa using askX_in h hi), Int.toNat_natCast]

/-- A list of parts: its root has what a node has beside. -/
def rootX (n : Nat) (x : Sx) : Sx := { k := 4, c := (n : Int), n := 0, s := [], p := x.p, f := x.f, t := x.t, o := x.o }
def listL10 (ts : List (List Sx)) (x : Sx) : List Sx := rootX ts.length x :: ts.flatten
def listX (ts : List (List Sx)) (x : Sx) : List Sx × Int :=
  if allX ts ≠ 0 then ([], allX ts) else if (chkX (listL10 ts x)).2 ≠ 0 then ([], (chkX (listL10 ts x)).2) else (listL10 ts x, 0)
theorem listX_long {ts : List (List Sx)} {x : Sx} (h : allX ts = 0) (hl : 2000 ≤ ts.flatten.length) : listX ts x = ([], 3) := by
  have h1 : (chkX (listL10 ts x)).2 = 3 := by
    unfold chkX listL10
    rw [if_neg (by simp), if_pos (by rw [List.length_cons]; omega)]
  unfold listX
  rw [if_neg (by simpa using h), if_pos (by rw [h1]; simp), h1]
theorem allX_0 {ts : List (List Sx)} (h : allX ts = 0) : ∀ t ∈ ts, (chkX t).2 = 0 := by
  induction ts with
  | nil => intro t ht; cases ht
  | cons y ts ih =>
    rw [allX] at h
    split at h
    · rename_i h1; exact absurd h h1
    · rename_i h1
      intro t ht
      rcases List.mem_cons.1 ht with e | e
      · rw [e]; exact Decidable.not_not.1 h1
      · exact ih h t e
theorem allX_all {ts : List (List Sx)} (h : ∀ t ∈ ts, (chkX t).2 = 0) : allX ts = 0 := by
  induction ts with
  | nil => rfl
  | cons y ts ih => rw [allX, if_neg (by simpa using h y (by simp))]; exact ih fun t ht => h t (by simp [ht])
/-- The subtrees of the first children. -/
def partsX (l : List Sx) (i m : Nat) : List (List Sx) := (List.range m).map fun k => subX l (posK (kidsX l) i k)
theorem partsX_succ (l : List Sx) (i m : Nat) : partsX l i (m + 1) = partsX l i m ++ [subX l (posK (kidsX l) i m)] := by
  unfold partsX; rw [List.range_succ, List.map_append]; rfl
theorem partsX_len (l : List Sx) (i m : Nat) : (partsX l i m).length = m := by unfold partsX; rw [List.length_map, List.length_range]
theorem partsX_flat {l : List Sx} (hT : Tr (kidsX l)) {i : Nat} (hi : i < l.length) : ∀ m, m ≤ cnt (kidsX l) i → (partsX l i m).flatten = (l.take (posK (kidsX l) i m)).drop (i + 1) := by
  have hil : i < (kidsX l).length := by rw [kidsX_len]; exact hi
  intro m
  induction m with
  | zero => intro _; rw [posK_start hil, List.drop_of_length_le (by rw [List.length_take]; omega)]; rfl
  | succ m ih =>
    intro hm
    obtain ⟨p1, p2, p3⟩ := hT.pos_step hil (k := m) (by omega)
    have p4 := hT.pos_next hil (k := m) (by omega)
    have p5 := (hT.end_bd p2).2
    rw [p3, kidsX_len] at p5
    rw [partsX_succ, List.flatten_append, ih (by omega), List.flatten_singleton]
    unfold subX
    rw [p3, segX_eq]
    obtain ⟨a, ha⟩ : ∃ a, posK (kidsX l) i m = a := ⟨_, rfl⟩
    obtain ⟨b, hb⟩ : ∃ b, posK (kidsX l) i (m + 1) = b := ⟨_, rfl⟩
    rw [ha] at p1 p4 ⊢
    rw [hb] at p4 p5 ⊢
    have h1 : l.take b = l.take a ++ (l.take b).drop a := by
      have := (List.take_append_drop a (l.take b)).symm
      rw [List.take_take, Nat.min_eq_left (Nat.le_of_lt p4)] at this; exact this
    conv => rhs; rw [h1]
    rw [List.drop_append_of_le_length (by rw [List.length_take]; omega)]
theorem kidsN_in {l : List Sx} (h : (chkX l).2 = 0) {i k : Nat} (hi : i < l.length) (hk : k < cnt (kidsX l) i) : posK (kidsX l) i k < l.length := by
  have := ((chkX_tr h).pos_step (i := i) (k := k) (by rw [kidsX_len]; exact hi) hk).2.1
  rwa [kidsX_len] at this
/-- The subtrees of the children of a list make up the list. -/
theorem list_own {l : List Sx} (h : (chkX l).2 = 0) {i : Nat} {x : Sx} (hx : l[i]? = some x) (h4 : x.k = 4) : listX (partsX l i (cnt (kidsX l) i)) x = (subX l i, 0) := by
  have hT := chkX_tr h
  obtain ⟨hi, hxe⟩ := List.getElem?_eq_some_iff.1 hx
  have hil : i < (kidsX l).length := by rw [kidsX_len]; exact hi
  obtain ⟨e1, e2⟩ := endX h hi
  have hk0 := chkX_kids h x (List.mem_of_getElem? hx)
  have hcnt : cnt (kidsX l) i = x.c.toNat := cnt_of (kidsX_at hx)
  have hok := ((chkX_ok h).2 x (List.mem_of_getElem? hx)).1
  unfold kindX at hok
  rw [if_neg (by omega), if_neg (by omega), if_pos h4] at hok
  simp only [Bool.and_eq_true, decide_eq_true_eq] at hok
  have hL : listL10 (partsX l i (cnt (kidsX l) i)) x = subX l i := by
    unfold listL10
    rw [partsX_flat hT hi _ (Nat.le_refl _), hT.pos_end hil, partsX_len, hcnt]
    unfold subX
    rw [segX_eq]
    obtain ⟨q, hq⟩ : ∃ q, endN (kidsX l) i = q := ⟨_, rfl⟩
    rw [hq] at e1 e2 ⊢
    have hgi : (l.take q)[i]? = some x := by rw [List.getElem?_take, if_pos e1, hx]
    obtain ⟨hil2, hxe2⟩ := List.getElem?_eq_some_iff.1 hgi
    rw [List.drop_eq_getElem_cons hil2, hxe2]
    congr 1
    obtain ⟨k, c, n, s, p, f, t, o⟩ := x
    simp only at hok h4 hk0
    obtain ⟨⟨_, rfl⟩, rfl⟩ := hok
    subst h4
    unfold rootX
    simp only
    rw [Int.toNat_of_nonneg hk0]
  have ha : allX (partsX l i (cnt (kidsX l) i)) = 0 := allX_all fun t ht => by
    unfold partsX at ht
    obtain ⟨k, hk, rfl⟩ := List.mem_map.1 ht
    exact chkX_sub h (kidsN_in h hi (List.mem_range.1 hk))
  have hs := chkX_sub h hi
  unfold listX
  rw [hL, if_neg (by simpa using ha), if_neg (by simpa using hs)]


def mkX (x : Nd) (s : Int × Int) : Sx := { k := x.1, c := x.2.1, n := x.2.2.1, s := x.2.2.2, p := [], f := s.1, t := s.2, o := 0 }
def ndX (x : Sx) : Nd := (x.k, x.c, x.n, x.s)
def spX (x : Sx) : Int × Int := (x.f, x.t)
/-- Are all spans good? -/
def allSp (sp : List (Int × Int)) : Bool := sp.all fun s => isSpB s.1 s.2
def ofX (t : List Nd) (sp : List (Int × Int)) : List Sx × Int :=
  if (chkT symS t).2 ≠ 0 then ([], (chkT symS t).2) else if sp.length ≠ t.length then ([], 2) else if allSp sp = false then ([], 6) else (List.zipWith mkX t sp, 0)
def dataX (l : List Sx) : List Nd × Int := if (chkX l).2 ≠ 0 then ([], (chkX l).2) else (l.map ndX, 0)
def spansX (l : List Sx) : List (Int × Int) × Int := if (chkX l).2 ≠ 0 then ([], (chkX l).2) else (l.map spX, 0)
theorem emB_nil {s : List UInt8} : emB s = decide (s = []) := by
  unfold emB
  rw [Bool.eq_iff_iff, beq_iff_eq, decide_eq_true_iff]
  rw [ByteArray.toList_eq]
  show s = [] ↔ _
  exact Iff.rfl
theorem kind_mk (x : Nd) (s : Int × Int) : kindX (mkX x s) = kindB x.1 x.2.1 x.2.2.1 (emB x.2.2.2) := by
  unfold kindX kindB mkX
  rw [emB_nil]
theorem err_mk {x : Nd} {s : Int × Int} {d : Int} (h : ndE symS x d = 0) (hs : isSpB s.1 s.2 = true) : errX (mkX x s) d = 0 := by
  unfold ndE nodeE at h
  unfold errX
  rw [kind_mk]
  by_cases h1 : kindB x.1 x.2.1 x.2.2.1 (emB x.2.2.2) = false
  · rw [if_pos h1] at h; cases h
  · rw [if_neg h1] at h ⊢
    by_cases h2 : 32 < d
    · rw [if_pos h2] at h; cases h
    · rw [if_neg h2] at h
      rw [if_neg (by omega)]
      unfold valE at h
      unfold fldX mkX
      simp only
      by_cases h3 : x.1 = 2 ∧ x.2.2.1 ≠ 0 ∧ x.2.2.1 ≠ 1
      · rw [if_pos h3] at h; cases h
      · rw [if_neg h3] at h ⊢
        by_cases h4 : x.1 = 3 ∧ symS x.2.2.2 = false
        · rw [if_pos h4] at h; cases h
        · rw [if_neg h4]
          have h5 : chkE [] = 0 := rfl
          rw [if_neg (by rw [h5]; simp), if_neg (by rw [hs]; simp), if_neg (by simp)]
theorem chkG_mk : ∀ (t : List Nd) (sp : List (Int × Int)) (st : List Nat) (i : Nat), sp.length = t.length → allSp sp = true → (chkGo (ndE symS) st i t).2 = 0 → (chkG st i (List.zipWith mkX t sp)).2 = 0 := by
  intro t
  induction t with
  | nil =>
    intro sp st i hl _ h
    rw [chkGo] at h
    rw [List.zipWith_nil_left, chkG]; exact h
  | cons x t ih =>
    intro sp st i hl ha h
    cases sp with
    | nil => simp at hl
    | cons s sp =>
      rw [List.zipWith_cons_cons, chkG]
      rw [chkGo] at h
      have ha' : isSpB s.1 s.2 = true ∧ allSp sp = true := by
        unfold allSp at ha ⊢
        rw [List.all_cons, Bool.and_eq_true] at ha; exact ha
      by_cases h1 : st = []
      · rw [if_pos h1] at h; cases h
      · rw [if_neg h1] at h ⊢
        by_cases h2 : ndE symS x ((st.length : Int) - 1) = 0
        · rw [if_neg (by simpa using h2)] at h
          rw [if_neg (by rw [err_mk h2 ha'.1]; simp)]
          exact ih sp _ _ (by simpa using hl) ha'.2 h
        · rw [if_pos h2] at h; exact absurd h h2
theorem of_len {t : List Nd} {sp : List (Int × Int)} (h : sp.length = t.length) : (List.zipWith mkX t sp).length = t.length := by rw [List.length_zipWith]; omega
theorem ofX_chk {t : List Nd} {sp : List (Int × Int)} (h : (chkT symS t).2 = 0) (hl : sp.length = t.length) (ha : allSp sp = true) : (chkX (List.zipWith mkX t sp)).2 = 0 := by
  have hlen := of_len hl
  unfold chkT chkD at h
  by_cases h1 : t = []
  · rw [if_pos h1] at h; cases h
  · by_cases h2 : 400 < t.length
    · rw [if_neg h1, if_pos h2] at h; cases h
    · rw [if_neg h1, if_neg h2] at h
      have hp := List.length_pos_iff.2 h1
      unfold chkX
      rw [if_neg (by intro e; rw [e] at hlen; simp at hlen; omega), if_neg (by omega)]
      exact chkG_mk t sp [1] 0 hl ha h
theorem ofX_ok {t : List Nd} {sp : List (Int × Int)} (h : (ofX t sp).2 = 0) : (chkT symS t).2 = 0 ∧ sp.length = t.length ∧ allSp sp = true ∧ ofX t sp = (List.zipWith mkX t sp, 0) := by
  unfold ofX at *
  by_cases h1 : (chkT symS t).2 = 0
  · rw [if_neg (by simpa using h1)] at h ⊢
    by_cases h2 : sp.length = t.length
    · rw [if_neg (by simpa using h2)] at h ⊢
      by_cases h3 : allSp sp = false
      · rw [if_pos h3] at h; cases h
      · rw [if_neg h3]; exact ⟨h1, h2, by simpa using h3, rfl⟩
    · rw [if_pos h2] at h; cases h
  · rw [if_pos h1] at h; exact absurd h h1
theorem map_mk : ∀ (t : List Nd) (sp : List (Int × Int)), sp.length = t.length → (List.zipWith mkX t sp).map ndX = t ∧ (List.zipWith mkX t sp).map spX = sp := by
  intro t
  induction t with
  | nil => intro sp h; cases sp with
    | nil => exact ⟨rfl, rfl⟩
    | cons s sp => simp at h
  | cons x t ih => intro sp h; cases sp with
    | nil => simp at h
    | cons s sp =>
      obtain ⟨h1, h2⟩ := ih sp (by simpa using h)
      rw [List.zipWith_cons_cons, List.map_cons, List.map_cons, h1, h2]
      exact ⟨rfl, rfl⟩
theorem ofX_back {t : List Nd} {sp : List (Int × Int)} (h : (ofX t sp).2 = 0) : dataX (ofX t sp).1 = (t, 0) ∧ spansX (ofX t sp).1 = (sp, 0) := by
  obtain ⟨h1, h2, h3, h4⟩ := ofX_ok h
  have hc := ofX_chk h1 h2 h3
  obtain ⟨e1, e2⟩ := map_mk t sp h2
  rw [h4]
  unfold dataX spansX
  simp only
  rw [if_neg (by simpa using hc), if_neg (by simpa using hc), e1, e2]
  exact ⟨rfl, rfl⟩
/-- Spans in memory. -/
def spC (s : Int × Int) : List Value := [.int .i64 s.1, .int .i64 s.2]
def sps (l : List (Int × Int)) : List Value := l.flatMap spC
theorem sps_cons (s : Int × Int) (l : List (Int × Int)) : sps (s :: l) = .int .i64 s.1 :: .int .i64 s.2 :: sps l := rfl
theorem sps_app (a b : List (Int × Int)) : sps (a ++ b) = sps a ++ sps b := List.flatMap_append
theorem sps_len (l : List (Int × Int)) : (sps l).length = l.length * 2 := by
  induction l with
  | nil => rfl
  | cons x l ih => rw [sps_cons]; simp only [List.length_cons, ih]; omega
theorem sps_at (l : List (Int × Int)) : ∀ {k : Nat} {x : Int × Int}, l[k]? = some x → (sps l)[k * 2]? = some (.int .i64 x.1) ∧ (sps l)[k * 2 + 1]? = some (.int .i64 x.2) := by
  induction l with
  | nil => intro k x h; simp at h
  | cons y l ih =>
    intro k x h
    rw [sps_cons]
    cases k with
    | zero => simp at h; subst h; exact ⟨rfl, rfl⟩
    | succ k =>
      obtain ⟨h1, h2⟩ := ih (k := k) (by simpa using h)
      rw [show (k + 1) * 2 = k * 2 + 1 + 1 by omega]
      exact ⟨by simpa using h1, by simpa using h2⟩
theorem one_sps (l : List (Int × Int)) : ∀ u ∈ sps l, u.oneCell' = true := by
  intro u hu; unfold sps at hu; rw [List.mem_flatMap] at hu; obtain ⟨x, _, h⟩ := hu
  unfold spC at h; simp at h; rcases h with rfl | rfl <;> rfl
def SpAt (w : World) (v : Value) (l : List (Int × Int)) : Prop :=
  ∃ a n c, v = .slice a n c ∧ n = l.length ∧ (l = [] ∨ ∃ g off, a = some ⟨g, off, none⟩ ∧ g < w.heap.size ∧ ∀ (j : Nat) (u : Value), (sps l)[j]? = some u → w.cell? ⟨g, off + j, none⟩ = some u)
theorem SpAt.below {B : Nat} {w w' : World} {v : Value} {l : List (Int × Int)} (h : SpAt w v l) (hb : Below B w w') (hB : w.heap.size ≤ B) : SpAt w' v l := by
  obtain ⟨a, n, c, e, hn, h⟩ := h
  refine ⟨a, n, c, e, hn, h.imp id ?_⟩
  rintro ⟨g, off, rfl, hg, hcell⟩
  exact ⟨g, off, rfl, Nat.lt_of_lt_of_le hg hb.size, fun j u hj => (hb.cell (p := ⟨g, off + j, none⟩) (by show g < B; omega)).trans (hcell j u hj)⟩
theorem SpAt.slice {w : World} {v : Value} {l : List (Int × Int)} (h : SpAt w v l) : ∃ a c, v = .slice a l.length c := by
  obtain ⟨a, n, c, e, hn, _⟩ := h
  subst hn; exact ⟨a, c, e⟩
theorem SpAt.span {w : World} {a : Option Addr} {n c : Nat} {l : List (Int × Int)} (h : SpAt w (.slice a n c) l) {k : Nat} {x : Int × Int} (hk : l[k]? = some x) :
    ∃ g off, a = some ⟨g, off, none⟩ ∧ g < w.heap.size ∧ w.cell? ⟨g, off + k * 2, none⟩ = some (.int .i64 x.1) ∧ w.cell? ⟨g, off + k * 2 + 1, none⟩ = some (.int .i64 x.2) := by
  obtain ⟨a', n', c', e, hn, h⟩ := h
  obtain ⟨rfl, rfl, rfl⟩ := Value.slice.inj e
  rcases h with rfl | ⟨g, off, rfl, hg, hcell⟩
  · simp at hk
  · obtain ⟨h1, h2⟩ := sps_at l hk
    exact ⟨g, off, rfl, hg, hcell _ _ h1, hcell _ _ h2⟩
theorem sp_own {w : World} {B n : Nat} {v : Value} {l : List (Int × Int)} (h : w.ownsRow B 26 2 v n (sps l)) (hn : l.length = n) : SpAt w v l := by
  rcases own_formR h with ⟨rfl, h0⟩ | ⟨g, c, rfl, h1, h2⟩
  · obtain rfl : l = [] := List.length_eq_zero_iff.1 (by omega)
    subst h0; exact ⟨_, _, _, rfl, rfl, .inl rfl⟩
  · refine ⟨_, n, c, rfl, hn.symm, .inr ⟨g, 0, rfl, h2, fun j u hj => ?_⟩⟩
    have := h.cells (g := g) rfl j u hj
    rw [Go.WideShapes.add_plain] at this; exact this
theorem nd_own {w : World} {B n : Nat} {v : Value} {l : List Nd} (h : w.ownsRow B 49 4 v n (dcs l)) (hn : l.length = n) : NdsAt w v l := by
  rcases own_formR h with ⟨rfl, h0⟩ | ⟨g, c, rfl, h1, h2⟩
  · obtain rfl : l = [] := List.length_eq_zero_iff.1 (by omega)
    exact .inl ⟨_, _, rfl, rfl⟩
  · refine .inr ⟨g, 0, c, by rw [hn], h2, fun j u hj => ?_⟩
    have := h.cells (g := g) rfl j u hj
    rw [Go.WideShapes.add_plain] at this; exact this
theorem flat_rep_at (zs : List Value) (s : Nat) (hs : zs.length = s) : ∀ n j, j < n * s → ((List.replicate n zs).flatten)[j]? = zs[j % s]? := by
  intro n
  induction n with
  | zero => intro j hj; omega
  | succ n ih =>
    intro j hj
    rw [List.replicate_succ, List.flatten_cons]
    by_cases h : j < s
    · rw [List.getElem?_append_left (by omega), Nat.mod_eq_of_lt h]
    · rw [List.getElem?_append_right (by omega), hs, ih (j - s) (by rw [Nat.succ_mul] at hj; omega), Nat.mod_eq_sub_mod (a := j) (by omega)]
theorem made_rep (zs : List Value) (s : Nat) (hs : zs.length = s) (h0 : 0 < s) (n : Nat) : (madeCells zs.toArray (n * s)).toList = (List.replicate n zs).flatten := by
  apply List.ext_getElem?
  intro j
  by_cases hj : j < n * s
  · rw [flat_rep_at zs s hs n j hj]
    unfold madeCells
    have hm : j % s < zs.length := by rw [hs]; exact Nat.mod_lt _ h0
    simp [hj, hs]
    rw [List.getElem?_eq_getElem hm]; rfl
  · rw [List.getElem?_eq_none (by rw [Array.length_toList, size_madeCells]; omega), List.getElem?_eq_none (by simp [hs]; omega)]
/-- A row of zeros that was made. -/
theorem made_own {u : World} {B n s : Nat} {e : TypeId} (zs : List Value) (hs : zs.length = s) (h0 : 0 < s) (hn : n ≤ 100000) (hB : B ≤ u.heap.size) : (u.alloc (.cells (madeCells zs.toArray (n * s)) e)).ownsRow B e s (.slice (some ⟨u.heap.size, 0, none⟩) n n) n ((List.replicate n zs).flatten) := by
  refine ⟨by rw [← made_rep zs s hs h0 n, Array.length_toList, size_madeCells], .inr ⟨_, n, madeCells zs.toArray (n * s), rfl, hB, World.alloc_heap_new _ _, Nat.le_refl _, by unfold maxLen; omega, by rw [size_madeCells], ?_⟩⟩
  rw [made_rep zs s hs h0 n, List.take_of_length_le]
  rw [← made_rep zs s hs h0 n, Array.length_toList, size_madeCells]
  exact Nat.le_refl _


/-- What both Data return. -/
def NdR (L : List Nd) (n : Nat) (er : Int) (W : World) (e : Ending) (W' : World) : Prop := ∃ a c, e = .returned (.tuple #[.slice a n c, .int .i64 er]) ∧ Hid (NdsAt W' (.slice a n c) L) ∧ Below W.heap.size W W'
/-- What both Spans return. -/
def SpR (L : List (Int × Int)) (n : Nat) (er : Int) (W : World) (e : Ending) (W' : World) : Prop := ∃ a c, e = .returned (.tuple #[.slice a n c, .int .i64 er]) ∧ Hid (SpAt W' (.slice a n c) L) ∧ Below W.heap.size W W'
theorem ndR_err {W W' : World} {er : Int} (hb : Below W.heap.size W W') : NdR [] 0 er W (.returned (.tuple #[.slice none 0 0, .int .i64 er])) W' := ⟨none, 0, rfl, Lib.hid (.inl ⟨_, _, rfl, rfl⟩), hb⟩
theorem spR_err {W W' : World} {er : Int} (hb : Below W.heap.size W W') : SpR [] 0 er W (.returned (.tuple #[.slice none 0 0, .int .i64 er])) W' := ⟨none, 0, rfl, Lib.hid ⟨_, _, _, rfl, rfl, .inl rfl⟩, hb⟩
theorem zeroNdI : (Tryz.prog.info? 49).map (fun i => (i.zero, i.size, i.bytes)) = some (some (.agg #[.int .i64 0, .int .i64 0, .int .i64 0, .string ⟨#[]⟩]), 4, 40) := by kernel_rfl
theorem zeroSpI : (Tryz.prog.info? 26).map (fun i => (i.zero, i.size, i.bytes)) = some (some (.agg #[.int .i64 0, .int .i64 0]), 2, 16) := by kernel_rfl
def zeroNdd : Nd := (0, 0, 0, [])
theorem make_nds (u : World) (n : Nat) (hn : n ≤ 100000) : (Instr.makeSlice 44 (.int .i64 (n : Int)) (.int .i64 (n : Int))).run Tryz.prog u = .ok (.slice (some ⟨u.heap.size, 0, none⟩) n n) (u.alloc (.cells (madeCells (ndC zeroNdd).toArray (n * 4)) 49)) := by
  obtain ⟨i0, hi, hz0, hz1, hz2⟩ := info_parts2 zeroNdI
  have := run_makeSlice (P := Tryz.prog) u 44 49 i0 (.agg #[.int .i64 0, .int .i64 0, .int .i64 0, .string ⟨#[]⟩]) Tryz.underlying44 hi hz0 .i64 .i64 n n (by omega) (by omega) (by rw [hz1]; omega) (by rw [hz2]; omega) (by omega)
  rw [hz1, Int.toNat_natCast] at this
  exact this
theorem make_sps (u : World) (n : Nat) (hn : n ≤ 100000) : (Instr.makeSlice 45 (.int .i64 (n : Int)) (.int .i64 (n : Int))).run Tryz.prog u = .ok (.slice (some ⟨u.heap.size, 0, none⟩) n n) (u.alloc (.cells (madeCells (spC (0, 0)).toArray (n * 2)) 26)) := by
  obtain ⟨i0, hi, hz0, hz1, hz2⟩ := info_parts2 zeroSpI
  have := run_makeSlice (P := Tryz.prog) u 45 26 i0 (.agg #[.int .i64 0, .int .i64 0]) Tryz.underlying45 hi hz0 .i64 .i64 n n (by omega) (by omega) (by rw [hz1]; omega) (by rw [hz2]; omega) (by omega)
  rw [hz1, Int.toNat_natCast] at this
  exact this
theorem make_sxs (u : World) (n : Nat) (hn : n ≤ 100000) : (Instr.makeSlice 22 (.int .i64 (n : Int)) (.int .i64 (n : Int))).run Tryz.prog u = .ok (.slice (some ⟨u.heap.size, 0, none⟩) n n) (u.alloc (.cells (madeCells (sxC ⟨0, 0, 0, [], [], 0, 0, 0⟩).toArray (n * 8)) 28)) := by
  obtain ⟨i0, hi, hz0, hz1, hz2⟩ := info_parts2 zeroSxI
  have := run_makeSlice (P := Tryz.prog) u 22 28 i0 zeroNx Tryz.underlying22 hi hz0 .i64 .i64 n n (by omega) (by omega) (by rw [hz1]; omega) (by rw [hz2]; omega) (by omega)
  rw [hz1, Int.toNat_natCast] at this
  exact this
/-- A row of which the first i are done. -/
def halfN (d : List Nd) (n i : Nat) : List Nd := d.take i ++ List.replicate (n - i) zeroNdd
def halfS (d : List (Int × Int)) (n i : Nat) : List (Int × Int) := d.take i ++ List.replicate (n - i) (0, 0)
theorem rep_flat {α : Type} (f : α → List Value) (n : Nat) (z : α) : (List.replicate n (f z)).flatten = (List.replicate n z).flatMap f := by
  induction n with
  | zero => rfl
  | succ n ih => rw [List.replicate_succ, List.replicate_succ, List.flatten_cons, List.flatMap_cons, ih]
theorem dcs_set (a b : List Nd) (y x : Nd) : ((((dcs (a ++ y :: b)).set (a.length * 4) (.int .i64 x.1)).set (a.length * 4 + 1) (.int .i64 x.2.1)).set (a.length * 4 + 2) (.int .i64 x.2.2.1)).set (a.length * 4 + 3) (.string (str x.2.2.2)) = dcs (a ++ x :: b) := by
  rw [dcs_app, dcs_app, List.set_append, if_neg (by rw [dcs_len]; omega), dcs_len, Nat.sub_self,
    List.set_append, if_neg (by rw [dcs_len]; omega), dcs_len, show a.length * 4 + 1 - a.length * 4 = 1 by omega,
    List.set_append, if_neg (by rw [dcs_len]; omega), dcs_len, show a.length * 4 + 2 - a.length * 4 = 2 by omega,
    List.set_append, if_neg (by rw [dcs_len]; omega), dcs_len, show a.length * 4 + 3 - a.length * 4 = 3 by omega]
  rfl
theorem sps_set (a b : List (Int × Int)) (y x : Int × Int) : ((sps (a ++ y :: b)).set (a.length * 2) (.int .i64 x.1)).set (a.length * 2 + 1) (.int .i64 x.2) = sps (a ++ x :: b) := by
  rw [sps_app, sps_app, List.set_append, if_neg (by rw [sps_len]; omega), sps_len, Nat.sub_self,
    List.set_append, if_neg (by rw [sps_len]; omega), sps_len, show a.length * 2 + 1 - a.length * 2 = 1 by omega]
  rfl
theorem xcs_set8 (a b : List Sx) (y x : Sx) : ((((((((xcs (a ++ y :: b)).set (a.length * 8) (.int .i64 x.k)).set (a.length * 8 + 1) (.int .i64 x.c)).set (a.length * 8 + 2) (.int .i64 x.n)).set (a.length * 8 + 3) (.string (str x.s))).set (a.length * 8 + 4) (.string (str x.p))).set (a.length * 8 + 5) (.int .i64 x.f)).set (a.length * 8 + 6) (.int .i64 x.t)).set (a.length * 8 + 7) (.int .i64 x.o) = xcs (a ++ x :: b) := by
  rw [xcs_app, xcs_app, List.set_append, if_neg (by rw [xcs_len]; omega), xcs_len, Nat.sub_self,
    List.set_append, if_neg (by rw [xcs_len]; omega), xcs_len, show a.length * 8 + 1 - a.length * 8 = 1 by omega,
    List.set_append, if_neg (by rw [xcs_len]; omega), xcs_len, show a.length * 8 + 2 - a.length * 8 = 2 by omega,
    List.set_append, if_neg (by rw [xcs_len]; omega), xcs_len, show a.length * 8 + 3 - a.length * 8 = 3 by omega,
    List.set_append, if_neg (by rw [xcs_len]; omega), xcs_len, show a.length * 8 + 4 - a.length * 8 = 4 by omega,
    List.set_append, if_neg (by rw [xcs_len]; omega), xcs_len, show a.length * 8 + 5 - a.length * 8 = 5 by omega,
    List.set_append, if_neg (by rw [xcs_len]; omega), xcs_len, show a.length * 8 + 6 - a.length * 8 = 6 by omega,
    List.set_append, if_neg (by rw [xcs_len]; omega), xcs_len, show a.length * 8 + 7 - a.length * 8 = 7 by omega]
  rfl
theorem half_at {α : Type} {d : List α} {z : α} {n i : Nat} {x : α} (hd : d.length = n) (h : d[i]? = some x) :
    d.take i ++ List.replicate (n - i) z = d.take i ++ z :: List.replicate (n - (i + 1)) z ∧ d.take (i + 1) ++ List.replicate (n - (i + 1)) z = d.take i ++ x :: List.replicate (n - (i + 1)) z ∧ (d.take i).length = i := by
  have hi := (List.getElem?_eq_some_iff.1 h).1
  refine ⟨by rw [show n - i = (n - (i + 1)) + 1 by omega, List.replicate_succ], by rw [List.take_add_one, h, List.append_assoc]; rfl, by rw [List.length_take]; omega⟩
theorem half_0 {α : Type} (d : List α) (z : α) (n : Nat) : d.take 0 ++ List.replicate (n - 0) z = List.replicate n z := by rw [List.take_zero, List.nil_append, Nat.sub_zero]
theorem half_n {α : Type} {d : List α} (z : α) {n : Nat} (hd : d.length = n) : d.take n ++ List.replicate (n - n) z = d := by rw [Nat.sub_self, List.replicate_zero, List.append_nil, ← hd, List.take_length]
set_option maxRecDepth 50000 in
set_option maxHeartbeats 6400000 in
theorem Data_any (v : Value) (l : List Sx) (w : World) (h : XsAt w v l) (hs : SmX l) (hi : InX l) (T : STabs w) :
    Calls Tryz.prog 28 #[v] w (NdR (dataX l).1 (dataX l).1.length (dataX l).2 w) := by
  have C := Lib.hid (check_one v l w h hs hi T)
  obtain ⟨av, cv, rfl, _⟩ := h.slice
  by_cases he : (chkX l).2 = 0
  case neg =>
    have hd : dataX l = ([], (chkX l).2) := by unfold dataX; rw [if_pos he]
    rw [hd]
    obtain ⟨z, hz⟩ : ∃ z, (chkX l).2 = z := ⟨_, rfl⟩
    obtain ⟨n, hn⟩ : ∃ n, l.length = n := ⟨_, rfl⟩
    rw [hz] at C he ⊢
    rw [hn] at C ⊢
    have hne : (z != 0) = true := bne_iff_ne.2 he
    clear h hs hi T hd hz hn he
    go_enter Tryz.func28, Tryz.ntmps28
    go_wp2_with fail
    refine C.out.mono ?_
    rintro e w1 ⟨rfl, hb1⟩
    go_wp2_with fail
    go_ret2
    exact ndR_err hb1
  have hd : dataX l = (l.map ndX, 0) := by unfold dataX; rw [if_neg (by simpa using he)]
  rw [hd]
  rw [he] at C
  obtain ⟨_, hne, hl2⟩ := chkX_tree he
  obtain ⟨n, hn⟩ : ∃ n, l.length = n := ⟨_, rfl⟩
  obtain ⟨d, hdE⟩ : ∃ d, l.map ndX = d := ⟨_, rfl⟩
  have hdl : d.length = n := by rw [← hdE, List.length_map, hn]
  have HDl := Lib.hid hdl
  have HDA : Hid (∀ (i : Nat) (x : Sx), l[i]? = some x → d[i]? = some (ndX x)) := Lib.hid fun i x hx => by rw [← hdE, List.getElem?_map, hx]; rfl
  rw [hdE]
  simp only
  rw [hdl]
  rw [hn] at C hl2 h ⊢
  have HV := Lib.hid (fun W (hW : Below w.heap.size w W) => h.below hW (Nat.le_refl _))
  have HLn := Lib.hid hn
  have hmk := fun u => make_nds u n (by omega)
  have HMk : Hid (∀ u : World, w.heap.size ≤ u.heap.size → (u.alloc (.cells (madeCells (ndC zeroNdd).toArray (n * 4)) 49)).ownsRow w.heap.size 49 4 (.slice (some ⟨u.heap.size, 0, none⟩) n n) n (dcs (halfN d n 0))) := Lib.hid fun u hu => by
    have h1 := made_own (u := u) (B := w.heap.size) (n := n) (e := 49) (ndC zeroNdd) (s := 4) rfl (by omega) (by omega) hu
    rw [rep_flat ndC n zeroNdd] at h1
    unfold halfN; rw [half_0]; exact h1
  clear hs hi T hd he hne hdE hn h hdl
  go_enter Tryz.func28, Tryz.ntmps28
  go_wp2_with fail
  refine C.out.mono ?_
  rintro e w1 ⟨rfl, hb1⟩
  have hs1 := hb1.size
  have HO1 := Lib.hid (HMk.out w1 hs1)
  have hb2 : Below w.heap.size w (w1.alloc (.cells (madeCells (ndC zeroNdd).toArray (n * 4)) 49)) := hb1.alloc hs1 _
  go_wp2_with fail
  obtain ⟨gB, hgB⟩ : ∃ gB, w1.heap.size = gB := ⟨_, rfl⟩
  have hgw : w.heap.size ≤ gB := by omega
  rw [hgB] at HO1 ⊢
  obtain ⟨w2, hw2⟩ : ∃ w2, w2 = w1.alloc (.cells (madeCells (ndC zeroNdd).toArray (n * 4)) 49) := ⟨_, rfl⟩
  rw [← hw2] at HO1 hb2 ⊢
  clear hw2 hgB hs1 hb1
  go_loopw [19] (fun x19 wr => ∃ i : Nat, i ≤ n ∧ x19 = .int .i64 (i : Int) ∧ Hid (wr.ownsRow w.heap.size 49 4 (.slice (some ⟨gB, 0, none⟩) n n) n (dcs (halfN d n i))) ∧ Below w.heap.size w wr) (fun x19 _ => n - (intOf x19).toNat)
  case atStart => exact ⟨0, Nat.zero_le _, rfl, HO1, hb2⟩
  case round =>
    obtain ⟨i, hin, rfl, HO, hb⟩ := hrel
    by_cases hlt : i < n
    · obtain ⟨x, hx⟩ : ∃ x, l[i]? = some x := ⟨_, List.getElem?_eq_getElem (by rw [HLn.out]; exact hlt)⟩
      have hdx := HDA.out i x hx
      obtain ⟨g, off, rfl, hg, c0, c1, c2, c3, c4, c5, c6, c7⟩ := (HV.out wr hb).node hx
      obtain ⟨k1, k2, k3⟩ := half_at (z := zeroNdd) HDl.out hdx
      have HSt : Hid (∀ W : World, W.ownsRow w.heap.size 49 4 (.slice (some ⟨gB, 0, none⟩) n n) n (dcs (halfN d n i)) → ((((W.setCell ⟨gB, i * 4, none⟩ (.int .i64 x.k)).setCell ⟨gB, i * 4 + 1, none⟩ (.int .i64 x.c)).setCell ⟨gB, i * 4 + 2, none⟩ (.int .i64 x.n)).setCell ⟨gB, i * 4 + 3, none⟩ (.string (str x.s))).ownsRow w.heap.size 49 4 (.slice (some ⟨gB, 0, none⟩) n n) n (dcs (halfN d n (i + 1)))) := Lib.hid fun W hW => by
        have h1 := ((((hW.stored (i * 4) (.int .i64 x.k)).1.stored (i * 4 + 1) (.int .i64 x.c)).1.stored (i * 4 + 2) (.int .i64 x.n)).1.stored (i * 4 + 3) (.string (str x.s))).1
        unfold halfN at h1 ⊢
        rw [k1] at h1
        rw [k2]
        have h2 := dcs_set (d.take i) (List.replicate (n - (i + 1)) zeroNdd) zeroNdd (ndX x)
        rw [k3] at h2
        rw [← h2]; exact h1
      have hold : ∀ j, j < 4 → ∃ u, wr.cell? ⟨gB, i * 4 + j, none⟩ = some u := fun j hj => by
        obtain ⟨u, hu⟩ : ∃ u, (dcs (halfN d n i))[i * 4 + j]? = some u := ⟨_, List.getElem?_eq_getElem (by
          unfold halfN; rw [dcs_len, List.length_append, k3, List.length_replicate]; omega)⟩
        have := HO.out.cells (g := gB) rfl (i * 4 + j) u hu
        rw [Go.WideShapes.add_plain, Nat.zero_add] at this
        exact ⟨u, this⟩
      obtain ⟨u0, o0⟩ := hold 0 (by omega)
      obtain ⟨u1, o1⟩ := hold 1 (by omega)
      obtain ⟨u2, o2⟩ := hold 2 (by omega)
      obtain ⟨u3, o3⟩ := hold 3 (by omega)
      rw [Nat.add_zero] at o0
      have f0 : wr.frozen? ⟨gB, i * 4, none⟩ = false := HO.out.frozenAt (i * 4)
      have f1 : wr.frozen? ⟨gB, i * 4 + 1, none⟩ = false := HO.out.frozenAt (i * 4 + 1)
      have f2 : wr.frozen? ⟨gB, i * 4 + 2, none⟩ = false := HO.out.frozenAt (i * 4 + 2)
      have f3 : wr.frozen? ⟨gB, i * 4 + 3, none⟩ = false := HO.out.frozenAt (i * 4 + 3)
      have hgl : gB < wr.heap.size := World.block_lt_of_cell? wr ⟨gB, i * 4, none⟩ o0
      have hi0 : (0 : Int) ≤ (i : Int) := Int.natCast_nonneg _
      have hi9 : (i : Int) < (n : Int) := by omega
      obtain ⟨x0, x1, x2, x3, x4, x5, x6, x7⟩ := x
      simp only at c0 c1 c2 c3 c4 c5 c6 c7 HSt
      obtain ⟨S, hS⟩ : ∃ S, str x3 = S := ⟨_, rfl⟩
      obtain ⟨P, hP⟩ : ∃ S, str x4 = S := ⟨_, rfl⟩
      rw [hS] at c3 HSt
      rw [hP] at c4
      clear hold k1 k2 k3 hdx hx hS hP
      go_wp2_with fail
      have hz := (((hb.setCell (p := ⟨gB, i * 4, none⟩) hgw (.int .i64 x0)).setCell (p := ⟨gB, i * 4 + 1, none⟩) hgw (.int .i64 x1)).setCell (p := ⟨gB, i * 4 + 2, none⟩) hgw (.int .i64 x2)).setCell (p := ⟨gB, i * 4 + 3, none⟩) hgw (.string S)
      exact ⟨⟨i + 1, by omega, by go_num, Lib.hid ((HSt.out wr HO.out).alloc _), hz.alloc hz.size _⟩, by simp [intOf]; omega⟩
    · obtain rfl : i = n := by omega
      go_wp2_with fail
      go_ret2
      refine ⟨_, _, rfl, Lib.hid ?_, hb⟩
      have := HO.out
      unfold halfN at this
      rw [half_n zeroNdd HDl.out] at this
      exact nd_own this HDl.out
set_option maxRecDepth 50000 in
set_option maxHeartbeats 6400000 in
theorem Spans_any (v : Value) (l : List Sx) (w : World) (h : XsAt w v l) (hs : SmX l) (hi : InX l) (T : STabs w) :
    Calls Tryz.prog 31 #[v] w (SpR (spansX l).1 (spansX l).1.length (spansX l).2 w) := by
  have C := Lib.hid (check_one v l w h hs hi T)
  obtain ⟨av, cv, rfl, _⟩ := h.slice
  by_cases he : (chkX l).2 = 0
  case neg =>
    have hd : spansX l = ([], (chkX l).2) := by unfold spansX; rw [if_pos he]
    rw [hd]
    obtain ⟨z, hz⟩ : ∃ z, (chkX l).2 = z := ⟨_, rfl⟩
    obtain ⟨n, hn⟩ : ∃ n, l.length = n := ⟨_, rfl⟩
    rw [hz] at C he ⊢
    rw [hn] at C ⊢
    have hne : (z != 0) = true := bne_iff_ne.2 he
    clear h hs hi T hd hz hn he
    go_enter Tryz.func31, Tryz.ntmps31
    go_wp2_with fail
    refine C.out.mono ?_
    rintro e w1 ⟨rfl, hb1⟩
    go_wp2_with fail
    go_ret2
    exact spR_err hb1
  have hd : spansX l = (l.map spX, 0) := by unfold spansX; rw [if_neg (by simpa using he)]
  rw [hd]
  rw [he] at C
  obtain ⟨_, hne, hl2⟩ := chkX_tree he
  obtain ⟨n, hn⟩ : ∃ n, l.length = n := ⟨_, rfl⟩
  obtain ⟨d, hdE⟩ : ∃ d, l.map spX = d := ⟨_, rfl⟩
  have hdl : d.length = n := by rw [← hdE, List.length_map, hn]
  have HDl := Lib.hid hdl
  have HDA : Hid (∀ (i : Nat) (x : Sx), l[i]? = some x → d[i]? = some (spX x)) := Lib.hid fun i x hx => by rw [← hdE, List.getElem?_map, hx]; rfl
  rw [hdE]
  simp only
  rw [hdl]
  rw [hn] at C hl2 h ⊢
  have HV := Lib.hid (fun W (hW : Below w.heap.size w W) => h.below hW (Nat.le_refl _))
  have HLn := Lib.hid hn
  have hmk := fun u => make_sps u n (by omega)
  have HMk : Hid (∀ u : World, w.heap.size ≤ u.heap.size → (u.alloc (.cells (madeCells (spC (0, 0)).toArray (n * 2)) 26)).ownsRow w.heap.size 26 2 (.slice (some ⟨u.heap.size, 0, none⟩) n n) n (sps (halfS d n 0))) := Lib.hid fun u hu => by
    have h1 := made_own (u := u) (B := w.heap.size) (n := n) (e := 26) (spC (0, 0)) (s := 2) rfl (by omega) (by omega) hu
    rw [rep_flat spC n ((0, 0) : Int × Int)] at h1
    unfold halfS; rw [half_0]; exact h1
  clear hs hi T hd he hne hdE hn h hdl
  go_enter Tryz.func31, Tryz.ntmps31
  go_wp2_with fail
  refine C.out.mono ?_
  rintro e w1 ⟨rfl, hb1⟩
  have hs1 := hb1.size
  have HO1 := Lib.hid (HMk.out w1 hs1)
  have hb2 : Below w.heap.size w (w1.alloc (.cells (madeCells (spC (0, 0)).toArray (n * 2)) 26)) := hb1.alloc hs1 _
  go_wp2_with fail
  obtain ⟨gB, hgB⟩ : ∃ gB, w1.heap.size = gB := ⟨_, rfl⟩
  have hgw : w.heap.size ≤ gB := by omega
  rw [hgB] at HO1 ⊢
  obtain ⟨w2, hw2⟩ : ∃ w2, w2 = w1.alloc (.cells (madeCells (spC (0, 0)).toArray (n * 2)) 26) := ⟨_, rfl⟩
  rw [← hw2] at HO1 hb2 ⊢
  clear hw2 hgB hs1 hb1
  go_loopw [19] (fun x19 wr => ∃ i : Nat, i ≤ n ∧ x19 = .int .i64 (i : Int) ∧ Hid (wr.ownsRow w.heap.size 26 2 (.slice (some ⟨gB, 0, none⟩) n n) n (sps (halfS d n i))) ∧ Below w.heap.size w wr) (fun x19 _ => n - (intOf x19).toNat)
  case atStart => exact ⟨0, Nat.zero_le _, rfl, HO1, hb2⟩
  case round =>
    obtain ⟨i, hin, rfl, HO, hb⟩ := hrel
    by_cases hlt : i < n
    · obtain ⟨x, hx⟩ : ∃ x, l[i]? = some x := ⟨_, List.getElem?_eq_getElem (by rw [HLn.out]; exact hlt)⟩
      have hdx := HDA.out i x hx
      obtain ⟨g, off, rfl, hg, c0, c1, c2, c3, c4, c5, c6, c7⟩ := (HV.out wr hb).node hx
      obtain ⟨k1, k2, k3⟩ := half_at (z := ((0, 0) : Int × Int)) HDl.out hdx
      have HSt : Hid (∀ W : World, W.ownsRow w.heap.size 26 2 (.slice (some ⟨gB, 0, none⟩) n n) n (sps (halfS d n i)) → ((W.setCell ⟨gB, i * 2, none⟩ (.int .i64 x.f)).setCell ⟨gB, i * 2 + 1, none⟩ (.int .i64 x.t)).ownsRow w.heap.size 26 2 (.slice (some ⟨gB, 0, none⟩) n n) n (sps (halfS d n (i + 1)))) := Lib.hid fun W hW => by
        have h1 := ((hW.stored (i * 2) (.int .i64 x.f)).1.stored (i * 2 + 1) (.int .i64 x.t)).1
        unfold halfS at h1 ⊢
        rw [k1] at h1
        rw [k2]
        have h2 := sps_set (d.take i) (List.replicate (n - (i + 1)) ((0, 0) : Int × Int)) (0, 0) (spX x)
        rw [k3] at h2
        rw [← h2]; exact h1
      have hold : ∀ j, j < 2 → ∃ u, wr.cell? ⟨gB, i * 2 + j, none⟩ = some u := fun j hj => by
        obtain ⟨u, hu⟩ : ∃ u, (sps (halfS d n i))[i * 2 + j]? = some u := ⟨_, List.getElem?_eq_getElem (by
          unfold halfS; rw [sps_len, List.length_append, k3, List.length_replicate]; omega)⟩
        have := HO.out.cells (g := gB) rfl (i * 2 + j) u hu
        rw [Go.WideShapes.add_plain, Nat.zero_add] at this
        exact ⟨u, this⟩
      obtain ⟨u0, o0⟩ := hold 0 (by omega)
      obtain ⟨u1, o1⟩ := hold 1 (by omega)
      rw [Nat.add_zero] at o0
      have f0 : wr.frozen? ⟨gB, i * 2, none⟩ = false := HO.out.frozenAt (i * 2)
      have f1 : wr.frozen? ⟨gB, i * 2 + 1, none⟩ = false := HO.out.frozenAt (i * 2 + 1)
      have hgl : gB < wr.heap.size := World.block_lt_of_cell? wr ⟨gB, i * 2, none⟩ o0
      have hi0 : (0 : Int) ≤ (i : Int) := Int.natCast_nonneg _
      have hi9 : (i : Int) < (n : Int) := by omega
      obtain ⟨x0, x1, x2, x3, x4, x5, x6, x7⟩ := x
      simp only at c0 c1 c2 c3 c4 c5 c6 c7 HSt
      obtain ⟨S, hS⟩ : ∃ S, str x3 = S := ⟨_, rfl⟩
      obtain ⟨P, hP⟩ : ∃ S, str x4 = S := ⟨_, rfl⟩
      rw [hS] at c3
      rw [hP] at c4
      clear hold k1 k2 k3 hdx hx hS hP
      go_wp2_with fail
      have hz := (hb.setCell (p := ⟨gB, i * 2, none⟩) hgw (.int .i64 x5)).setCell (p := ⟨gB, i * 2 + 1, none⟩) hgw (.int .i64 x6)
      exact ⟨⟨i + 1, by omega, by go_num, Lib.hid ((HSt.out wr HO.out).alloc _), hz.alloc hz.size _⟩, by simp [intOf]; omega⟩
    · obtain rfl : i = n := by omega
      go_wp2_with fail
      go_ret2
      refine ⟨_, _, rfl, Lib.hid ?_, hb⟩
      have := HO.out
      unfold halfS at this
      rw [half_n ((0, 0) : Int × Int) HDl.out] at this
      exact sp_own this HDl.out


theorem symAllX {w : World} (T : STabs w) : SymAll 92 symS w := fun s W hW => symbol_any s W (T.below hW)
theorem NdsAt.node {w : World} {a : Option Addr} {n c : Nat} {l : List Nd} (h : NdsAt w (.slice a n c) l) {k : Nat} {x : Nd} (hk : l[k]? = some x) :
    ∃ g off, a = some ⟨g, off, none⟩ ∧ g < w.heap.size ∧ w.cell? ⟨g, off + k * 4, none⟩ = some (.int .i64 x.1) ∧ w.cell? ⟨g, off + k * 4 + 1, none⟩ = some (.int .i64 x.2.1) ∧ w.cell? ⟨g, off + k * 4 + 2, none⟩ = some (.int .i64 x.2.2.1) ∧ w.cell? ⟨g, off + k * 4 + 3, none⟩ = some (.string (str x.2.2.2)) := by
  rcases h with ⟨_, _, _, rfl⟩ | ⟨g, off, c', e, hg, hc⟩
  · simp at hk
  · obtain ⟨rfl, _, _⟩ := Value.slice.inj e
    obtain ⟨h0, h1, h2, h3⟩ := dcs_at l hk
    exact ⟨g, off, rfl, hg, hc _ _ h0, hc _ _ h1, hc _ _ h2, hc _ _ h3⟩
theorem NdsAt.lens {w : World} {v : Value} {l : List Nd} (h : NdsAt w v l) : ∃ a c, v = .slice a l.length c := by
  rcases h with ⟨a, c, rfl, rfl⟩ | ⟨g, off, c, rfl, _⟩
  · exact ⟨a, c, rfl⟩
  · exact ⟨_, c, rfl⟩
theorem chgR_nil {er : Int} {W W' : World} (hb : Below W.heap.size W W') : ChgR [] 0 er W (.returned (.tuple #[.slice none 0 0, .int .i64 er])) W' := ⟨none, 0, rfl, Lib.hid (xs_nil _ _ _), hb⟩
def zeroSx : Sx := ⟨0, 0, 0, [], [], 0, 0, 0⟩
def halfX (d : List Sx) (n i : Nat) : List Sx := d.take i ++ List.replicate (n - i) zeroSx
theorem ofX_1 {t : List Nd} {sp : List (Int × Int)} (h : (chkT symS t).2 ≠ 0) : ofX t sp = ([], (chkT symS t).2) := by unfold ofX; rw [if_pos h]
theorem ofX_2 {t : List Nd} {sp : List (Int × Int)} (h : (chkT symS t).2 = 0) (hl : sp.length ≠ t.length) : ofX t sp = ([], 2) := by unfold ofX; rw [if_neg (by simpa using h), if_pos hl]
theorem ofX_3 {t : List Nd} {sp : List (Int × Int)} (h : (chkT symS t).2 = 0) (hl : sp.length = t.length) {i : Nat} {s : Int × Int} (hi : sp[i]? = some s) (hs : isSpB s.1 s.2 = false) : ofX t sp = ([], 6) := by
  unfold ofX
  rw [if_neg (by simpa using h), if_neg (by simpa using hl), if_pos]
  unfold allSp
  rw [Bool.eq_false_iff]
  intro ha
  rw [List.all_eq_true] at ha
  have := ha s (List.mem_of_getElem? hi)
  rw [hs] at this; cases this
theorem ofX_4 {t : List Nd} {sp : List (Int × Int)} (h : (chkT symS t).2 = 0) (hl : sp.length = t.length) (ha : ∀ (j : Nat) (s : Int × Int), sp[j]? = some s → isSpB s.1 s.2 = true) : ofX t sp = (List.zipWith mkX t sp, 0) := by
  unfold ofX
  rw [if_neg (by simpa using h), if_neg (by simpa using hl), if_neg]
  unfold allSp
  rw [Bool.not_eq_false, List.all_eq_true]
  intro s hs
  obtain ⟨j, hj, e⟩ := List.getElem_of_mem hs
  exact ha j s (by rw [List.getElem?_eq_getElem hj, e])
theorem zip_at {t : List Nd} {sp : List (Int × Int)} {i : Nat} {x : Nd} {s : Int × Int} (hx : t[i]? = some x) (hs : sp[i]? = some s) : (List.zipWith mkX t sp)[i]? = some (mkX x s) := by rw [List.getElem?_zipWith, hx, hs]
set_option maxRecDepth 50000 in
set_option maxHeartbeats 6400000 in
theorem Of_bad (ta sa : Option Addr) (nt ns tc sc : Nat) (t : List Nd) (sp : List (Int × Int)) (w : World) (ht : NdsAt w (.slice ta nt tc) t) (hnt : t.length = nt) (hns : sp.length = ns) (KB : KidsB t) (T : STabs w) (hbad : (chkT symS t).2 ≠ 0 ∨ (chkT symS t).2 = 0 ∧ ns ≠ nt) :
    Calls Tryz.prog 26 #[.agg #[.slice ta nt tc, .slice sa ns sc]] w (ChgR (ofX t sp).1 (ofX t sp).1.length (ofX t sp).2 w) := by
  have hb0 := below_b1 w (.cells #[.slice ta nt tc, .slice sa ns sc] 47)
  have C := Lib.hid (Check_any symS (.slice ta nt tc) t _ (ht.below hb0 (Nat.le_refl _)) (Lib.hid (symAllX (T.below hb0))) (Lib.hid KB))
  have hbx := World.alloc_heap_new w (.cells #[.slice ta nt tc, .slice sa ns sc] 47)
  have HBx : Hid (∀ W, Below (w.alloc (.cells #[.slice ta nt tc, .slice sa ns sc] 47)).heap.size (w.alloc (.cells #[.slice ta nt tc, .slice sa ns sc] 47)) W → W.cell? ⟨w.heap.size, 0, none⟩ = some (.slice ta nt tc) ∧ W.cell? ⟨w.heap.size, 1, none⟩ = some (.slice sa ns sc)) := Lib.hid fun W hW => by
    have h := (hW.block w.heap.size (by rw [World.size_alloc]; omega)).trans hbx
    exact ⟨by simp [World.cell?, h], by simp [World.cell?, h]⟩
  obtain ⟨b0, b1⟩ := HBx.out _ (Below.refl _ _)
  unfold chkTV at C
  rcases hbad with h | ⟨h, hne⟩
  · rw [ofX_1 h]
    obtain ⟨⟨z1, z⟩, hz⟩ : ∃ z, chkT symS t = z := ⟨_, rfl⟩
    rw [hz] at C h ⊢
    simp only at C h ⊢
    have q : (z != 0) = true := bne_iff_ne.2 h
    clear ht hnt hns KB T h hz hbx HBx
    go_enter Tryz.func26, Tryz.ntmps26
    go_wp2_with fail
    refine C.out.mono ?_
    rintro e w1 ⟨rfl, hb1⟩
    go_wp2_with fail
    go_ret2
    exact chgR_nil (below_step hb0 hb1)
  · rw [ofX_2 h (by rw [hnt, hns]; exact hne)]
    obtain ⟨⟨z1, z⟩, hz⟩ : ∃ z, chkT symS t = z := ⟨_, rfl⟩
    rw [hz] at C h
    simp only at C h ⊢
    subst h
    have q : ((ns : Int) != (nt : Int)) = true := bne_iff_ne.2 (by omega)
    clear ht hnt hns KB T hz hbx hne
    go_enter Tryz.func26, Tryz.ntmps26
    go_wp2_with fail
    refine C.out.mono ?_
    rintro e w1 ⟨rfl, hb1⟩
    obtain ⟨a0, a1⟩ := HBx.out w1 hb1
    clear b0 b1
    go_wp2_with fail
    go_ret2
    exact chgR_nil (below_step hb0 hb1)
set_option maxRecDepth 50000 in
set_option maxHeartbeats 12800000 in
theorem Of_in (ta sa : Option Addr) (n tc sc : Nat) (t : List Nd) (sp : List (Int × Int)) (w : World) (ht : NdsAt w (.slice ta n tc) t) (hs : SpAt w (.slice sa n sc) sp) (hnt : t.length = n) (hns : sp.length = n) (KB : KidsB t) (T : STabs w) (h : (chkT symS t).2 = 0) (hn : n ≤ 400) :
    Calls Tryz.prog 26 #[.agg #[.slice ta n tc, .slice sa n sc]] w (ChgR (ofX t sp).1 (ofX t sp).1.length (ofX t sp).2 w) := by
  have hb0 := below_b1 w (.cells #[.slice ta n tc, .slice sa n sc] 47)
  have C := Lib.hid (Check_any symS (.slice ta n tc) t _ (ht.below hb0 (Nat.le_refl _)) (Lib.hid (symAllX (T.below hb0))) (Lib.hid KB))
  have hbx := World.alloc_heap_new w (.cells #[.slice ta n tc, .slice sa n sc] 47)
  have HBx : Hid (∀ W, Below (w.alloc (.cells #[.slice ta n tc, .slice sa n sc] 47)).heap.size (w.alloc (.cells #[.slice ta n tc, .slice sa n sc] 47)) W → W.cell? ⟨w.heap.size, 0, none⟩ = some (.slice ta n tc) ∧ W.cell? ⟨w.heap.size, 1, none⟩ = some (.slice sa n sc)) := Lib.hid fun W hW => by
    have h := (hW.block w.heap.size (by rw [World.size_alloc]; omega)).trans hbx
    exact ⟨by simp [World.cell?, h], by simp [World.cell?, h]⟩
  obtain ⟨b0, b1⟩ := HBx.out _ (Below.refl _ _)
  unfold chkTV at C
  have HE := Lib.hid (fun (i : Nat) (s : Int × Int) (hi : sp[i]? = some s) (hs : isSpB s.1 s.2 = false) => ofX_3 h (by rw [hnt, hns]) hi hs)
  have HF := Lib.hid (fun ha => ofX_4 h (by rw [hnt, hns]) ha)
  obtain ⟨⟨z1, z⟩, hz⟩ : ∃ z, chkT symS t = z := ⟨_, rfl⟩
  rw [hz] at C h
  simp only at C h
  subst h
  obtain ⟨r, hr⟩ : ∃ r, ofX t sp = r := ⟨_, rfl⟩
  rw [hr] at HE HF ⊢
  have HT := Lib.hid (fun W (hW : Below w.heap.size w W) => ht.below hW (Nat.le_refl _))
  have HS := Lib.hid (fun W (hW : Below w.heap.size w W) => hs.below hW (Nat.le_refl _))
  have HLt := Lib.hid hnt
  have HLs := Lib.hid hns
  obtain ⟨d, hd⟩ : ∃ d, List.zipWith mkX t sp = d := ⟨_, rfl⟩
  have hdl : d.length = n := by rw [← hd, of_len (by rw [hnt, hns])]; exact hnt
  have HDl := Lib.hid hdl
  have HDA : Hid (∀ (i : Nat) (x : Nd) (s : Int × Int), t[i]? = some x → sp[i]? = some s → d[i]? = some (mkX x s)) := Lib.hid fun i x s hx hs => by rw [← hd]; exact zip_at hx hs
  rw [hd] at HF
  have CSp := Lib.hid (fun f t W => isSpan_any f t W)
  have hmk := fun u => make_sxs u n (by omega)
  have q0 : ((n : Int) != (n : Int)) = false := by simp
  have HMk : Hid (∀ u : World, w.heap.size < u.heap.size → (u.alloc (.cells (madeCells (sxC ⟨0, 0, 0, [], [], 0, 0, 0⟩).toArray (n * 8)) 28)).ownsRow (w.heap.size + 1) 28 8 (.slice (some ⟨u.heap.size, 0, none⟩) n n) n (xcs (halfX d n 0))) := Lib.hid fun u hu => by
    have h1 := made_own (u := u) (B := w.heap.size + 1) (n := n) (e := 28) (sxC ⟨0, 0, 0, [], [], 0, 0, 0⟩) (s := 8) rfl (by omega) (by omega) hu
    rw [rep_flat sxC n ⟨0, 0, 0, [], [], 0, 0, 0⟩] at h1
    unfold halfX; rw [half_0]; exact h1
  clear ht hs hnt hns KB T hz hr hd hdl hbx
  go_enter Tryz.func26, Tryz.ntmps26
  go_wp2_with fail
  refine C.out.mono ?_
  rintro e w1 ⟨rfl, hb1⟩
  have hB1 := below_step hb0 hb1
  have hs1 := hb1.size
  rw [World.size_alloc] at hs1
  obtain ⟨a0, a1⟩ := HBx.out w1 hb1
  have HO1 := Lib.hid (HMk.out w1 (by omega))
  have hb2 : Below (w.heap.size + 1) (w.alloc (.cells #[.slice ta n tc, .slice sa n sc] 47)) (w1.alloc (.cells (madeCells (sxC ⟨0, 0, 0, [], [], 0, 0, 0⟩).toArray (n * 8)) 28)) := by
    rw [World.size_alloc] at hb1
    exact hb1.alloc (by omega) _
  obtain ⟨a2, a3⟩ := HBx.out _ (by rw [World.size_alloc]; exact hb2)
  clear b0 b1
  go_wp2_with fail
  obtain ⟨gB, hgB⟩ : ∃ gB, w1.heap.size = gB := ⟨_, rfl⟩
  have hgw : w.heap.size + 1 ≤ gB := by omega
  rw [hgB] at HO1 ⊢
  obtain ⟨w2, hw2⟩ : ∃ w2, w2 = w1.alloc (.cells (madeCells (sxC ⟨0, 0, 0, [], [], 0, 0, 0⟩).toArray (n * 8)) 28) := ⟨_, rfl⟩
  rw [← hw2] at HO1 hb2 ⊢
  obtain ⟨w0, hw0⟩ : ∃ w0, w0 = w.alloc (.cells #[.slice ta n tc, .slice sa n sc] 47) := ⟨_, rfl⟩
  have hsz0 : w0.heap.size = w.heap.size + 1 := by rw [hw0, World.size_alloc]
  rw [← hw0] at hb2 hb0 HBx
  rw [hsz0] at HBx
  have HB0 : Hid (Below w.heap.size w w0) := Lib.hid hb0
  have HSz := Lib.hid hsz0
  clear hw2 hgB hs1 hb1 hw0 hsz0 hb0 hB1 a0 a1 a2 a3
  go_loopw [32] (fun x32 wr => ∃ i : Nat, i ≤ n ∧ x32 = .int .i64 (i : Int) ∧ Hid (wr.ownsRow (w.heap.size + 1) 28 8 (.slice (some ⟨gB, 0, none⟩) n n) n (xcs (halfX d n i))) ∧ Below (w.heap.size + 1) w0 wr ∧ Hid (∀ (j : Nat) (s : Int × Int), j < i → sp[j]? = some s → isSpB s.1 s.2 = true)) (fun x32 _ => n - (intOf x32).toNat)
  case atStart => exact ⟨0, Nat.zero_le _, rfl, HO1, hb2, Lib.hid fun j s hj => absurd hj (Nat.not_lt_zero _)⟩
  case round =>
    obtain ⟨i, hin, rfl, HO, hb, HA⟩ := hrel
    have hB : Below w.heap.size w wr := HB0.out.trans (hb.mono (Nat.le_succ _))
    by_cases hlt : i < n
    · obtain ⟨x, hx⟩ : ∃ x, t[i]? = some x := ⟨_, List.getElem?_eq_getElem (by rw [HLt.out]; exact hlt)⟩
      obtain ⟨s, hs⟩ : ∃ x, sp[i]? = some x := ⟨_, List.getElem?_eq_getElem (by rw [HLs.out]; exact hlt)⟩
      have hdx := HDA.out i x s hx hs
      obtain ⟨g, off, rfl, hg, c0, c1, c2, c3⟩ := (HT.out wr hB).node hx
      obtain ⟨g', off', rfl, hg', s0, s1⟩ := (HS.out wr hB).span hs
      obtain ⟨k1, k2, k3⟩ := half_at (z := zeroSx) HDl.out hdx
      have HSt : Hid (∀ W : World, W.ownsRow (w.heap.size + 1) 28 8 (.slice (some ⟨gB, 0, none⟩) n n) n (xcs (halfX d n i)) → ((((((((W.setCell ⟨gB, i * 8, none⟩ (.int .i64 x.1)).setCell ⟨gB, i * 8 + 1, none⟩ (.int .i64 x.2.1)).setCell ⟨gB, i * 8 + 2, none⟩ (.int .i64 x.2.2.1)).setCell ⟨gB, i * 8 + 3, none⟩ (.string (str x.2.2.2))).setCell ⟨gB, i * 8 + 4, none⟩ (.string ⟨#[]⟩)).setCell ⟨gB, i * 8 + 5, none⟩ (.int .i64 s.1)).setCell ⟨gB, i * 8 + 6, none⟩ (.int .i64 s.2)).setCell ⟨gB, i * 8 + 7, none⟩ (.int .i64 0)).ownsRow (w.heap.size + 1) 28 8 (.slice (some ⟨gB, 0, none⟩) n n) n (xcs (halfX d n (i + 1)))) := Lib.hid fun W hW => by
        have h1 := ((((((((hW.stored (i * 8) (.int .i64 x.1)).1.stored (i * 8 + 1) (.int .i64 x.2.1)).1.stored (i * 8 + 2) (.int .i64 x.2.2.1)).1.stored (i * 8 + 3) (.string (str x.2.2.2))).1.stored (i * 8 + 4) (.string ⟨#[]⟩)).1.stored (i * 8 + 5) (.int .i64 s.1)).1.stored (i * 8 + 6) (.int .i64 s.2)).1.stored (i * 8 + 7) (.int .i64 0)).1
        unfold halfX at h1 ⊢
        rw [k1] at h1
        rw [k2]
        have h2 := xcs_set8 (d.take i) (List.replicate (n - (i + 1)) zeroSx) zeroSx (mkX x s)
        rw [k3] at h2
        rw [← h2]; exact h1
      have HI8 : Hid (∀ j, j < 8 → ∃ u, (xcs (halfX d n i))[i * 8 + j]? = some u) := Lib.hid fun j hj => ⟨_, List.getElem?_eq_getElem (by
          unfold halfX; rw [xcs_len, List.length_append, k3, List.length_replicate]; omega)⟩
      have HSi := Lib.hid hs
      have HEi := Lib.hid (HE.out i s hs)
      have HA2 : Hid (isSpB s.1 s.2 = true → ∀ (j : Nat) (s' : Int × Int), j < i + 1 → sp[j]? = some s' → isSpB s'.1 s'.2 = true) := Lib.hid fun he j y hj hy => by
        by_cases hji : j < i
        · exact HA.out j y hji hy
        · obtain rfl : j = i := by omega
          rw [hs] at hy
          obtain rfl := Option.some.inj hy
          exact he
      have hsr : w.heap.size + 1 ≤ wr.heap.size := by have := hb.size; rw [HSz.out] at this; exact this
      obtain ⟨e0, e1⟩ := HBx.out wr hb
      have hi0 : (0 : Int) ≤ (i : Int) := Int.natCast_nonneg _
      have hi9 : (i : Int) < (n : Int) := by omega
      obtain ⟨x0, x1, x2, x3⟩ := x
      obtain ⟨f, tt⟩ := s
      simp only at c0 c1 c2 c3 s0 s1 HSt HEi HA2
      obtain ⟨S, hS⟩ : ∃ S, str x3 = S := ⟨_, rfl⟩
      rw [hS] at c3 HSt
      obtain ⟨bo, hbo⟩ : ∃ bo, bo = isSpB f tt := ⟨_, rfl⟩
      have CS1 := Lib.hid (CSp.out f tt)
      rw [← hbo] at CS1 HEi HA2
      clear k1 k2 k3 hdx hx hs hS hbo
      have hba := hb.alloc hsr (.cells #[.int .i64 x0, .int .i64 x1, .int .i64 x2, .string S] 49)
      obtain ⟨e2, e3⟩ := HBx.out _ hba
      obtain ⟨g1, o1, eo, _, s2, s3⟩ := (HS.out _ (HB0.out.trans (hba.mono (Nat.le_succ _)))).span HSi.out
      cases eo
      simp only at s2 s3
      go_wp2_with fail
      refine (CS1.out _).mono ?_
      rintro e w5 ⟨rfl, hb5⟩
      have hb5' : Below (w.heap.size + 1) w0 w5 := hba.trans (hb5.mono (by rw [World.size_alloc]; omega))
      have hB5 : Below w.heap.size w w5 := HB0.out.trans (hb5'.mono (Nat.le_succ _))
      have hn5 := (hb5.block wr.heap.size (by rw [World.size_alloc]; omega)).trans (World.alloc_heap_new wr _)
      have n0 : w5.cell? ⟨wr.heap.size, 0, none⟩ = some (.int .i64 x0) := by simp [World.cell?, hn5]
      have n1 : w5.cell? ⟨wr.heap.size, 1, none⟩ = some (.int .i64 x1) := by simp [World.cell?, hn5]
      have n2 : w5.cell? ⟨wr.heap.size, 2, none⟩ = some (.int .i64 x2) := by simp [World.cell?, hn5]
      have n3 : w5.cell? ⟨wr.heap.size, 3, none⟩ = some (.string S) := by simp [World.cell?, hn5]
      obtain ⟨g2, o2, eo, _, s0', s1'⟩ := (HS.out w5 hB5).span HSi.out
      cases eo
      obtain ⟨e0', e1'⟩ := HBx.out w5 hb5'
      have HO5 := Lib.hid (own_below (HO.out.alloc (.cells #[.int .i64 x0, .int .i64 x1, .int .i64 x2, .string S] 49)) hb5)
      have hold : ∀ j, j < 8 → ∃ u, w5.cell? ⟨gB, i * 8 + j, none⟩ = some u := fun j hj => by
        obtain ⟨u, hu⟩ := HI8.out j hj
        have := HO5.out.cells (g := gB) rfl (i * 8 + j) u hu
        rw [Go.WideShapes.add_plain, Nat.zero_add] at this
        exact ⟨u, this⟩
      obtain ⟨u0, r0⟩ := hold 0 (by omega)
      obtain ⟨u1, r1⟩ := hold 1 (by omega)
      obtain ⟨u2, r2⟩ := hold 2 (by omega)
      obtain ⟨u3, r3⟩ := hold 3 (by omega)
      obtain ⟨u4, r4⟩ := hold 4 (by omega)
      obtain ⟨u5, r5⟩ := hold 5 (by omega)
      obtain ⟨u6, r6⟩ := hold 6 (by omega)
      obtain ⟨u7, r7⟩ := hold 7 (by omega)
      have f0 : w5.frozen? ⟨gB, i * 8, none⟩ = false := HO5.out.frozenAt (i * 8)
      have f1 : w5.frozen? ⟨gB, i * 8 + 1, none⟩ = false := HO5.out.frozenAt (i * 8 + 1)
      have f2 : w5.frozen? ⟨gB, i * 8 + 2, none⟩ = false := HO5.out.frozenAt (i * 8 + 2)
      have f3 : w5.frozen? ⟨gB, i * 8 + 3, none⟩ = false := HO5.out.frozenAt (i * 8 + 3)
      have f4 : w5.frozen? ⟨gB, i * 8 + 4, none⟩ = false := HO5.out.frozenAt (i * 8 + 4)
      have f5 : w5.frozen? ⟨gB, i * 8 + 5, none⟩ = false := HO5.out.frozenAt (i * 8 + 5)
      have f6 : w5.frozen? ⟨gB, i * 8 + 6, none⟩ = false := HO5.out.frozenAt (i * 8 + 6)
      have f7 : w5.frozen? ⟨gB, i * 8 + 7, none⟩ = false := HO5.out.frozenAt (i * 8 + 7)
      rw [Nat.add_zero] at r0
      simp only at s0' s1'
      clear hold c0 c1 c2 c3 s0 s1 e0 e1 e2 e3 s2 s3 hb5 hn5 hba
      cases bo
      · have hW := HEi.out rfl
        go_wp2_with fail
        go_ret2
        rw [hW]
        exact chgR_nil hB5
      · have HA3 := Lib.hid (HA2.out rfl)
        go_wp2_with fail
        go_region
        all_goals
          go_wp2_with fail
          have hz := ((((((((hb5'.setCell (p := ⟨gB, i * 8, none⟩) hgw (.int .i64 x0)).setCell (p := ⟨gB, i * 8 + 1, none⟩) hgw (.int .i64 x1)).setCell (p := ⟨gB, i * 8 + 2, none⟩) hgw (.int .i64 x2)).setCell (p := ⟨gB, i * 8 + 3, none⟩) hgw (.string S)).setCell (p := ⟨gB, i * 8 + 4, none⟩) hgw (.string ⟨#[]⟩)).setCell (p := ⟨gB, i * 8 + 5, none⟩) hgw (.int .i64 f)).setCell (p := ⟨gB, i * 8 + 6, none⟩) hgw (.int .i64 tt)).setCell (p := ⟨gB, i * 8 + 7, none⟩) hgw (.int .i64 0))
          exact ⟨⟨i + 1, by omega, by go_num, Lib.hid (HSt.out w5 HO5.out).drew, hz.drew, HA3⟩, by simp [intOf]; omega⟩
    · obtain rfl : i = n := by omega
      have hr := HF.out fun j s hs => HA.out j s (by have := (List.getElem?_eq_some_iff.1 hs).1; rw [HLs.out] at this; exact this) hs
      go_wp2_with fail
      go_ret2
      rw [hr]
      simp only
      rw [HDl.out]
      refine ⟨_, _, rfl, Lib.hid ?_, hB⟩
      have := HO.out
      unfold halfX at this
      rw [half_n zeroSx HDl.out] at this
      exact xs_own this HDl.out
theorem Of_any (vt vs : Value) (t : List Nd) (sp : List (Int × Int)) (w : World) (ht : NdsAt w vt t) (hs : SpAt w vs sp) (KB : KidsB t) (T : STabs w) :
    Calls Tryz.prog 26 #[.agg #[vt, vs]] w (ChgR (ofX t sp).1 (ofX t sp).1.length (ofX t sp).2 w) := by
  obtain ⟨ta, tc, rfl⟩ := ht.lens
  obtain ⟨sa, sc, rfl⟩ := hs.slice
  by_cases h : (chkT symS t).2 = 0
  · by_cases hl : sp.length = t.length
    · have hn : t.length ≤ 400 := by
        have h' := h
        unfold chkT chkD at h'
        by_cases h1 : t = []
        · rw [if_pos h1] at h'; cases h'
        · by_cases h2 : 400 < t.length
          · rw [if_neg h1, if_pos h2] at h'; cases h'
          · omega
      rw [hl] at hs ⊢
      exact Of_in ta sa t.length tc sc t sp w ht hs rfl hl KB T h hn
    · exact Of_bad ta sa _ _ tc sc t sp w ht rfl rfl KB T (.inr ⟨h, hl⟩)
  · exact Of_bad ta sa _ _ tc sc t sp w ht rfl rfl KB T (.inl h)


set_option maxRecDepth 50000 in
set_option maxHeartbeats 6400000 in
theorem rSpans_any (v : Value) (l : List Sx) (w : World) (h : XsAt w v l) (hs : SmX l) (hi : InX l) :
    Calls Tryz.prog 32 #[v] w (SpR (spansX l).1 (spansX l).1.length (spansX l).2 w) := by
  have C := Lib.hid (rCheck10_any v l w h hs hi)
  obtain ⟨av, cv, rfl, _⟩ := h.slice
  by_cases he : (chkX l).2 = 0
  case neg =>
    have hd : spansX l = ([], (chkX l).2) := by unfold spansX; rw [if_pos he]
    rw [hd]
    obtain ⟨⟨z1, z⟩, hz⟩ : ∃ z, chkX l = z := ⟨_, rfl⟩
    obtain ⟨n, hn⟩ : ∃ n, l.length = n := ⟨_, rfl⟩
    rw [hz] at C he ⊢
    simp only at C he ⊢
    rw [hn] at C ⊢
    have hne : (z != 0) = true := bne_iff_ne.2 he
    clear h hs hi hd hz hn he
    go_enter Tryz.func32, Tryz.ntmps32
    go_wp2_with fail
    refine C.out.mono ?_
    rintro e w1 ⟨rfl, hb1⟩
    go_wp2_with fail
    go_ret2
    exact spR_err hb1
  have hd : spansX l = (l.map spX, 0) := by unfold spansX; rw [if_neg (by simpa using he)]
  rw [hd]
  rw [(chkX_ok he).1] at C
  obtain ⟨_, hne, hl2⟩ := chkX_tree he
  obtain ⟨n, hn⟩ : ∃ n, l.length = n := ⟨_, rfl⟩
  obtain ⟨d, hdE⟩ : ∃ d, l.map spX = d := ⟨_, rfl⟩
  have hdl : d.length = n := by rw [← hdE, List.length_map, hn]
  have HDl := Lib.hid hdl
  have HDA : Hid (∀ (i : Nat) (x : Sx), l[i]? = some x → sps (d.take (i + 1)) = sps (d.take i) ++ [.int .i64 x.f, .int .i64 x.t]) := Lib.hid fun i x hx => by
    rw [List.take_add_one, ← hdE, List.getElem?_map, hx, sps_app]; rfl
  rw [hdE]
  simp only at C ⊢
  rw [hdl]
  rw [hn] at C hl2 h ⊢
  have HV := Lib.hid (fun W (hW : Below w.heap.size w W) => h.below hW (Nat.le_refl _))
  have HLn := Lib.hid hn
  obtain ⟨i0, hi0, hz0, hz1, hz2⟩ := info_parts2 zeroSpI
  clear hs hi hd he hne hdE hn h hdl
  go_enter Tryz.func32, Tryz.ntmps32
  go_wp2_with fail
  refine C.out.mono ?_
  rintro e w1 ⟨rfl, hb1⟩
  go_wp2_with fail
  go_loopw [6, 7] (fun x6 x7 wr => ∃ (i : Nat) (b : Option Addr) (c : Nat), i ≤ n ∧ x7 = .int .i64 (i : Int) ∧ x6 = .slice b i c ∧ Hid (wr.ownsRow w.heap.size 26 2 (.slice b i c) i (sps (d.take i))) ∧ Below w.heap.size w wr) (fun _ x7 _ => n - (intOf x7).toNat)
  case atStart => exact ⟨0, none, 0, Nat.zero_le _, rfl, rfl, Lib.hid (by rw [List.take_zero]; exact own_nilX _ _ _ _), hb1⟩
  case round =>
    obtain ⟨i, b, c, hin, rfl, rfl, HO, hb⟩ := hrel
    have hi0' : (0 : Int) ≤ (i : Int) := Int.natCast_nonneg _
    by_cases hlt : i < n
    · obtain ⟨x, hx⟩ : ∃ x, l[i]? = some x := ⟨_, List.getElem?_eq_getElem (by rw [HLn.out]; exact hlt)⟩
      have HT1 := Lib.hid (HDA.out i x hx)
      obtain ⟨g, off, rfl, hg, c0, c1, c2, c3, c4, c5, c6, c7⟩ := (HV.out wr hb).node hx
      have hi9 : (i : Int) < (n : Int) := by omega
      have hbs := hb.size
      clear hx c0 c1 c2 c3 c4 c7
      go_wp2_with (at_builtin; refine wpList_append_own _ rfl _ _ 45 rfl w.heap.size 26 i0 (.agg #[.int .i64 0, .int .i64 0]) 2 16 Tryz.underlying45 hi0 hz0 hz1 hz2 rfl (by decide) _ _ _ rfl (HO.out.alloc _) ⟨wr.heap.size, 0, none⟩ 1 1 [.int .i64 x.f, .int .i64 x.t] rfl rfl (new_cellsX _ _ _ _ rfl) (by simp [Value.oneCell']) (by unfold maxLen; omega) (by omega) (by rw [World.size_alloc]; omega) ?_; intro v4 w4 hown4 hgrow4 _; rw [← HT1.out] at hown4; obtain ⟨b4, cb4, rfl⟩ := own_lenR hown4; have hb4 : Below w.heap.size w w4 := (hb.alloc hb.size _).grown hgrow4 (by rw [World.size_alloc]; omega) (fun k hk => (HO.out.lt k hk).1); have HO4 := Lib.hid hown4; clear hown4 hgrow4)
      exact ⟨⟨i + 1, b4, cb4, by omega, by go_num, rfl, HO4, hb4⟩, by simp [intOf]; omega⟩
    · obtain rfl : i = n := by omega
      go_wp2_with fail
      go_ret2
      refine ⟨_, _, rfl, Lib.hid ?_, hb⟩
      have := HO.out
      rw [List.take_of_length_le (Nat.le_of_eq HDl.out)] at this
      exact sp_own this HDl.out
set_option maxRecDepth 50000 in
set_option maxHeartbeats 6400000 in
theorem rData_any (v : Value) (l : List Sx) (w : World) (h : XsAt w v l) (hs : SmX l) (hi : InX l) :
    Calls Tryz.prog 29 #[v] w (NdR (dataX l).1 (dataX l).1.length (dataX l).2 w) := by
  have C := Lib.hid (rCheck10_any v l w h hs hi)
  obtain ⟨av, cv, rfl, _⟩ := h.slice
  by_cases he : (chkX l).2 = 0
  case neg =>
    have hd : dataX l = ([], (chkX l).2) := by unfold dataX; rw [if_pos he]
    rw [hd]
    obtain ⟨⟨z1, z⟩, hz⟩ : ∃ z, chkX l = z := ⟨_, rfl⟩
    obtain ⟨n, hn⟩ : ∃ n, l.length = n := ⟨_, rfl⟩
    rw [hz] at C he ⊢
    simp only at C he ⊢
    rw [hn] at C ⊢
    have hne : (z != 0) = true := bne_iff_ne.2 he
    clear h hs hi hd hz hn he
    go_enter Tryz.func29, Tryz.ntmps29
    go_wp2_with fail
    refine C.out.mono ?_
    rintro e w1 ⟨rfl, hb1⟩
    go_wp2_with fail
    go_ret2
    exact ndR_err hb1
  have hd : dataX l = (l.map ndX, 0) := by unfold dataX; rw [if_neg (by simpa using he)]
  rw [hd]
  rw [(chkX_ok he).1] at C
  obtain ⟨_, hne, hl2⟩ := chkX_tree he
  obtain ⟨n, hn⟩ : ∃ n, l.length = n := ⟨_, rfl⟩
  obtain ⟨d, hdE⟩ : ∃ d, l.map ndX = d := ⟨_, rfl⟩
  have hdl : d.length = n := by rw [← hdE, List.length_map, hn]
  have HDl := Lib.hid hdl
  have HDA : Hid (∀ (i : Nat) (x : Sx), l[i]? = some x → dcs (d.take (i + 1)) = dcs (d.take i) ++ [.int .i64 x.k, .int .i64 x.c, .int .i64 x.n, .string (str x.s)]) := Lib.hid fun i x hx => by
    rw [List.take_add_one, ← hdE, List.getElem?_map, hx, dcs_app]; rfl
  rw [hdE]
  simp only at C ⊢
  rw [hdl]
  rw [hn] at C hl2 h ⊢
  have HV := Lib.hid (fun W (hW : Below w.heap.size w W) => h.below hW (Nat.le_refl _))
  have HLn := Lib.hid hn
  obtain ⟨i0, hi0, hz0, hz1, hz2⟩ := info_parts2 zeroNdI
  clear hs hi hd he hne hdE hn h hdl
  go_enter Tryz.func29, Tryz.ntmps29
  go_wp2_with fail
  refine C.out.mono ?_
  rintro e w1 ⟨rfl, hb1⟩
  go_wp2_with fail
  go_loopw [6, 7] (fun x6 x7 wr => ∃ (i : Nat) (b : Option Addr) (c : Nat), i ≤ n ∧ x7 = .int .i64 (i : Int) ∧ x6 = .slice b i c ∧ Hid (wr.ownsRow w.heap.size 49 4 (.slice b i c) i (dcs (d.take i))) ∧ Below w.heap.size w wr) (fun _ x7 _ => n - (intOf x7).toNat)
  case atStart => exact ⟨0, none, 0, Nat.zero_le _, rfl, rfl, Lib.hid (by rw [List.take_zero]; exact own_nilX _ _ _ _), hb1⟩
  case round =>
    obtain ⟨i, b, c, hin, rfl, rfl, HO, hb⟩ := hrel
    have hi0' : (0 : Int) ≤ (i : Int) := Int.natCast_nonneg _
    by_cases hlt : i < n
    · obtain ⟨x, hx⟩ : ∃ x, l[i]? = some x := ⟨_, List.getElem?_eq_getElem (by rw [HLn.out]; exact hlt)⟩
      have HT1 := Lib.hid (HDA.out i x hx)
      obtain ⟨g, off, rfl, hg, c0, c1, c2, c3, c4, c5, c6, c7⟩ := (HV.out wr hb).node hx
      have hi9 : (i : Int) < (n : Int) := by omega
      have hbs := hb.size
      obtain ⟨x0, x1, x2, x3, x4, x5, x6, x7⟩ := x
      simp only at c0 c1 c2 c3 HT1
      obtain ⟨S, hS⟩ : ∃ S, str x3 = S := ⟨_, rfl⟩
      rw [hS] at c3 HT1
      have HOd : Hid (∀ W, Below wr.heap.size wr W → W.ownsRow w.heap.size 49 4 (.slice b i c) i (dcs (d.take i))) := Lib.hid fun W hW => own_below HO.out hW
      have HbA : Hid (Below wr.heap.size wr (wr.drew.alloc (.cells #[.int .i64 x0, .int .i64 x1, .int .i64 x2, .string S] 49))) := Lib.hid ((Below.refl _ wr).drew.alloc (Nat.le_refl _) _)
      have HbB : Hid (Below wr.heap.size wr (wr.alloc (.cells #[.int .i64 x0, .int .i64 x1, .int .i64 x2, .string S] 49)).drew) := Lib.hid (below_b1 wr _).drew
      have HK1 : Hid (∀ W, Below w.heap.size w W → W.cell? ⟨g, off + i * 8, none⟩ = some (.int .i64 x0) ∧ W.cell? ⟨g, off + i * 8 + 1, none⟩ = some (.int .i64 x1) ∧ W.cell? ⟨g, off + i * 8 + 2, none⟩ = some (.int .i64 x2) ∧ W.cell? ⟨g, off + i * 8 + 3, none⟩ = some (.string S)) := Lib.hid fun W hW => by
        obtain ⟨g1, o1, e1, _, k0, k1, k2, k3, _⟩ := (HV.out W hW).node hx
        cases e1
        simp only at k0 k1 k2 k3
        rw [hS] at k3
        exact ⟨k0, k1, k2, k3⟩
      clear hx c4 c5 c6 c7 hS
      go_wp2_with fail
      go_region_held3 (fun w' => w'.cell? ⟨g, off + i * 8, none⟩ = some (.int .i64 x0) ∧ w'.cell? ⟨g, off + i * 8 + 1, none⟩ = some (.int .i64 x1) ∧ w'.cell? ⟨g, off + i * 8 + 2, none⟩ = some (.int .i64 x2) ∧ w'.cell? ⟨g, off + i * 8 + 3, none⟩ = some (.string S)) (first | exact HK1.out _ (by assumption) | go_keep) (first
        | (refine step_append_own rfl _ _ 44 rfl w.heap.size 49 i0 (.agg #[.int .i64 0, .int .i64 0, .int .i64 0, .string ⟨#[]⟩]) 4 40 Tryz.underlying44 hi0 hz0 hz1 hz2 rfl (by decide) _ _ _ rfl (HOd.out _ HbA.out) ⟨wr.heap.size, 0, none⟩ 1 1 [.int .i64 x0, .int .i64 x1, .int .i64 x2, .string S] rfl rfl (new_cellsX _ _ _ _ rfl) (by simp [Value.oneCell']) (by unfold maxLen; omega) (by omega) (Nat.le_trans hbs HbA.out.size) ?_; intro v4 w4 hown4 hgrow4 _; rw [← HT1.out] at hown4; obtain ⟨b4, cb4, rfl⟩ := own_lenR hown4; have hb4 : Below w.heap.size w w4 := (hb.trans (HbA.out.mono hbs)).grown hgrow4 (Nat.le_trans hbs HbA.out.size) (fun k hk => (HO.out.lt k hk).1); have HO4 := Lib.hid hown4; clear hown4 hgrow4)
        | (refine step_append_own rfl _ _ 44 rfl w.heap.size 49 i0 (.agg #[.int .i64 0, .int .i64 0, .int .i64 0, .string ⟨#[]⟩]) 4 40 Tryz.underlying44 hi0 hz0 hz1 hz2 rfl (by decide) _ _ _ rfl (HOd.out _ HbB.out) ⟨wr.heap.size, 0, none⟩ 1 1 [.int .i64 x0, .int .i64 x1, .int .i64 x2, .string S] rfl rfl (new_cellsX _ _ _ _ rfl) (by simp [Value.oneCell']) (by unfold maxLen; omega) (by omega) (Nat.le_trans hbs HbB.out.size) ?_; intro v4 w4 hown4 hgrow4 _; rw [← HT1.out] at hown4; obtain ⟨b4, cb4, rfl⟩ := own_lenR hown4; have hb4 : Below w.heap.size w w4 := (hb.trans (HbB.out.mono hbs)).grown hgrow4 (Nat.le_trans hbs HbB.out.size) (fun k hk => (HO.out.lt k hk).1); have HO4 := Lib.hid hown4; clear hown4 hgrow4))
      all_goals go_wp2_with fail
      all_goals exact ⟨⟨i + 1, b4, cb4, by omega, by go_num, rfl, HO4, hb4⟩, by simp [intOf]; omega⟩
    · obtain rfl : i = n := by omega
      go_wp2_with fail
      go_ret2
      refine ⟨_, _, rfl, Lib.hid ?_, hb⟩
      have := HO.out
      rw [List.take_of_length_le (Nat.le_of_eq HDl.out)] at this
      exact nd_own this HDl.out


set_option maxRecDepth 50000 in
set_option maxHeartbeats 6400000 in
theorem rOf_bad (ta sa : Option Addr) (nt ns tc sc : Nat) (t : List Nd) (sp : List (Int × Int)) (w : World) (ht : NdsAt w (.slice ta nt tc) t) (hnt : t.length = nt) (hns : sp.length = ns) (KB : KidsB t) (hbad : (chkT symS t).2 ≠ 0 ∨ (chkT symS t).2 = 0 ∧ ns ≠ nt) :
    Calls Tryz.prog 27 #[.agg #[.slice ta nt tc, .slice sa ns sc]] w (ChgR (ofX t sp).1 (ofX t sp).1.length (ofX t sp).2 w) := by
  have hb0 := below_b1 w (.cells #[.slice ta nt tc, .slice sa ns sc] 47)
  have C := Lib.hid (RCheck_any symS (.slice ta nt tc) t _ (ht.below hb0 (Nat.le_refl _)) (Lib.hid (rsymAll _)) (Lib.hid KB))
  have hbx := World.alloc_heap_new w (.cells #[.slice ta nt tc, .slice sa ns sc] 47)
  have HBx : Hid (∀ W, Below (w.alloc (.cells #[.slice ta nt tc, .slice sa ns sc] 47)).heap.size (w.alloc (.cells #[.slice ta nt tc, .slice sa ns sc] 47)) W → W.cell? ⟨w.heap.size, 0, none⟩ = some (.slice ta nt tc) ∧ W.cell? ⟨w.heap.size, 1, none⟩ = some (.slice sa ns sc)) := Lib.hid fun W hW => by
    have h := (hW.block w.heap.size (by rw [World.size_alloc]; omega)).trans hbx
    exact ⟨by simp [World.cell?, h], by simp [World.cell?, h]⟩
  obtain ⟨b0, b1⟩ := HBx.out _ (Below.refl _ _)
  unfold chkTV at C
  rcases hbad with h | ⟨h, hne⟩
  · rw [ofX_1 h]
    obtain ⟨⟨z1, z⟩, hz⟩ : ∃ z, chkT symS t = z := ⟨_, rfl⟩
    rw [hz] at C h ⊢
    simp only at C h ⊢
    have q : (z != 0) = true := bne_iff_ne.2 h
    have q2 : (z == 0) = false := beq_eq_false_iff_ne.2 h
    clear ht hnt hns KB h hz hbx
    go_enter Tryz.func27, Tryz.ntmps27
    go_wp2_with fail
    refine C.out.mono ?_
    rintro e w1 ⟨rfl, hb1⟩
    go_wp2_with fail
    go_ret2
    exact chgR_nil (below_step hb0 hb1)
  · rw [ofX_2 h (by rw [hnt, hns]; exact hne)]
    obtain ⟨⟨z1, z⟩, hz⟩ : ∃ z, chkT symS t = z := ⟨_, rfl⟩
    rw [hz] at C h
    simp only at C h ⊢
    subst h
    have q : ((ns : Int) != (nt : Int)) = true := bne_iff_ne.2 (by omega)
    clear ht hnt hns KB hz hbx hne
    go_enter Tryz.func27, Tryz.ntmps27
    go_wp2_with fail
    refine C.out.mono ?_
    rintro e w1 ⟨rfl, hb1⟩
    obtain ⟨a0, a1⟩ := HBx.out w1 hb1
    clear b0 b1
    go_wp2_with fail
    go_ret2
    exact chgR_nil (below_step hb0 hb1)
set_option maxRecDepth 50000 in
set_option maxHeartbeats 12800000 in
theorem rOf_in (ta sa : Option Addr) (n tc sc : Nat) (t : List Nd) (sp : List (Int × Int)) (w : World) (ht : NdsAt w (.slice ta n tc) t) (hs : SpAt w (.slice sa n sc) sp) (hnt : t.length = n) (hns : sp.length = n) (KB : KidsB t) (h : (chkT symS t).2 = 0) (hn : n ≤ 400) :
    Calls Tryz.prog 27 #[.agg #[.slice ta n tc, .slice sa n sc]] w (ChgR (ofX t sp).1 (ofX t sp).1.length (ofX t sp).2 w) := by
  have hb0 := below_b1 w (.cells #[.slice ta n tc, .slice sa n sc] 47)
  have C := Lib.hid (RCheck_any symS (.slice ta n tc) t _ (ht.below hb0 (Nat.le_refl _)) (Lib.hid (rsymAll _)) (Lib.hid KB))
  have hbx := World.alloc_heap_new w (.cells #[.slice ta n tc, .slice sa n sc] 47)
  have HBx : Hid (∀ W, Below (w.alloc (.cells #[.slice ta n tc, .slice sa n sc] 47)).heap.size (w.alloc (.cells #[.slice ta n tc, .slice sa n sc] 47)) W → W.cell? ⟨w.heap.size, 0, none⟩ = some (.slice ta n tc) ∧ W.cell? ⟨w.heap.size, 1, none⟩ = some (.slice sa n sc)) := Lib.hid fun W hW => by
    have h := (hW.block w.heap.size (by rw [World.size_alloc]; omega)).trans hbx
    exact ⟨by simp [World.cell?, h], by simp [World.cell?, h]⟩
  obtain ⟨b0, b1⟩ := HBx.out _ (Below.refl _ _)
  unfold chkTV at C
  have HE := Lib.hid (fun (i : Nat) (s : Int × Int) (hi : sp[i]? = some s) (hs : isSpB s.1 s.2 = false) => ofX_3 h (by rw [hnt, hns]) hi hs)
  have HF := Lib.hid (fun ha => ofX_4 h (by rw [hnt, hns]) ha)
  obtain ⟨⟨z1, z⟩, hz⟩ : ∃ z, chkT symS t = z := ⟨_, rfl⟩
  rw [hz] at C h
  simp only at C h
  subst h
  obtain ⟨r, hr⟩ : ∃ r, ofX t sp = r := ⟨_, rfl⟩
  rw [hr] at HE HF ⊢
  have HT := Lib.hid (fun W (hW : Below w.heap.size w W) => ht.below hW (Nat.le_refl _))
  have HS := Lib.hid (fun W (hW : Below w.heap.size w W) => hs.below hW (Nat.le_refl _))
  have HLt := Lib.hid hnt
  have HLs := Lib.hid hns
  obtain ⟨d, hd⟩ : ∃ d, List.zipWith mkX t sp = d := ⟨_, rfl⟩
  have hdl : d.length = n := by rw [← hd, of_len (by rw [hnt, hns])]; exact hnt
  have HDl := Lib.hid hdl
  have HDA : Hid (∀ (i : Nat) (x : Nd) (s : Int × Int), t[i]? = some x → sp[i]? = some s → xcs (d.take (i + 1)) = xcs (d.take i) ++ [.int .i64 x.1, .int .i64 x.2.1, .int .i64 x.2.2.1, .string (str x.2.2.2), .string ⟨#[]⟩, .int .i64 s.1, .int .i64 s.2, .int .i64 0]) := Lib.hid fun i x s hx hs => by
    rw [List.take_add_one, ← hd, zip_at hx hs, xcs_app]; rfl
  rw [hd] at HF
  have q0 : ((n : Int) != (n : Int)) = false := by simp
  obtain ⟨i0, hi0, hz0, hz1, hz2⟩ := info_parts2 zeroSxI
  clear ht hs hnt hns KB hz hr hd hdl hbx
  go_enter Tryz.func27, Tryz.ntmps27
  go_wp2_with fail
  refine C.out.mono ?_
  rintro e w1 ⟨rfl, hb1⟩
  obtain ⟨a0, a1⟩ := HBx.out w1 hb1
  obtain ⟨w0, hw0⟩ : ∃ w0, w0 = w.alloc (.cells #[.slice ta n tc, .slice sa n sc] 47) := ⟨_, rfl⟩
  have hsz0 : w0.heap.size = w.heap.size + 1 := by rw [hw0, World.size_alloc]
  rw [← hw0] at hb0 HBx hb1
  rw [hsz0] at HBx hb1
  have HB0 : Hid (Below w.heap.size w w0) := Lib.hid hb0
  have HSz := Lib.hid hsz0
  have HB1 := Lib.hid hb1
  clear b0 b1 hw0 hsz0 hb0 hb1
  go_wp2_with fail
  go_loopw [6, 7] (fun x6 x7 wr => ∃ (i : Nat) (b : Option Addr) (c : Nat), i ≤ n ∧ x7 = .int .i64 (i : Int) ∧ x6 = .slice b i c ∧ Hid (wr.ownsRow (w.heap.size + 1) 28 8 (.slice b i c) i (xcs (d.take i))) ∧ Below (w.heap.size + 1) w0 wr ∧ Hid (∀ (j : Nat) (s : Int × Int), j < i → sp[j]? = some s → isSpB s.1 s.2 = true)) (fun _ x7 _ => n - (intOf x7).toNat)
  case atStart => exact ⟨0, none, 0, Nat.zero_le _, rfl, rfl, Lib.hid (by rw [List.take_zero]; exact own_nilX _ _ _ _), HB1.out, Lib.hid fun j s hj => absurd hj (Nat.not_lt_zero _)⟩
  case round =>
    obtain ⟨i, b, c, hin, rfl, rfl, HO, hb, HA⟩ := hrel
    have hB : Below w.heap.size w wr := HB0.out.trans (hb.mono (Nat.le_succ _))
    obtain ⟨e0, e1⟩ := HBx.out wr hb
    clear a0 a1
    by_cases hlt : i < n
    · obtain ⟨x, hx⟩ : ∃ x, t[i]? = some x := ⟨_, List.getElem?_eq_getElem (by rw [HLt.out]; exact hlt)⟩
      obtain ⟨s, hs⟩ : ∃ x, sp[i]? = some x := ⟨_, List.getElem?_eq_getElem (by rw [HLs.out]; exact hlt)⟩
      have HT1 := Lib.hid (HDA.out i x s hx hs)
      have HEi := Lib.hid (HE.out i s hs)
      have HA2 : Hid (isSpB s.1 s.2 = true → ∀ (j : Nat) (s' : Int × Int), j < i + 1 → sp[j]? = some s' → isSpB s'.1 s'.2 = true) := Lib.hid fun he j y hj hy => by
        by_cases hji : j < i
        · exact HA.out j y hji hy
        · obtain rfl : j = i := by omega
          rw [hs] at hy
          obtain rfl := Option.some.inj hy
          exact he
      obtain ⟨g, off, rfl, hg, c0, c1, c2, c3⟩ := (HT.out wr hB).node hx
      obtain ⟨g', off', rfl, hg', s0, s1⟩ := (HS.out wr hB).span hs
      have hsr : w.heap.size + 1 ≤ wr.heap.size := by have := hb.size; rw [HSz.out] at this; exact this
      have hwr : w.heap.size < wr.heap.size := by omega
      have hi0' : (0 : Int) ≤ (i : Int) := Int.natCast_nonneg _
      have hi9 : (i : Int) < (n : Int) := by omega
      obtain ⟨x0, x1, x2, x3⟩ := x
      obtain ⟨f, tt⟩ := s
      simp only at c0 c1 c2 c3 s0 s1 HT1 HEi HA2
      obtain ⟨S, hS⟩ : ∃ S, str x3 = S := ⟨_, rfl⟩
      rw [hS] at c3 HT1
      have hba := hb.alloc hsr (.cells #[.int .i64 f, .int .i64 tt] 26)
      obtain ⟨e2, e3⟩ := HBx.out _ hba
      obtain ⟨g1, o1, eo, _, c4, c5, c6, c7⟩ := (HT.out _ (HB0.out.trans (hba.mono (Nat.le_succ _)))).node hx
      cases eo
      simp only at c4 c5 c6 c7
      rw [hS] at c7
      have HV : Hid (isSpB f tt = (decide (0 ≤ f) && decide (f ≤ tt))) := Lib.hid rfl
      clear hx hs hS
      by_cases hf : f < 0
      · have d1 : decide (f < 0) = true := decide_eq_true hf
        have HW := Lib.hid (HEi.out (by rw [HV.out, decide_eq_false (show ¬ 0 ≤ f by omega)]; rfl))
        go_wp2_with fail
        go_ret2
        rw [HW.out]
        exact chgR_nil (hB.alloc hB.size _)
      · have d1 : decide (f < 0) = false := decide_eq_false hf
        by_cases hft : tt < f
        · have d2 : decide (tt < f) = true := decide_eq_true hft
          have HW := Lib.hid (HEi.out (by rw [HV.out, decide_eq_false (show ¬ f ≤ tt by omega), Bool.and_false]))
          go_wp2_with fail
          go_ret2
          rw [HW.out]
          exact chgR_nil (hB.alloc hB.size _)
        · have d2 : decide (tt < f) = false := decide_eq_false hft
          have HA3 := Lib.hid (HA2.out (by rw [HV.out, decide_eq_true (show 0 ≤ f by omega), decide_eq_true (show f ≤ tt by omega)]; rfl))
          have hbB := ((hb.alloc hsr (.cells #[.int .i64 f, .int .i64 tt] 26)).alloc (by rw [World.size_alloc]; omega) (.cells #[.int .i64 x0, .int .i64 x1, .int .i64 x2, .string S] 49)).alloc (by rw [World.size_alloc, World.size_alloc]; omega) (.cells #[.int .i64 x0, .int .i64 x1, .int .i64 x2, .string S, .string ⟨#[]⟩, .int .i64 f, .int .i64 tt, .int .i64 0] 28)
          have HbB := Lib.hid hbB
          clear hbB
          go_wp2_with (at_builtin; refine wpList_append_own _ rfl _ _ 22 rfl (w.heap.size + 1) 28 i0 zeroNx 8 80 Tryz.underlying22 hi0 hz0 hz1 hz2 rfl (by decide) _ _ _ rfl (((HO.out.alloc _).alloc _).alloc _) ⟨wr.heap.size + 1 + 1, 0, none⟩ 1 1 [.int .i64 x0, .int .i64 x1, .int .i64 x2, .string S, .string ⟨#[]⟩, .int .i64 f, .int .i64 tt, .int .i64 0] rfl rfl (new_cellsX _ _ _ _ (by rw [World.size_alloc, World.size_alloc])) (by simp [Value.oneCell']) (by unfold maxLen; omega) (by omega) (by rw [World.size_alloc, World.size_alloc, World.size_alloc]; omega) ?_; intro v4 w4 hown4 hgrow4 _; rw [← HT1.out] at hown4; obtain ⟨b4, cb4, rfl⟩ := own_lenR hown4; have hb4 : Below (w.heap.size + 1) w0 w4 := HbB.out.grown hgrow4 (by rw [World.size_alloc, World.size_alloc, World.size_alloc]; omega) (fun k hk => (HO.out.lt k hk).1); have HO4 := Lib.hid hown4; clear hown4 hgrow4)
          exact ⟨⟨i + 1, b4, cb4, by omega, by go_num, rfl, HO4, hb4, HA3⟩, by simp [intOf]; omega⟩
    · obtain rfl : i = n := by omega
      have hr := HF.out fun j s hs => HA.out j s (by have := (List.getElem?_eq_some_iff.1 hs).1; rw [HLs.out] at this; exact this) hs
      go_wp2_with fail
      go_ret2
      rw [hr]
      simp only
      rw [HDl.out]
      refine ⟨_, _, rfl, Lib.hid ?_, hB⟩
      have := HO.out
      rw [List.take_of_length_le (Nat.le_of_eq HDl.out)] at this
      exact xs_own this HDl.out
theorem rOf_any (vt vs : Value) (t : List Nd) (sp : List (Int × Int)) (w : World) (ht : NdsAt w vt t) (hs : SpAt w vs sp) (KB : KidsB t) :
    Calls Tryz.prog 27 #[.agg #[vt, vs]] w (ChgR (ofX t sp).1 (ofX t sp).1.length (ofX t sp).2 w) := by
  obtain ⟨ta, tc, rfl⟩ := ht.lens
  obtain ⟨sa, sc, rfl⟩ := hs.slice
  by_cases h : (chkT symS t).2 = 0
  · by_cases hl : sp.length = t.length
    · have hn : t.length ≤ 400 := by
        have h' := h
        unfold chkT chkD at h'
        by_cases h1 : t = []
        · rw [if_pos h1] at h'; cases h'
        · by_cases h2 : 400 < t.length
          · rw [if_neg h1, if_pos h2] at h'; cases h'
          · omega
      rw [hl] at hs ⊢
      exact rOf_in ta sa t.length tc sc t sp w ht hs rfl hl KB h hn
    · exact rOf_bad ta sa _ _ tc sc t sp w ht rfl rfl KB (.inr ⟨h, hl⟩)
  · exact rOf_bad ta sa _ _ tc sc t sp w ht rfl rfl KB (.inl h)


set_option maxRecDepth 50000 in
set_option maxHeartbeats 1600000 in
theorem same4_x (v v' : Value) (l : List Nd) (w : World) (h : NdsAt w v l) (h' : NdsAt w v' l) (hl : l.length ≤ 1000000) :
    Calls Tryz.prog 30 #[v, v'] w fun e w' => e = .returned (.bool true) ∧ Below w.heap.size w w' := by
  obtain ⟨a, c, hv⟩ := h.lens
  obtain ⟨a', c', hv'⟩ := h'.lens
  obtain ⟨n, hn⟩ : ∃ n, l.length = n := ⟨_, rfl⟩
  rw [hn] at hv hv'
  subst hv hv'
  have H := Lib.hid h
  have H' := Lib.hid h'
  have HN := Lib.hid hn
  have hnb : n ≤ 1000000 := by omega
  have hne : (((n : Int)) != (n : Int)) = false := by simp
  clear h h' hn hl
  go_enter Tryz.func30, Tryz.ntmps30
  go_wp2
  go_loopw [5] (fun i wr => ∃ k : Nat, k ≤ n ∧ i = .int .i64 k ∧ Below w.heap.size w wr) (fun i _ => n - (intOf i).toNat)
  case atStart => exact ⟨0, Nat.zero_le _, rfl, Below.refl _ _⟩
  case round =>
    obtain ⟨k, hk, rfl, hB⟩ := hrel
    by_cases hlt : k < n
    · obtain ⟨s, hs⟩ : ∃ s, l[k]? = some s := ⟨_, List.getElem?_eq_getElem (by rw [HN.out]; exact hlt)⟩
      rcases H.out.below hB (Nat.le_refl _) with ⟨_, _, _, hnil⟩ | ⟨g, off, cc, hv, hg, hcl⟩
      · rw [hnil] at hs; simp at hs
      · rcases H'.out.below hB (Nat.le_refl _) with ⟨_, _, _, hnil⟩ | ⟨g', off', cc', hv', hg', hcl'⟩
        · rw [hnil] at hs; simp at hs
        · obtain ⟨rfl, hv2, rfl⟩ := Value.slice.inj hv
          obtain ⟨rfl, hv3, rfl⟩ := Value.slice.inj hv'
          obtain ⟨p0, p1, p2, p3⟩ := dcs_at l hs
          have d0 := hcl _ _ p0
          have d1 := hcl _ _ p1
          have d2 := hcl _ _ p2
          have d3 := hcl _ _ p3
          have e0 := hcl' _ _ p0
          have e1 := hcl' _ _ p1
          have e2 := hcl' _ _ p2
          have e3 := hcl' _ _ p3
          have hkm : (k : Int) < (n : Int) := by omega
          have hk0 : (0 : Int) ≤ (k : Int) := Int.natCast_nonneg _
          obtain ⟨x0, x1, x2, x3⟩ := s
          obtain ⟨z, hz⟩ : ∃ z, str x3 = z := ⟨_, rfl⟩
          simp only [hz, ← Nat.add_assoc] at d0 d1 d2 d3 e0 e1 e2 e3
          clear hcl hcl' hv hv' hv2 hv3 hs p0 p1 p2 p3 hz
          go_wp2
          go_quiet (fail)
          go_wp2
          exact ⟨⟨k + 1, by omega, by go_num, ⟨hB.os, hB.tape, hB.output, hB.size, hB.block⟩⟩, by simp [intOf]; omega⟩
    · obtain rfl : k = n := by omega
      go_wp2
      go_ret
      exact ⟨rfl, hB⟩

set_option maxRecDepth 50000 in
set_option maxHeartbeats 1600000 in
theorem same3_x (v v' : Value) (l : List (Int × Int)) (w : World) (h : SpAt w v l) (h' : SpAt w v' l) (hl : l.length ≤ 1000000) :
    Calls Tryz.prog 33 #[v, v'] w fun e w' => e = .returned (.bool true) ∧ Below w.heap.size w w' := by
  obtain ⟨a, c, hv⟩ := h.slice
  obtain ⟨a', c', hv'⟩ := h'.slice
  obtain ⟨n, hn⟩ : ∃ n, l.length = n := ⟨_, rfl⟩
  rw [hn] at hv hv'
  subst hv hv'
  have H := Lib.hid h
  have H' := Lib.hid h'
  have HN := Lib.hid hn
  have hnb : n ≤ 1000000 := by omega
  have hne : (((n : Int)) != (n : Int)) = false := by simp
  clear h h' hn hl
  go_enter Tryz.func33, Tryz.ntmps33
  go_wp2
  go_loopw [5] (fun i wr => ∃ k : Nat, k ≤ n ∧ i = .int .i64 k ∧ Below w.heap.size w wr) (fun i _ => n - (intOf i).toNat)
  case atStart => exact ⟨0, Nat.zero_le _, rfl, Below.refl _ _⟩
  case round =>
    obtain ⟨k, hk, rfl, hB⟩ := hrel
    by_cases hlt : k < n
    · obtain ⟨s, hs⟩ : ∃ s, l[k]? = some s := ⟨_, List.getElem?_eq_getElem (by rw [HN.out]; exact hlt)⟩
      obtain ⟨g, off, rfl, _, d0, d1⟩ := (H.out.below hB (Nat.le_refl _)).span hs
      obtain ⟨g', off', rfl, _, e0, e1⟩ := (H'.out.below hB (Nat.le_refl _)).span hs
      have hkm : (k : Int) < (n : Int) := by omega
      have hk0 : (0 : Int) ≤ (k : Int) := Int.natCast_nonneg _
      obtain ⟨x0, x1⟩ := s
      simp only at d0 d1 e0 e1
      clear hs
      go_wp2
      go_quiet (fail)
      go_wp2
      exact ⟨⟨k + 1, by omega, by go_num, ⟨hB.os, hB.tape, hB.output, hB.size, hB.block⟩⟩, by simp [intOf]; omega⟩
    · obtain rfl : k = n := by omega
      go_wp2
      go_ret
      exact ⟨rfl, hB⟩


end Go.Proofs.YtbmgpenllpbioaaGreatDoor
