/- Syntax: nodes, Check as a function (mathematics). -/
import Derived.Test.YtdiinlmeoifgjaaGreatDoorZw
namespace Go.Proofs.YtdiinlmeoifgjaaGreatDoor

/-- A node of syntax: kind, children, number, string, scopes, span, origin. -/
structure Sx where
  k : Int
  c : Int
  n : Int
  s : List UInt8
  p : List UInt8
  f : Int
  t : Int
  o : Int
theorem Sx.eq_iff (x y : Sx) : (x.k = y.k ∧ x.c = y.c ∧ x.n = y.n ∧ x.s = y.s ∧ x.p = y.p ∧ x.f = y.f ∧ x.t = y.t ∧ x.o = y.o) ↔ x = y := by
  constructor
  · intro h
    obtain ⟨a1, a2, a3, a4, a5, a6, a7, a8⟩ := x
    obtain ⟨b1, b2, b3, b4, b5, b6, b7, b8⟩ := y
    simp only at h
    obtain ⟨rfl, rfl, rfl, rfl, rfl, rfl, rfl, rfl⟩ := h
    rfl
  · intro h; rw [h]; exact ⟨rfl, rfl, rfl, rfl, rfl, rfl, rfl, rfl⟩
instance : DecidableEq Sx := fun x y => decidable_of_iff _ (Sx.eq_iff x y)
def sxC (x : Sx) : List Value := [.int .i64 x.k, .int .i64 x.c, .int .i64 x.n, .string (str x.s), .string (str x.p), .int .i64 x.f, .int .i64 x.t, .int .i64 x.o]
def sxA (x : Sx) : Value := .agg (sxC x).toArray
def xcs (l : List Sx) : List Value := l.flatMap sxC
theorem xcs_cons (x : Sx) (l : List Sx) : xcs (x :: l) = .int .i64 x.k :: .int .i64 x.c :: .int .i64 x.n :: .string (str x.s) :: .string (str x.p) :: .int .i64 x.f :: .int .i64 x.t :: .int .i64 x.o :: xcs l := rfl
theorem xcs_app (a b : List Sx) : xcs (a ++ b) = xcs a ++ xcs b := List.flatMap_append
theorem xcs_one (x : Sx) : xcs [x] = sxC x := by unfold xcs; rw [List.flatMap_cons, List.flatMap_nil, List.append_nil]
theorem xcs_len (l : List Sx) : (xcs l).length = l.length * 8 := by
  induction l with
  | nil => rfl
  | cons x l ih => rw [xcs_cons]; simp only [List.length_cons, ih]; omega
theorem xcs_at (l : List Sx) : ∀ {k : Nat} {x : Sx}, l[k]? = some x → ∀ (j : Nat) (u : Value), (sxC x)[j]? = some u → (xcs l)[k * 8 + j]? = some u := by
  induction l with
  | nil => intro k x h; simp at h
  | cons y l ih =>
    intro k x h j u hj
    have hlen : (sxC y).length = 8 := rfl
    show ((sxC y) ++ xcs l)[k * 8 + j]? = some u
    cases k with
    | zero =>
      simp at h; subst h
      have hj8 : j < 8 := by have := (List.getElem?_eq_some_iff.1 hj).1; simpa [hlen] using this
      rw [List.getElem?_append_left (by rw [hlen]; omega), Nat.zero_mul, Nat.zero_add]; exact hj
    | succ k =>
      rw [List.getElem?_append_right (by rw [hlen]; omega), hlen, show (k + 1) * 8 + j - 8 = k * 8 + j by omega]
      exact ih (by simpa using h) j u hj
theorem one_sxC (x : Sx) : ∀ u ∈ sxC x, u.oneCell' = true := by
  intro u hu; unfold sxC at hu; simp at hu; rcases hu with rfl | rfl | rfl | rfl | rfl | rfl | rfl | rfl <;> rfl
theorem one_xcs (l : List Sx) : ∀ u ∈ xcs l, u.oneCell' = true := by
  intro u hu; unfold xcs at hu; rw [List.mem_flatMap] at hu; obtain ⟨x, _, h⟩ := hu; exact one_sxC x u h
theorem sxA_inj {x y : Sx} (h : sxC x = sxC y) : x = y := by
  obtain ⟨a1, a2, a3, a4, a5, a6, a7, a8⟩ := x
  obtain ⟨b1, b2, b3, b4, b5, b6, b7, b8⟩ := y
  unfold sxC at h
  simp only [List.cons.injEq, Value.int.injEq, Value.string.injEq, true_and, and_true] at h
  obtain ⟨rfl, rfl, rfl, h4, h5, rfl, rfl, rfl⟩ := h
  have e4 : a4 = b4 := congrArg (fun s : ByteArray => s.data.toList) h4
  have e5 : a5 = b5 := congrArg (fun s : ByteArray => s.data.toList) h5
  rw [e4, e5]

/-- A node has its kind, and nothing that the kind does not have. -/
def kindX (x : Sx) : Bool :=
  if x.k = 1 ∨ x.k = 2 then decide (x.c = 0) && decide (x.s = [])
  else if x.k = 3 then decide (x.c = 0) && decide (x.n = 0)
  else if x.k = 4 then decide (0 ≤ x.c) && decide (x.n = 0) && decide (x.s = [])
  else false
def isSpB (f t : Int) : Bool := decide (0 ≤ f) && decide (f ≤ t)
def fldX (x : Sx) : Int :=
  if x.k = 2 ∧ x.n ≠ 0 ∧ x.n ≠ 1 then 7
  else if x.k = 3 ∧ symS x.s = false then 6
  else if chkE x.p ≠ 0 then chkE x.p
  else if isSpB x.f x.t = false then 6
  else if x.o < 0 then 7 else 0
/-- The error of a node at a depth. -/
def errX (x : Sx) (d : Int) : Int := if kindX x = false then 6 else if 200 < d then 3 else fldX x
theorem kindX_c {x : Sx} (h : kindX x = true) : 0 ≤ x.c := by
  unfold kindX at h
  split at h
  · simp only [Bool.and_eq_true, decide_eq_true_eq] at h; omega
  · split at h
    · simp only [Bool.and_eq_true, decide_eq_true_eq] at h; omega
    · split at h
      · simp only [Bool.and_eq_true, decide_eq_true_eq] at h; omega
      · cases h
theorem errX_c {x : Sx} {d : Int} (h : errX x d = 0) : 0 ≤ x.c := by
  unfold errX at h
  by_cases hk : kindX x = false
  · rw [if_pos hk] at h; cases h
  · exact kindX_c (by simpa using hk)
/-- What Check returns of the nodes from i on, where the stack st says what is missing (its top first). -/
def chkG : List Nat → Nat → List Sx → Int × Int
  | st, i, [] => if st = [] then (0, 0) else ((i : Int), 6)
  | st, i, x :: t => if st = [] then ((i : Int), 6) else if errX x ((st.length : Int) - 1) ≠ 0 then ((i : Int), errX x ((st.length : Int) - 1)) else chkG (pushN x.c.toNat st) (i + 1) t
def chkX (t : List Sx) : Int × Int := if t = [] then (0, 6) else if 2000 < t.length then (0, 3) else chkG [1] 0 t
def kidsX (t : List Sx) : List Nat := t.map fun x => x.c.toNat
theorem kidsX_len (t : List Sx) : (kidsX t).length = t.length := List.length_map ..
theorem kidsX_app (a b : List Sx) : kidsX (a ++ b) = kidsX a ++ kidsX b := List.map_append
theorem kidsX_take (t : List Sx) (n : Nat) : kidsX (t.take n) = (kidsX t).take n := List.map_take
theorem kidsX_drop (t : List Sx) (n : Nat) : kidsX (t.drop n) = (kidsX t).drop n := List.map_drop
theorem kidsX_at {t : List Sx} {k : Nat} {x : Sx} (h : t[k]? = some x) : (kidsX t)[k]? = some x.c.toNat := by unfold kidsX; rw [List.getElem?_map, h]; rfl
/-- How far Check has come: k nodes are good, and the stack is st. -/
def CkSt (t : List Sx) (k : Nat) (st : List Nat) : Prop := chkG [1] 0 t = chkG st k (t.drop k)
theorem ckSt_start (t : List Sx) : CkSt t 0 [1] := by unfold CkSt; rw [List.drop_zero]
theorem ckSt_step {t : List Sx} {k : Nat} {st : List Nat} {x : Sx} (h : CkSt t k st) (hx : t[k]? = some x) (hst : st ≠ []) (hE : errX x ((st.length : Int) - 1) = 0) : CkSt t (k + 1) (pushN x.c.toNat st) := by
  unfold CkSt at *
  have hk := (List.getElem?_eq_some_iff.1 hx)
  rw [h, List.drop_eq_getElem_cons hk.1, hk.2, chkG, if_neg hst, if_neg (by rw [hE]; simp)]
theorem ckSt_over {t : List Sx} {k : Nat} {x : Sx} (h : CkSt t k []) (hx : t[k]? = some x) : chkG [1] 0 t = ((k : Int), 6) := by
  unfold CkSt at h
  have hk := (List.getElem?_eq_some_iff.1 hx)
  rw [h, List.drop_eq_getElem_cons hk.1, hk.2, chkG, if_pos rfl]
theorem ckSt_bad {t : List Sx} {k : Nat} {st : List Nat} {x : Sx} (h : CkSt t k st) (hx : t[k]? = some x) (hst : st ≠ []) (hE : errX x ((st.length : Int) - 1) ≠ 0) : chkG [1] 0 t = ((k : Int), errX x ((st.length : Int) - 1)) := by
  unfold CkSt at h
  have hk := (List.getElem?_eq_some_iff.1 hx)
  rw [h, List.drop_eq_getElem_cons hk.1, hk.2, chkG, if_neg hst, if_pos hE]
theorem ckSt_end {t : List Sx} {k : Nat} {st : List Nat} (h : CkSt t k st) (hk : t.length ≤ k) : chkG [1] 0 t = if st = [] then (0, 0) else ((k : Int), 6) := by
  unfold CkSt at h
  rw [h, List.drop_of_length_le hk, chkG]
theorem chkG_stack : ∀ (t : List Sx) (st : List Nat) (i : Nat), (chkG st i t).2 = 0 → stackN st (kidsX t) = some [] := by
  intro t
  induction t with
  | nil =>
    intro st i h
    rw [chkG] at h
    split at h
    · rename_i hs; rw [hs]; rfl
    · cases h
  | cons x t ih =>
    intro st i h
    rw [chkG] at h
    split at h
    · cases h
    · rename_i hs
      split at h
      · rename_i hE; exact absurd h hE
      · show stackN st (x.c.toNat :: kidsX t) = some []
        rw [stackN, if_neg hs]
        exact ih _ _ h
theorem chkX_one {t : List Sx} (h : (chkX t).2 = 0) : chkX t = chkG [1] 0 t ∧ t ≠ [] ∧ t.length ≤ 2000 := by
  unfold chkX at *
  by_cases h1 : t = []
  · rw [if_pos h1] at h; cases h
  · by_cases h2 : 2000 < t.length
    · rw [if_neg h1, if_pos h2] at h; cases h
    · rw [if_neg h1, if_neg h2]; exact ⟨rfl, h1, by omega⟩
theorem chkX_tree {t : List Sx} (h : (chkX t).2 = 0) : eat (kidsX t) 1 = some [] ∧ t ≠ [] ∧ t.length ≤ 2000 := by
  obtain ⟨h1, h2, h3⟩ := chkX_one h
  rw [h1] at h
  exact ⟨(stack_eat (kidsX t) [1] (by intro a ha; cases ha; decide)).1 (chkG_stack t [1] 0 h), h2, h3⟩
/-- A node that is good, unless it is too deep. -/
def okX (x : Sx) : Prop := kindX x = true ∧ fldX x = 0
theorem okX_of {x : Sx} {d : Int} (h : errX x d = 0) : okX x := by
  unfold errX at h
  unfold okX
  by_cases hk : kindX x = false
  · rw [if_pos hk] at h; cases h
  · rw [if_neg hk] at h
    split at h
    · cases h
    · exact ⟨by simpa using hk, h⟩
theorem okX_err {x : Sx} (h : okX x) (d : Int) : errX x d = 0 ∨ errX x d = 3 := by
  unfold errX
  rw [h.1, if_neg (by simp)]
  split
  · exact .inr rfl
  · exact .inl h.2
theorem chkG_ok : ∀ (t : List Sx) (st : List Nat) (i : Nat), (chkG st i t).2 = 0 → chkG st i t = (0, 0) ∧ ∀ x ∈ t, okX x := by
  intro t
  induction t with
  | nil =>
    intro st i h
    rw [chkG] at h ⊢
    split at h
    · rename_i hs; rw [if_pos hs]; exact ⟨rfl, fun x hx => by cases hx⟩
    · cases h
  | cons y t ih =>
    intro st i h
    rw [chkG] at h ⊢
    split at h
    · cases h
    · rename_i hs
      rw [if_neg hs]
      split at h
      · rename_i hE; exact absurd h hE
      · rename_i hE
        rw [if_neg hE]
        refine ⟨(ih _ _ h).1, fun x hx => ?_⟩
        rcases List.mem_cons.1 hx with e | e
        · rw [e]; exact okX_of (Decidable.not_not.1 hE)
        · exact (ih _ _ h).2 x e
theorem chkX_ok {t : List Sx} (h : (chkX t).2 = 0) : chkX t = (0, 0) ∧ ∀ x ∈ t, okX x := by
  obtain ⟨h1, _, _⟩ := chkX_one h
  rw [h1] at h ⊢
  exact chkG_ok t [1] 0 h
theorem chkX_kids {t : List Sx} (h : (chkX t).2 = 0) : ∀ x ∈ t, 0 ≤ x.c := fun x hx => kindX_c ((chkX_ok h).2 x hx).1
/-- The error of a list of trees: that of the first which has one. -/
def allX : List (List Sx) → Int
  | [] => 0
  | t :: r => if (chkX t).2 ≠ 0 then (chkX t).2 else allX r
theorem allX_one (t : List Sx) : allX [t] = (chkX t).2 := by
  unfold allX; by_cases h : (chkX t).2 = 0
  · rw [if_neg (by simpa using h), h]; rfl
  · rw [if_pos h]

/-- The lists that the next node is in, their last one first, as the program has them. -/
def decT : List Nat → List Nat
  | [] => []
  | a :: r => (a - 1) :: r
def cntA (k : Nat) (a : List Nat) : List Nat := if k = 0 then popZ (decT a) else k :: decT a
/-- The stack of Check and the program's lists. -/
def stOf (i : Nat) (a : List Nat) : List Nat := if i = 0 then [1] else if a = [] then [] else a ++ [0]
theorem popZ_nz {k : Nat} (h : k ≠ 0) (r : List Nat) : popZ (k :: r) = k :: r := by unfold popZ; rw [List.dropWhile_cons, if_neg (by simpa using h)]
theorem popZ_0 (r : List Nat) : popZ (0 :: r) = popZ r := by unfold popZ; rw [List.dropWhile_cons]; simp
theorem popZ_drop : ∀ l : List Nat, ∃ j, j ≤ l.length ∧ popZ l = l.drop j ∧ (∀ p, p < j → l[p]? = some 0) ∧ (∀ x, l[j]? = some x → x ≠ 0) := by
  intro l
  induction l with
  | nil => exact ⟨0, Nat.le_refl _, rfl, fun p h => by omega, fun x h => by simp at h⟩
  | cons a r ih =>
    by_cases h : a = 0
    · subst h
      obtain ⟨j, h1, h2, h3, h4⟩ := ih
      refine ⟨j + 1, by rw [List.length_cons]; omega, by rw [popZ_0, h2]; rfl, fun p hp => ?_, fun x hx => h4 x (by simpa using hx)⟩
      cases p with
      | zero => rfl
      | succ p => simpa using h3 p (by omega)
    · exact ⟨0, Nat.zero_le _, by rw [popZ_nz h]; rfl, fun p h => by omega, fun x hx => by simp at hx; omega⟩
theorem popZ_app0 : ∀ r : List Nat, popZ (r ++ [0]) = if popZ r = [] then [] else popZ r ++ [0] := by
  intro r
  induction r with
  | nil => rfl
  | cons a r ih =>
    by_cases h : a = 0
    · subst h; rw [List.cons_append, popZ_0, popZ_0]; exact ih
    · rw [List.cons_append, popZ_nz h, popZ_nz h, if_neg (by simp)]; rfl
theorem cnt_st {k i : Nat} {a : List Nat} (h : i = 0 ∧ a = [] ∨ 0 < i ∧ a ≠ []) : pushN k (stOf i a) = stOf (i + 1) (cntA k a) := by
  unfold stOf cntA
  rw [if_neg (by omega : ¬ i + 1 = 0)]
  rcases h with ⟨rfl, rfl⟩ | ⟨h1, h2⟩
  · rw [if_pos rfl]
    show popZ [k, 0] = _
    by_cases hk : k = 0
    · subst hk; rfl
    · rw [if_neg hk, popZ_nz hk]; rfl
  · rw [if_neg (by omega), if_neg h2]
    cases a with
    | nil => exact absurd rfl h2
    | cons q r =>
      show popZ (k :: (q - 1) :: (r ++ [0])) = _
      by_cases hk : k = 0
      · subst hk
        rw [if_pos rfl, popZ_0]
        show popZ (((q - 1) :: r) ++ [0]) = _
        rw [popZ_app0]; rfl
      · rw [if_neg hk, popZ_nz hk]; rfl
theorem stOf_len {i : Nat} {a : List Nat} (h : i = 0 ∧ a = [] ∨ 0 < i ∧ a ≠ []) : ((stOf i a).length : Int) - 1 = (a.length : Int) := by
  unfold stOf
  rcases h with ⟨rfl, rfl⟩ | ⟨h1, h2⟩
  · rfl
  · rw [if_neg (by omega), if_neg h2, List.length_append]; simp
theorem stOf_nil {i : Nat} {a : List Nat} : stOf i a = [] ↔ 0 < i ∧ a = [] := by
  unfold stOf
  by_cases h : i = 0
  · rw [if_pos h]; simp; omega
  · rw [if_neg h]
    by_cases h2 : a = []
    · rw [if_pos h2]; simp [h2]; omega
    · rw [if_neg h2]; simp [h2]
theorem decT_len (a : List Nat) : (decT a).length = a.length := by cases a <;> rfl
theorem cntA_len (k : Nat) (a : List Nat) : (cntA k a).length ≤ a.length + 1 := by
  unfold cntA; split
  · have := (List.dropWhile_suffix (l := decT a) (p := fun x => x == 0)).length_le
    have h2 := decT_len a
    show (popZ (decT a)).length ≤ _
    unfold popZ; omega
  · rw [List.length_cons, decT_len]; exact Nat.le_refl _
theorem cntA_top {k : Nat} {a : List Nat} : topN (cntA k a) := by
  unfold cntA; split
  · exact popZ_top _
  · rename_i h; intro b hb; cases hb; exact h
end Go.Proofs.YtdiinlmeoifgjaaGreatDoor
