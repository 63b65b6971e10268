/- The order of data: mathematics. -/
import Derived.Test.YtkngkajojcmmlaaDoorDcmp
import Derived.Test.YtkngkajojcmmlaaDoorDround
namespace Go.Proofs.YtkngkajojcmmlaaDoor

/-- What three comparisons have to do with each other: x of a and b, z of b and c, w of a and c. -/
def Tri (x z w : Int) : Prop := (x ≤ 0 → z ≤ 0 → w ≤ 0) ∧ (x ≤ 0 → z ≤ 0 → x + z < 0 → w < 0) ∧ (0 ≤ x → 0 ≤ z → 0 ≤ w) ∧ (0 ≤ x → 0 ≤ z → 0 < x + z → 0 < w)
theorem tri_0 : Tri 0 0 0 := by unfold Tri; omega
theorem tri_lex {x z w x' z' w' : Int} (h : Tri x z w) (h' : Tri x' z' w') : Tri (if x ≠ 0 then x else x') (if z ≠ 0 then z else z') (if w ≠ 0 then w else w') := by
  unfold Tri at *
  split <;> split <;> split <;> omega
theorem sgn_tri (a b c : Int) : Tri (sgn a b) (sgn b c) (sgn a c) := by
  unfold Tri sgn
  repeat' split
  all_goals omega
theorem sgn_flip (a b : Int) : sgn b a = - sgn a b := by
  unfold sgn
  repeat' split
  all_goals omega
theorem sgn_bd (a b : Int) : -1 ≤ sgn a b ∧ sgn a b ≤ 1 := by
  unfold sgn
  repeat' split
  all_goals omega
theorem sgn_0 {a b : Int} : sgn a b = 0 ↔ a = b := by
  unfold sgn
  repeat' split
  all_goals omega

/-- Lists, compared element by element. -/
def cmpL (c : Nat → Nat → Int) : List Nat → List Nat → Int
  | [], [] => 0
  | [], _ :: _ => -1
  | _ :: _, [] => 1
  | x :: l, y :: m => if c x y ≠ 0 then c x y else cmpL c l m
theorem cmpL_tri {c1 c2 c3 : Nat → Nat → Int} (h : ∀ i j k, Tri (c1 i j) (c2 j k) (c3 i k)) : ∀ l m n : List Nat, Tri (cmpL c1 l m) (cmpL c2 m n) (cmpL c3 l n) := by
  intro l
  induction l with
  | nil =>
    intro m n
    cases m <;> cases n <;> unfold Tri <;> simp only [cmpL] <;> (try split) <;> omega
  | cons x l ih =>
    intro m n
    cases m with
    | nil => cases n <;> unfold Tri <;> simp only [cmpL] <;> (try split) <;> omega
    | cons y m =>
      cases n with
      | nil => unfold Tri; simp only [cmpL]; split <;> omega
      | cons z n => simp only [cmpL]; exact tri_lex (h x y z) (ih m n)
theorem cmpL_flip {c1 c2 : Nat → Nat → Int} (h : ∀ i j, c2 j i = - c1 i j) : ∀ l m : List Nat, cmpL c2 m l = - cmpL c1 l m := by
  intro l
  induction l with
  | nil => intro m; cases m <;> simp [cmpL]
  | cons x l ih =>
    intro m
    cases m with
    | nil => simp [cmpL]
    | cons y m =>
      simp only [cmpL]
      rw [h x y, ih m]
      split <;> split <;> omega
theorem cmpL_bd {c : Nat → Nat → Int} (h : ∀ i j, -1 ≤ c i j ∧ c i j ≤ 1) : ∀ l m : List Nat, -1 ≤ cmpL c l m ∧ cmpL c l m ≤ 1 := by
  intro l
  induction l with
  | nil => intro m; cases m <;> simp [cmpL]
  | cons x l ih =>
    intro m
    cases m with
    | nil => simp [cmpL]
    | cons y m =>
      simp only [cmpL]
      split
      · exact h x y
      · exact ih m
theorem cmpL_refl {c : Nat → Nat → Int} (h : ∀ i, c i i = 0) : ∀ l : List Nat, cmpL c l l = 0 := by
  intro l
  induction l with
  | nil => rfl
  | cons x l ih => simp only [cmpL]; rw [h x, if_neg (by simp), ih]
theorem cmpL_0 {c : Nat → Nat → Int} : ∀ {l m : List Nat}, cmpL c l m = 0 → l.length = m.length ∧ ∀ (k x y : Nat), l[k]? = some x → m[k]? = some y → c x y = 0 := by
  intro l
  induction l with
  | nil =>
    intro m h
    cases m with
    | nil => exact ⟨rfl, fun k x y h => by simp at h⟩
    | cons y m => cases h
  | cons x l ih =>
    intro m h
    cases m with
    | nil => cases h
    | cons y m =>
      simp only [cmpL] at h
      split at h
      · rename_i hc; exact absurd h hc
      · rename_i hc
        obtain ⟨h1, h2⟩ := ih h
        refine ⟨by simp [h1], fun k x' y' hx hy => ?_⟩
        cases k with
        | zero => simp at hx hy; subst hx; subst hy; exact Decidable.not_not.1 hc
        | succ k => exact h2 k x' y' (by simpa using hx) (by simpa using hy)
/-- How far lists are alike. -/
theorem cmpL_at {c : Nat → Nat → Int} {l m : List Nat} {x y : Nat} {k : Nat} (hx : l[k]? = some x) (hy : m[k]? = some y) : cmpL c (l.drop k) (m.drop k) = if c x y ≠ 0 then c x y else cmpL c (l.drop (k + 1)) (m.drop (k + 1)) := by
  obtain ⟨h1, rfl⟩ := List.getElem?_eq_some_iff.1 hx
  obtain ⟨h2, rfl⟩ := List.getElem?_eq_some_iff.1 hy
  rw [List.drop_eq_getElem_cons h1, List.drop_eq_getElem_cons h2, cmpL]
theorem cmpL_end {c : Nat → Nat → Int} {l m : List Nat} {k : Nat} (h : l.length ≤ k ∨ m.length ≤ k) (h1 : k ≤ l.length) (h2 : k ≤ m.length) : cmpL c (l.drop k) (m.drop k) = sgn l.length m.length := by
  have e : ∀ r : List Nat, k < r.length → ∃ y s, r.drop k = y :: s := fun r hr => ⟨_, _, List.drop_eq_getElem_cons hr⟩
  by_cases ha : k < l.length
  · obtain ⟨y, s, hy⟩ := e l ha
    rw [hy, List.drop_of_length_le (by omega)]
    simp only [cmpL, sgn]
    rw [if_neg (by omega), if_pos (by omega)]
  · rw [List.drop_of_length_le (l := l) (by omega)]
    by_cases hb : k < m.length
    · obtain ⟨y, s, hy⟩ := e m hb
      rw [hy]
      simp only [cmpL, sgn]
      rw [if_pos (by omega)]
    · rw [List.drop_of_length_le (by omega)]
      simp only [cmpL, sgn]
      rw [if_neg (by omega), if_neg (by omega)]

/-- Strings, compared byte by byte. -/
def strS : List UInt8 → List UInt8 → Int
  | [], [] => 0
  | [], _ :: _ => -1
  | _ :: _, [] => 1
  | x :: l, y :: m => if sgn (x.toNat : Int) (y.toNat : Int) ≠ 0 then sgn (x.toNat : Int) (y.toNat : Int) else strS l m
theorem strS_tri : ∀ l m n : List UInt8, Tri (strS l m) (strS m n) (strS l n) := by
  intro l
  induction l with
  | nil =>
    intro m n
    cases m <;> cases n <;> unfold Tri <;> simp only [strS] <;> (try split) <;> omega
  | cons x l ih =>
    intro m n
    cases m with
    | nil => cases n <;> unfold Tri <;> simp only [strS] <;> (try split) <;> omega
    | cons y m =>
      cases n with
      | nil => unfold Tri; simp only [strS]; split <;> omega
      | cons z n => simp only [strS]; exact tri_lex (sgn_tri _ _ _) (ih m n)
theorem strS_flip : ∀ l m : List UInt8, strS m l = - strS l m := by
  intro l
  induction l with
  | nil => intro m; cases m <;> simp [strS]
  | cons x l ih =>
    intro m
    cases m with
    | nil => simp [strS]
    | cons y m =>
      simp only [strS]
      rw [sgn_flip, ih m]
      split <;> split <;> omega
theorem strS_bd : ∀ l m : List UInt8, -1 ≤ strS l m ∧ strS l m ≤ 1 := by
  intro l
  induction l with
  | nil => intro m; cases m <;> simp [strS]
  | cons x l ih =>
    intro m
    cases m with
    | nil => simp [strS]
    | cons y m =>
      simp only [strS]
      split
      · exact sgn_bd _ _
      · exact ih m
theorem strS_refl : ∀ l : List UInt8, strS l l = 0 := by
  intro l
  induction l with
  | nil => rfl
  | cons x l ih => simp only [strS]; rw [sgn_0.2 rfl, if_neg (by simp), ih]
theorem strS_0 : ∀ {l m : List UInt8}, strS l m = 0 → l = m := by
  intro l
  induction l with
  | nil => intro m h; cases m with | nil => rfl | cons y m => cases h
  | cons x l ih =>
    intro m h
    cases m with
    | nil => cases h
    | cons y m =>
      simp only [strS] at h
      split at h
      · rename_i hc; exact absurd h hc
      · rename_i hc
        have h1 := sgn_0.1 (Decidable.not_not.1 hc)
        rw [ih h, UInt8.toNat_inj.1 (Int.ofNat_inj.1 h1)]
theorem strS_cons (x y : UInt8) (l m : List UInt8) : strS (x :: l) (y :: m) = if sgn (x.toNat : Int) (y.toNat : Int) ≠ 0 then sgn (x.toNat : Int) (y.toNat : Int) else strS l m := rfl
theorem strS_less : ∀ l m : List UInt8, Op.bytesLess l m = decide (strS l m < 0) := by
  intro l
  induction l with
  | nil => intro m; cases m <;> simp [strS, Op.bytesLess]
  | cons x l ih =>
    intro m
    cases m with
    | nil => simp [strS, Op.bytesLess]
    | cons y m =>
      by_cases h1 : x < y
      · have h2 : x.toNat < y.toNat := UInt8.lt_iff_toNat_lt.1 h1
        have h3 : sgn (x.toNat : Int) (y.toNat : Int) = -1 := by unfold sgn; rw [if_pos (by omega)]
        have e : strS (x :: l) (y :: m) = -1 := by rw [strS_cons, h3]; rfl
        rw [e, Op.bytesLess]; simp [h1]
      · have h2 : ¬ x.toNat < y.toNat := fun h => h1 (UInt8.lt_iff_toNat_lt.2 h)
        by_cases h4 : x = y
        · subst h4
          have e : strS (x :: l) (x :: m) = strS l m := by rw [strS_cons, sgn_0.2 rfl]; rfl
          rw [e, Op.bytesLess, ih m]; simp [h1]
        · have h5 : y.toNat < x.toNat := by
            have : x.toNat ≠ y.toNat := fun e => h4 (UInt8.toNat_inj.1 e)
            omega
          have h3 : sgn (x.toNat : Int) (y.toNat : Int) = 1 := by unfold sgn; rw [if_neg (by omega), if_pos (by omega)]
          have e : strS (x :: l) (y :: m) = 1 := by rw [strS_cons, h3]; rfl
          rw [e, Op.bytesLess]; simp [h1, h4]

/-- Nodes, but for their children. -/
def ndS (x y : Nd) : Int := orS [sgn x.1 y.1, sgn x.2.2.1 y.2.2.1, strS x.2.2.2 y.2.2.2]
theorem ndS_eq (x y : Nd) : ndS x y = if sgn x.1 y.1 ≠ 0 then sgn x.1 y.1 else if sgn x.2.2.1 y.2.2.1 ≠ 0 then sgn x.2.2.1 y.2.2.1 else if strS x.2.2.2 y.2.2.2 ≠ 0 then strS x.2.2.2 y.2.2.2 else 0 := rfl
theorem ndS_tri (x y z : Nd) : Tri (ndS x y) (ndS y z) (ndS x z) := by
  rw [ndS_eq, ndS_eq, ndS_eq]
  exact tri_lex (sgn_tri _ _ _) (tri_lex (sgn_tri _ _ _) (tri_lex (strS_tri _ _ _) tri_0))
theorem ndS_flip (x y : Nd) : ndS y x = - ndS x y := by
  rw [ndS_eq, ndS_eq, sgn_flip x.1, sgn_flip x.2.2.1, strS_flip x.2.2.2]
  repeat' split
  all_goals omega
theorem ndS_bd (x y : Nd) : -1 ≤ ndS x y ∧ ndS x y ≤ 1 := by
  have h1 := sgn_bd x.1 y.1
  have h2 := sgn_bd x.2.2.1 y.2.2.1
  have h3 := strS_bd x.2.2.2 y.2.2.2
  rw [ndS_eq]
  repeat' split
  all_goals omega
theorem ndS_refl (x : Nd) : ndS x x = 0 := by rw [ndS_eq, sgn_0.2 rfl, sgn_0.2 rfl, strS_refl]; rfl
theorem ndS_0 {x y : Nd} (h : ndS x y = 0) : x.1 = y.1 ∧ x.2.2.1 = y.2.2.1 ∧ x.2.2.2 = y.2.2.2 := by
  rw [ndS_eq] at h
  split at h
  · rename_i h1; exact absurd h h1
  · rename_i h1
    split at h
    · rename_i h2; exact absurd h h2
    · rename_i h2
      split at h
      · rename_i h3; exact absurd h h3
      · rename_i h3
        exact ⟨sgn_0.1 (Decidable.not_not.1 h1), sgn_0.1 (Decidable.not_not.1 h2), strS_0 (Decidable.not_not.1 h3)⟩

def ndAt (t : List Nd) (i : Nat) : Nd := t.getD i (0, 0, 0, [])
theorem ndAt_of {t : List Nd} {i : Nat} {x : Nd} (h : t[i]? = some x) : ndAt t i = x := by unfold ndAt; rw [List.getD_eq_getElem?_getD, h]; rfl
/-- The subtrees of i in a and of j in b, compared. -/
def ordF (a b : List Nd) : Nat → Nat → Nat → Int
  | 0, _, _ => 0
  | f + 1, i, j => if ndS (ndAt a i) (ndAt b j) ≠ 0 then ndS (ndAt a i) (ndAt b j) else cmpL (ordF a b f) (kidsN (kidsL a) i) (kidsN (kidsL b) j)
theorem ordF_tri (a b c : List Nd) : ∀ f i j k, Tri (ordF a b f i j) (ordF b c f j k) (ordF a c f i k) := by
  intro f
  induction f with
  | zero => intro i j k; exact tri_0
  | succ f ih => intro i j k; exact tri_lex (ndS_tri _ _ _) (cmpL_tri ih _ _ _)
theorem ordF_flip (a b : List Nd) : ∀ f i j, ordF b a f j i = - ordF a b f i j := by
  intro f
  induction f with
  | zero => intro i j; rfl
  | succ f ih =>
    intro i j
    simp only [ordF]
    rw [ndS_flip, cmpL_flip ih]
    split <;> split <;> omega
theorem ordF_bd (a b : List Nd) : ∀ f i j, -1 ≤ ordF a b f i j ∧ ordF a b f i j ≤ 1 := by
  intro f
  induction f with
  | zero => intro i j; simp [ordF]
  | succ f ih =>
    intro i j
    simp only [ordF]
    split
    · exact ndS_bd _ _
    · exact cmpL_bd ih _ _
theorem ordF_refl (a : List Nd) : ∀ f i, ordF a a f i i = 0 := by
  intro f
  induction f with
  | zero => intro i; rfl
  | succ f ih => intro i; simp only [ordF]; rw [ndS_refl, if_neg (by simp), cmpL_refl ih]
/-- A subtree is its node, and those of its children. -/
theorem subS_cons {t : List Nd} (hT : Tr (kidsL t)) {i : Nat} {x : Nd} (hx : t[i]? = some x) : subS t i = x :: ((kidsN (kidsL t) i).map (subS t)).flatten := by
  obtain ⟨hi, hxe⟩ := List.getElem?_eq_some_iff.1 hx
  have hil : i < (kidsL t).length := by rw [kidsL_len]; exact hi
  obtain ⟨e1, e2⟩ := hT.end_bd hil
  have h1 : (kidsN (kidsL t) i).map (subS t) = partsN t i (cnt (kidsL t) i) := by unfold kidsN partsN; rw [List.map_map]; rfl
  rw [h1, partsN_flat hT hi _ (Nat.le_refl _), hT.pos_end hil]
  unfold subS
  have hgi : (t.take (endN (kidsL t) i))[i]? = some x := by rw [List.getElem?_take, if_pos e1, hx]
  obtain ⟨hil2, hxe2⟩ := List.getElem?_eq_some_iff.1 hgi
  rw [List.drop_eq_getElem_cons hil2, hxe2]
/-- What is alike has the same nodes. -/
theorem ordF_0 {a b : List Nd} (ha : Tr (kidsL a)) (hb : Tr (kidsL b)) (ka : ∀ x ∈ a, 0 ≤ x.2.1) (kb : ∀ x ∈ b, 0 ≤ x.2.1) : ∀ f i j, a.length - i < f → i < a.length → j < b.length → ordF a b f i j = 0 → subS a i = subS b j := by
  intro f
  induction f with
  | zero => intro i j h; omega
  | succ f ih =>
    intro i j hf hi hj h
    obtain ⟨x, hx⟩ : ∃ x, a[i]? = some x := ⟨_, List.getElem?_eq_getElem hi⟩
    obtain ⟨y, hy⟩ : ∃ y, b[j]? = some y := ⟨_, List.getElem?_eq_getElem hj⟩
    have hil : i < (kidsL a).length := by rw [kidsL_len]; exact hi
    have hjl : j < (kidsL b).length := by rw [kidsL_len]; exact hj
    simp only [ordF] at h
    rw [ndAt_of hx, ndAt_of hy] at h
    split at h
    · rename_i h1; exact absurd h h1
    · rename_i h1
      obtain ⟨n1, n2, n3⟩ := ndS_0 (Decidable.not_not.1 h1)
      obtain ⟨l1, l2⟩ := cmpL_0 h
      rw [kidsN_len, kidsN_len] at l1
      have hcx : cnt (kidsL a) i = x.2.1.toNat := cnt_of (by unfold kidsL; rw [List.getElem?_map, hx]; rfl)
      have hcy : cnt (kidsL b) j = y.2.1.toNat := cnt_of (by unfold kidsL; rw [List.getElem?_map, hy]; rfl)
      have gx := ka x (List.mem_of_getElem? hx)
      have gy := kb y (List.mem_of_getElem? hy)
      have hxy : x = y := by
        obtain ⟨x0, x1, x2, x3⟩ := x
        obtain ⟨y0, y1, y2, y3⟩ := y
        simp only at n1 n2 n3 gx gy hcx hcy
        rw [n1, n2, n3, show x1 = y1 by omega]
      rw [subS_cons ha hx, subS_cons hb hy, hxy]
      congr 2
      apply List.ext_getElem?
      intro k
      by_cases hk : k < cnt (kidsL a) i
      · obtain ⟨p1, p2, p3⟩ := ha.pos_step hil hk
        obtain ⟨q1, q2, q3⟩ := hb.pos_step hjl (k := k) (by omega)
        rw [kidsL_len] at p2 q2
        have e1 := kidsN_at hk
        have e2 := kidsN_at (ks := kidsL b) (i := j) (k := k) (by omega)
        rw [List.getElem?_map, List.getElem?_map, e1, e2, Option.map_some, Option.map_some, ih _ _ (by omega) p2 q2 (l2 k _ _ e1 e2)]
      · rw [List.getElem?_eq_none (by rw [List.length_map, kidsN_len]; omega), List.getElem?_eq_none (by rw [List.length_map, kidsN_len]; omega)]
/-- Two data, compared. -/
def ordT (a b : List Nd) : Int := ordF a b 401 0 0
theorem subS_0 {t : List Nd} (hT : Tr (kidsL t)) : subS t 0 = t := by unfold subS; rw [hT.end_0, kidsL_len, List.take_length, List.drop_zero]
theorem ordT_0 {sy : List UInt8 → Bool} {a b : List Nd} (ha : (chkT sy a).2 = 0) (hb : (chkT sy b).2 = 0) : ordT a b = 0 ↔ a = b := by
  obtain ⟨a1, a2, a3, _⟩ := chkT_ok ha
  obtain ⟨b1, b2, b3, _⟩ := chkT_ok hb
  constructor
  · intro h
    have := ordF_0 a1 b1 (chkT_kids ha) (chkT_kids hb) 401 0 0 (by omega) (List.length_pos_iff.2 a2) (List.length_pos_iff.2 b2) h
    rwa [subS_0 a1, subS_0 b1] at this
  · rintro rfl; exact ordF_refl a 401 0
end Go.Proofs.YtkngkajojcmmlaaDoor
