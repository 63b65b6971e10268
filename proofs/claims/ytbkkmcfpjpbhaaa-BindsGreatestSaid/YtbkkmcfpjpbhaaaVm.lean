/- Tables of bindings: what Check, Candidates, Resolve, Same and Of say of them (mathematics). -/
import Derived.Test.YtbkkmcfpjpbhaaaSq
import Derived.Test.YtbkkmcfpjpbhaaaDigits
namespace Go.Proofs.Ytbkkmcfpjpbhaaa

/-- A binding: its name, its scopes, what it means, and the number of this. -/
structure Bd where
  n : List UInt8
  s : List UInt8
  p : Int
  r : Int
theorem Bd.eq_iff (x y : Bd) : (x.n = y.n ∧ x.s = y.s ∧ x.p = y.p ∧ x.r = y.r) ↔ x = y := by
  constructor
  · intro h
    obtain ⟨a1, a2, a3, a4⟩ := x
    obtain ⟨b1, b2, b3, b4⟩ := y
    simp only at h
    obtain ⟨rfl, rfl, rfl, rfl⟩ := h
    rfl
  · intro h; rw [h]; exact ⟨rfl, rfl, rfl, rfl⟩
instance : DecidableEq Bd := fun x y => decidable_of_iff _ (Bd.eq_iff x y)
instance : Inhabited Bd := ⟨⟨[], [], 0, 0⟩⟩
def bdC (x : Bd) : List Value := [.string (str x.n), .string (str x.s), .int .i64 x.p, .int .i64 x.r]
def bdA (x : Bd) : Value := .agg (bdC x).toArray
def bcs (l : List Bd) : List Value := l.flatMap bdC
theorem bcs_cons (x : Bd) (l : List Bd) : bcs (x :: l) = .string (str x.n) :: .string (str x.s) :: .int .i64 x.p :: .int .i64 x.r :: bcs l := rfl
theorem bcs_app (a b : List Bd) : bcs (a ++ b) = bcs a ++ bcs b := List.flatMap_append
theorem bcs_one (x : Bd) : bcs [x] = bdC x := by unfold bcs; rw [List.flatMap_cons, List.flatMap_nil, List.append_nil]
theorem bcs_len (l : List Bd) : (bcs l).length = l.length * 4 := by
  induction l with
  | nil => rfl
  | cons x l ih => rw [bcs_cons]; simp only [List.length_cons, ih]; omega
theorem bcs_at (l : List Bd) : ∀ {k : Nat} {x : Bd}, l[k]? = some x → ∀ (j : Nat) (u : Value), (bdC x)[j]? = some u → (bcs l)[k * 4 + j]? = some u := by
  induction l with
  | nil => intro k x h; simp at h
  | cons y l ih =>
    intro k x h j u hj
    rw [bcs_cons]
    cases k with
    | zero =>
      obtain rfl := Option.some.inj h
      have hlt : j < 4 := (List.getElem?_eq_some_iff.1 hj).1
      rw [Nat.zero_mul, Nat.zero_add]
      match j, hlt with
      | 0, _ => exact hj
      | 1, _ => exact hj
      | 2, _ => exact hj
      | 3, _ => exact hj
    | succ k =>
      rw [show (k + 1) * 4 + j = k * 4 + j + 1 + 1 + 1 + 1 by omega]
      simp only [List.getElem?_cons_succ]
      exact ih (by simpa using h) j u hj

/-- The error of a binding, as far as no other one matters. -/
def oneB (x : Bd) : Int := if x.n = [] then 6 else if 24 < x.n.length then 3 else if chkE x.s ≠ 0 then chkE x.s else if x.p < 1 ∨ 4 < x.p ∨ x.r < 0 then 7 else 0
def dupB (T : List Bd) (i : Nat) (x : Bd) : Prop := ∃ y ∈ T.take i, y.n = x.n ∧ y.s = x.s
instance (T : List Bd) (i : Nat) (x : Bd) : Decidable (dupB T i x) := by unfold dupB; infer_instance
def errB (T : List Bd) (i : Nat) (x : Bd) : Int := if oneB x ≠ 0 then oneB x else if dupB T i x then 8 else 0
def wrgB (T : List Bd) (i : Nat) : Bool := match T[i]? with | some x => decide (errB T i x ≠ 0) | none => false
/-- What Check returns. -/
def chkB (T : List Bd) : Int × Int := if 1000 < T.length then (-1, 3) else match (List.range T.length).find? (wrgB T) with | some i => ((i : Int), errB T i (T[i]?.getD default)) | none => (0, 0)
theorem chkB_long {T : List Bd} (h : 1000 < T.length) : chkB T = (-1, 3) := by unfold chkB; rw [if_pos h]
theorem wrgB_at {T : List Bd} {i : Nat} {x : Bd} (h : T[i]? = some x) : wrgB T i = decide (errB T i x ≠ 0) := by unfold wrgB; rw [h]
theorem chkB_bad {T : List Bd} {k : Nat} {x : Bd} (hl : T.length ≤ 1000) (hk : T[k]? = some x) (hx : errB T k x ≠ 0) (h : ∀ j, j < k → wrgB T j = false) : chkB T = ((k : Int), errB T k x) := by
  have hf : (List.range T.length).find? (wrgB T) = some k := by
    rw [List.find?_range_eq_some]
    refine ⟨by rw [wrgB_at hk]; exact decide_eq_true hx, List.mem_range.2 (List.getElem?_eq_some_iff.1 hk).1, fun j hj => ?_⟩
    rw [h j hj]; rfl
  unfold chkB; rw [if_neg (by omega), hf]; simp only; rw [hk]; rfl
theorem chkB_good {T : List Bd} (hl : T.length ≤ 1000) (h : ∀ j, j < T.length → wrgB T j = false) : chkB T = (0, 0) := by
  have hf : (List.range T.length).find? (wrgB T) = none := by
    rw [List.find?_eq_none]
    intro j hj; rw [h j (List.mem_range.1 hj)]; simp
  unfold chkB; rw [if_neg (by omega), hf]
/-- What a table is. -/
structure OkB (T : List Bd) : Prop where
  few : T.length ≤ 1000
  one : ∀ x ∈ T, oneB x = 0
  apart : ∀ (i j : Nat) (x y : Bd), T[i]? = some x → T[j]? = some y → x.n = y.n → x.s = y.s → i = j
theorem oneB_3 (x : Bd) : oneB x = 0 ∨ oneB x = 6 ∨ oneB x = 3 ∨ oneB x = 7 := by
  unfold oneB
  rcases chkE_3 x.s with h | h | h <;> rw [h] <;> (repeat' split) <;> simp_all
theorem errB_ne {T : List Bd} {i : Nat} {x : Bd} (h : errB T i x = 0) : oneB x = 0 ∧ ¬ dupB T i x := by
  unfold errB at h
  by_cases h1 : oneB x = 0
  · rw [if_neg (by simpa using h1)] at h
    refine ⟨h1, fun h2 => ?_⟩
    rw [if_pos h2] at h; cases h
  · rw [if_pos h1] at h; exact absurd h h1
theorem errB_ok {T : List Bd} {i : Nat} {x : Bd} (h1 : oneB x = 0) (h2 : ¬ dupB T i x) : errB T i x = 0 := by
  unfold errB; rw [if_neg (by simpa using h1), if_neg h2]
theorem errB_one {T : List Bd} {i : Nat} {x : Bd} (h1 : oneB x ≠ 0) : errB T i x = oneB x := by unfold errB; rw [if_pos h1]
theorem errB_dup {T : List Bd} {i : Nat} {x : Bd} (h1 : oneB x = 0) (h2 : dupB T i x) : errB T i x = 8 := by
  unfold errB; rw [if_neg (by simpa using h1), if_pos h2]
theorem ok_all {T : List Bd} (hl : T.length ≤ 1000) (h : ∀ j, j < T.length → wrgB T j = false) : OkB T := by
  have he : ∀ (i : Nat) (x : Bd), T[i]? = some x → errB T i x = 0 := fun i x hx => by
    have := h i (List.getElem?_eq_some_iff.1 hx).1
    rw [wrgB_at hx] at this
    have := of_decide_eq_false this
    exact Classical.not_not.1 this
  have hap : ∀ (i j : Nat) (x y : Bd), T[i]? = some x → T[j]? = some y → x.n = y.n → x.s = y.s → ¬ i < j := by
    intro i j x y hx hy hn hs hij
    refine (errB_ne (he j y hy)).2 ⟨x, ?_, hn, hs⟩
    rw [List.mem_iff_getElem?]
    exact ⟨i, by rw [List.getElem?_take_of_lt hij]; exact hx⟩
  refine ⟨hl, fun x hx => ?_, fun i j x y hx hy hn hs => ?_⟩
  · obtain ⟨i, hi⟩ := List.mem_iff_getElem?.1 hx
    exact (errB_ne (he i x hi)).1
  · have h1 := hap i j x y hx hy hn hs
    have h2 := hap j i y x hy hx hn.symm hs.symm
    omega
theorem ok_bad {T : List Bd} (h : OkB T) : ∀ j, j < T.length → wrgB T j = false := by
  intro j hj
  have hx : T[j]? = some T[j] := List.getElem?_eq_getElem hj
  rw [wrgB_at hx]
  refine decide_eq_false (fun h2 => h2 (errB_ok (h.one _ (List.getElem_mem hj)) ?_))
  rintro ⟨y, hy, hn, hs⟩
  obtain ⟨i, hi⟩ := List.mem_iff_getElem?.1 hy
  have hij : i < j := by
    have := (List.getElem?_eq_some_iff.1 hi).1
    rw [List.length_take] at this; omega
  rw [List.getElem?_take_of_lt hij] at hi
  have := h.apart i j y _ hi hx hn hs
  omega
theorem chk_ok {T : List Bd} (h : OkB T) : chkB T = (0, 0) := chkB_good h.few (ok_bad h)
theorem chk_not {T : List Bd} (h : ¬ OkB T) : (chkB T).2 ≠ 0 := by
  by_cases hl : 1000 < T.length
  · rw [chkB_long hl]; decide
  · by_cases hb : ∀ j, j < T.length → wrgB T j = false
    · exact absurd (ok_all (by omega) hb) h
    · intro h2
      apply hb
      intro j hj
      cases hf : (List.range T.length).find? (wrgB T) with
      | none =>
        rw [List.find?_eq_none] at hf
        have := hf j (List.mem_range.2 hj)
        simpa using this
      | some i =>
        rw [List.find?_range_eq_some] at hf
        obtain ⟨h3, h4, h6⟩ := hf
        have h7 := List.mem_range.1 h4
        have hx : T[i]? = some T[i] := List.getElem?_eq_getElem h7
        exfalso
        have h5 : chkB T = ((i : Int), errB T i (T[i]?.getD default)) := by
          unfold chkB; rw [if_neg hl]
          have hf2 : (List.range T.length).find? (wrgB T) = some i := by
            rw [List.find?_range_eq_some]; exact ⟨h3, h4, h6⟩
          rw [hf2]
        rw [h5, hx] at h2
        rw [wrgB_at hx] at h3
        exact of_decide_eq_true h3 h2
theorem chk_iff (T : List Bd) : (chkB T).2 = 0 ↔ OkB T := ⟨fun h => Classical.byContradiction fun h2 => chk_not h2 h, fun h => by rw [chk_ok h]⟩
theorem OkB.set {T : List Bd} (h : OkB T) {x : Bd} (hx : x ∈ T) : chkE x.s = 0 := by
  have := h.one x hx
  unfold oneB at this
  split at this
  · cases this
  · split at this
    · cases this
    · split at this
      · exact this
      · rename_i h3; exact Classical.not_not.1 h3
/-- What a binding of a table is. -/
theorem oneB_ok {x : Bd} (h : oneB x = 0) : x.n ≠ [] ∧ x.n.length ≤ 24 ∧ chkE x.s = 0 ∧ 1 ≤ x.p ∧ x.p ≤ 4 ∧ 0 ≤ x.r := by
  unfold oneB at h
  split at h
  · cases h
  · rename_i h1
    split at h
    · cases h
    · rename_i h2
      split at h
      · rename_i h3; exact absurd h h3
      · rename_i h3
        split at h
        · cases h
        · rename_i h4
          exact ⟨h1, by omega, Classical.not_not.1 h3, by omega, by omega, by omega⟩
theorem oneB_of {x : Bd} (h1 : x.n ≠ []) (h2 : x.n.length ≤ 24) (h3 : chkE x.s = 0) (h4 : 1 ≤ x.p) (h5 : x.p ≤ 4) (h6 : 0 ≤ x.r) : oneB x = 0 := by
  unfold oneB; rw [if_neg h1, if_neg (by omega), if_neg (by simpa using h3), if_neg (by omega)]
end Go.Proofs.Ytbkkmcfpjpbhaaa
