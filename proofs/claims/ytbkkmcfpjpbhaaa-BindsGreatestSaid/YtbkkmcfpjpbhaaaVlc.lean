/- What a name means, whatever the order of the table (mathematics). -/
import Derived.Test.YtbkkmcfpjpbhaaaVz
namespace Go.Proofs.Ytbkkmcfpjpbhaaa
open Go.RowKit Go.PlainAid

theorem smB_ofV {T : List Bd} (h : ∀ x ∈ T, x.n.length ≤ 150 ∧ x.s.length ≤ 150) : SmB T := fun x hx => by have := h x hx; omega
/-- x is what n with s means. -/
structure IsTop (T : List Bd) (n s : List UInt8) (x : Bd) : Prop where
  mem : x ∈ T
  nm : x.n = n
  su : subB x.s s = true
  top : ∀ y ∈ T, y.n = n → subB y.s s = true → subB y.s x.s = true
theorem res_is {T : List Bd} {n s : List UInt8} {i : Nat} (h : resB T n s = (i, 0)) : ∃ x, T[i]? = some x ∧ IsTop T n s x := by
  rcases res_cases (T := T) n s with ⟨j, e, hj, ht⟩ | ⟨e, _⟩ | ⟨e, _⟩
  · rw [e] at h
    obtain ⟨rfl, _⟩ := Prod.mk.inj h
    obtain ⟨x, hx, hn, hs⟩ := mem_cand.1 hj
    refine ⟨x, hx, List.mem_of_getElem? hx, hn, hs, fun y hy hyn hys => ?_⟩
    obtain ⟨k, hk⟩ := List.mem_iff_getElem?.1 hy
    unfold topB at ht
    rw [List.all_eq_true] at ht
    have := ht k (mem_cand.2 ⟨y, hk, hyn, hys⟩)
    unfold relB at this
    rw [setAt_at hk, setAt_at hx] at this; exact this
  · rw [e] at h; cases (Prod.mk.inj h).2
  · rw [e] at h; cases (Prod.mk.inj h).2
theorem res_has {T : List Bd} {n s : List UInt8} (ho : OkB T) {i : Nat} {x : Bd} (hi : T[i]? = some x) (h : IsTop T n s x) : resB T n s = (i, 0) := by
  refine res_at ho (mem_cand.2 ⟨x, hi, h.nm, h.su⟩) ?_
  unfold topB
  rw [List.all_eq_true]
  intro k hk
  obtain ⟨y, hy, hyn, hys⟩ := mem_cand.1 hk
  unfold relB
  rw [setAt_at hy, setAt_at hi]
  exact h.top y (List.mem_of_getElem? hy) hyn hys
theorem IsTop.same {T U : List Bd} {n s : List UInt8} {x : Bd} (h : IsTop T n s x) (he : ∀ y, y.n = n → (y ∈ T ↔ y ∈ U)) : IsTop U n s x :=
  ⟨(he x h.nm).1 h.mem, h.nm, h.su, fun y hy hn hs => h.top y ((he y hn).2 hy) hn hs⟩
theorem ok_same {T : List Bd} (ho : OkB T) {x y : Bd} (hx : x ∈ T) (hy : y ∈ T) (hn : x.n = y.n) (hs : x.s = y.s) : x = y := by
  obtain ⟨i, hi⟩ := List.mem_iff_getElem?.1 hx
  obtain ⟨j, hj⟩ := List.mem_iff_getElem?.1 hy
  have := ho.apart i j x y hi hj hn hs
  rw [this, hj] at hi; exact (Option.some.inj hi).symm
theorem IsTop.uniq {T : List Bd} {n s : List UInt8} {x y : Bd} (ho : OkB T) (hx : IsTop T n s x) (hy : IsTop T n s y) : x = y :=
  ok_same ho hx.mem hy.mem (hx.nm.trans hy.nm.symm) (subB_anti (hy.top x hx.mem hx.nm hx.su) (hx.top y hy.mem hy.nm hy.su))
theorem res_10 {T : List Bd} {n s : List UInt8} : (resB T n s).2 = 10 ↔ ∀ y ∈ T, y.n = n → subB y.s s = false := by
  have hc : candB T n s = [] ↔ ∀ y ∈ T, y.n = n → subB y.s s = false := by
    rw [List.eq_nil_iff_forall_not_mem]
    constructor
    · intro h y hy hn
      obtain ⟨k, hk⟩ := List.mem_iff_getElem?.1 hy
      exact Bool.eq_false_iff.2 fun hs => h k (mem_cand.2 ⟨y, hk, hn, hs⟩)
    · intro h k hk
      obtain ⟨y, hy, hn, hs⟩ := mem_cand.1 hk
      rw [h y (List.mem_of_getElem? hy) hn] at hs; cases hs
  rw [← hc]
  rcases res_cases (T := T) n s with ⟨i, e, hi, _⟩ | ⟨e, h⟩ | ⟨e, h, _⟩ <;> rw [e]
  · exact ⟨fun h => (by cases h), fun h => (by rw [h] at hi; cases hi)⟩
  · exact ⟨fun _ => h, fun _ => rfl⟩
  · exact ⟨fun h => (by cases h), fun h2 => absurd h2 h⟩
/-- Two tables with the same bindings of this name mean the same. -/
theorem res_same {T U : List Bd} {n s : List UInt8} (hT : OkB T) (hU : OkB U) (he : ∀ y, y.n = n → (y ∈ T ↔ y ∈ U)) :
    (resB U n s).2 = (resB T n s).2 ∧ ∀ i k, resB T n s = (i, 0) → resB U n s = (k, 0) → ∃ x, T[i]? = some x ∧ U[k]? = some x := by
  have he' : ∀ y, y.n = n → (y ∈ U ↔ y ∈ T) := fun y hy => (he y hy).symm
  constructor
  · rcases res_cases (T := T) n s with ⟨i, e, _⟩ | ⟨e, _⟩ | ⟨e, _⟩
    · obtain ⟨x, _, hx⟩ := res_is e
      have hx2 := hx.same he
      obtain ⟨k, hk⟩ := List.mem_iff_getElem?.1 hx2.mem
      rw [res_has hU hk hx2, e]
    · have h1 : ∀ y ∈ T, y.n = n → subB y.s s = false := res_10.1 (by rw [e])
      have h2 : (resB U n s).2 = 10 := res_10.2 fun y hy hn => h1 y ((he y hn).2 hy) hn
      rw [h2, e]
    · rcases res_cases (T := U) n s with ⟨k, e2, _⟩ | ⟨e2, _⟩ | ⟨e2, _⟩
      · obtain ⟨x, _, hx⟩ := res_is e2
        have hx2 := hx.same he'
        obtain ⟨i, hi⟩ := List.mem_iff_getElem?.1 hx2.mem
        rw [res_has hT hi hx2] at e
        cases (Prod.mk.inj e).2
      · have h1 : ∀ y ∈ U, y.n = n → subB y.s s = false := res_10.1 (by rw [e2])
        have h2 : (resB T n s).2 = 10 := res_10.2 fun y hy hn => h1 y ((he y hn).1 hy) hn
        rw [e] at h2; cases h2
      · rw [e2, e]
  · intro i k e1 e2
    obtain ⟨x, hx, tx⟩ := res_is e1
    obtain ⟨y, hy, ty⟩ := res_is e2
    have := IsTop.uniq hT tx (ty.same he')
    rw [← this] at hy
    exact ⟨x, hx, hy⟩
theorem ok_pair {T : List Bd} : (∀ (i j : Nat) (x y : Bd), T[i]? = some x → T[j]? = some y → x.n = y.n → x.s = y.s → i = j) ↔ T.Pairwise fun x y => ¬ (x.n = y.n ∧ x.s = y.s) := by
  rw [List.pairwise_iff_getElem]
  constructor
  · intro h i j hi hj hij he
    have := h i j _ _ (List.getElem?_eq_getElem hi) (List.getElem?_eq_getElem hj) he.1 he.2
    omega
  · intro h i j x y hx hy hn hs
    obtain ⟨hi, rfl⟩ := List.getElem?_eq_some_iff.1 hx
    obtain ⟨hj, rfl⟩ := List.getElem?_eq_some_iff.1 hy
    rcases Nat.lt_trichotomy i j with hlt | heq | hgt
    · exact absurd ⟨hn, hs⟩ (h i j hi hj hlt)
    · exact heq
    · exact absurd ⟨hn.symm, hs.symm⟩ (h j i hj hi hgt)
def fewB (T : List Bd) (n : List UInt8) : List Bd := T.filter fun x => decide (x.n = n)
theorem ok_few {T : List Bd} (h : OkB T) (n : List UInt8) : OkB (fewB T n) :=
  ⟨Nat.le_trans (List.length_filter_le ..) h.few, fun x hx => h.one x (List.mem_filter.1 hx).1, ok_pair.2 (List.Pairwise.filter _ (ok_pair.1 h.apart))⟩
theorem ok_rev {T : List Bd} (h : OkB T) : OkB T.reverse :=
  ⟨by rw [List.length_reverse]; exact h.few, fun x hx => h.one x (List.mem_reverse.1 hx), ok_pair.2 (List.pairwise_reverse.2 (List.Pairwise.imp (fun h e => h ⟨e.1.symm, e.2.symm⟩) (ok_pair.1 h.apart)))⟩
theorem mem_few {T : List Bd} {n : List UInt8} : ∀ y : Bd, y.n = n → (y ∈ T ↔ y ∈ fewB T n) := fun y hy => by
  unfold fewB; rw [List.mem_filter]; simp [hy]
theorem mem_rev {T : List Bd} {n : List UInt8} : ∀ y : Bd, y.n = n → (y ∈ T ↔ y ∈ T.reverse) := fun y _ => by rw [List.mem_reverse]
/-- A binding with just this set is what the name means. -/
theorem res_added {T : List Bd} {n s : List UInt8} {p r : Int} (h : OkB (T ++ [⟨n, s, p, r⟩])) (hs : chkE s = 0) : resB (T ++ [⟨n, s, p, r⟩]) n s = (T.length, 0) := by
  refine res_has h (x := ⟨n, s, p, r⟩) (by simp) ⟨by simp, rfl, subB_refl hs, fun y _ _ hy => hy⟩
theorem few_take {T : List Bd} {n : List UInt8} {k : Nat} {x : Bd} (h : T[k]? = some x) : fewB (T.take (k + 1)) n = fewB (T.take k) n ++ if x.n = n then [x] else [] := by
  unfold fewB
  rw [List.take_add_one, h, List.filter_append]
  congr 1
  by_cases e : x.n = n <;> simp [e]
theorem rev_take {T : List Bd} {k : Nat} {x : Bd} (h : T[k]? = some x) : (T.take (k + 1)).reverse = x :: (T.take k).reverse := by
  rw [List.take_add_one, h, List.reverse_append]; rfl
-- MARK9
end Go.Proofs.Ytbkkmcfpjpbhaaa
