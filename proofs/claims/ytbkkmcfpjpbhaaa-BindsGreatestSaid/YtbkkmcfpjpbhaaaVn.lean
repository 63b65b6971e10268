/- Candidates and the greatest one (mathematics). -/
import Derived.Test.YtbkkmcfpjpbhaaaVm
namespace Go.Proofs.Ytbkkmcfpjpbhaaa

/-- Is a set a subset of another one? -/
def subB (a b : List UInt8) : Bool := (subS a b).1
theorem subB_set {a b : List UInt8} (ha : chkE a = 0) (hb : chkE b = 0) : subB a b = true ↔ ∀ z ∈ idsL a, z ∈ idsL b := by
  unfold subB subS
  simp only [decide_eq_true_eq]
  exact ⟨fun h => h.2, fun h => ⟨twoE_set ha hb, h⟩⟩
theorem subB_chk {a b : List UInt8} (h : subB a b = true) : chkE a = 0 ∧ chkE b = 0 := by
  unfold subB subS at h
  simp only [decide_eq_true_eq] at h
  exact twoE_ok h.1
theorem subB_refl {a : List UInt8} (ha : chkE a = 0) : subB a a = true := (subB_set ha ha).2 fun _ h => h
theorem subB_trans {a b c : List UInt8} (h1 : subB a b = true) (h2 : subB b c = true) : subB a c = true := by
  obtain ⟨ha, hb⟩ := subB_chk h1
  obtain ⟨_, hc⟩ := subB_chk h2
  rw [subB_set ha hb] at h1
  rw [subB_set hb hc] at h2
  exact (subB_set ha hc).2 fun z hz => h2 z (h1 z hz)
theorem subB_anti {a b : List UInt8} (h1 : subB a b = true) (h2 : subB b a = true) : a = b := by
  obtain ⟨ha, hb⟩ := subB_chk h1
  rw [subB_set ha hb] at h1
  rw [subB_set hb ha] at h2
  obtain ⟨l, rfl, hl⟩ := set_of ha
  obtain ⟨m, rfl, hm⟩ := set_of hb
  rw [hl.ids, hm.ids] at h1 h2
  rw [asc_ext hl.up hm.up fun z => ⟨h1 z, h2 z⟩]

/-- The greatest element of a list, as it is looked for. -/
def topG (R : Nat → Nat → Bool) : Nat → List Nat → Nat
  | t, [] => t
  | t, x :: l => topG R (if R t x then x else t) l
def topB (R : Nat → Nat → Bool) (l : List Nat) (i : Nat) : Bool := l.all fun k => R k i
theorem topG_snoc (R : Nat → Nat → Bool) (x : Nat) : ∀ (l : List Nat) (t : Nat), topG R t (l ++ [x]) = if R (topG R t l) x then x else topG R t l
  | [], t => rfl
  | y :: l, t => by rw [List.cons_append, topG, topG_snoc R x l, topG]
theorem topG_mem (R : Nat → Nat → Bool) : ∀ (l : List Nat) (t : Nat) (m : List Nat), t ∈ m → (∀ x ∈ l, x ∈ m) → topG R t l ∈ m
  | [], t, m, ht, _ => ht
  | x :: l, t, m, ht, h => by
    rw [topG]
    refine topG_mem R l _ m ?_ fun y hy => h y (List.mem_cons_of_mem _ hy)
    split
    · exact h x (List.mem_cons_self ..)
    · exact ht
theorem topG_stay {R : Nat → Nat → Bool} {m : List Nat} {i : Nat} (hi : ∀ k ∈ m, R k i = true) (him : i ∈ m) (ha : ∀ i ∈ m, ∀ j ∈ m, R i j = true → R j i = true → i = j) : ∀ (l : List Nat), (∀ x ∈ l, x ∈ m) → topG R i l = i
  | [], _ => rfl
  | x :: l, h => by
    have hx := h x (List.mem_cons_self ..)
    have hl := fun y hy => h y (List.mem_cons_of_mem _ hy)
    rw [topG]
    by_cases hr : R i x = true
    · rw [if_pos hr, ← ha i him x hx hr (hi x hx)]
      exact topG_stay hi him ha l hl
    · rw [if_neg hr]
      exact topG_stay hi him ha l hl
theorem topG_top {R : Nat → Nat → Bool} {m : List Nat} {i : Nat} (hi : ∀ k ∈ m, R k i = true) (him : i ∈ m) (ha : ∀ i ∈ m, ∀ j ∈ m, R i j = true → R j i = true → i = j) : ∀ (l : List Nat) (t : Nat), t ∈ m → (∀ x ∈ l, x ∈ m) → i ∈ l → topG R t l = i
  | [], t, _, _, h => by cases h
  | x :: l, t, ht, h, hm => by
    have hx := h x (List.mem_cons_self ..)
    have hl := fun y hy => h y (List.mem_cons_of_mem _ hy)
    rw [topG]
    rcases List.mem_cons.1 hm with rfl | hm
    · rw [if_pos (hi t ht)]; exact topG_stay hi him ha l hl
    · refine topG_top hi him ha l _ ?_ hl hm
      split
      · exact hx
      · exact ht
theorem top_find {R : Nat → Nat → Bool} {l : List Nat} {t : Nat} (ht : t ∈ l) (ha : ∀ i ∈ l, ∀ j ∈ l, R i j = true → R j i = true → i = j) : l.find? (topB R l) = if topB R l (topG R t l) then some (topG R t l) else none := by
  have hg := topG_mem R l t l ht fun _ h => h
  by_cases h : topB R l (topG R t l) = true
  · rw [if_pos h]
    cases hf : l.find? (topB R l) with
    | none => rw [List.find?_eq_none] at hf; exact absurd h (hf _ hg)
    | some i =>
      have h1 := List.find?_some hf
      have h2 := List.mem_of_find?_eq_some hf
      unfold topB at h h1
      rw [List.all_eq_true] at h h1
      rw [ha i h2 _ hg (h i h2) (h1 _ hg)]
  · rw [if_neg h, List.find?_eq_none]
    intro i hi h1
    apply h
    have h3 := h1
    unfold topB at h1
    rw [List.all_eq_true] at h1
    rw [topG_top h1 hi ha l t ht (fun _ h => h) hi]
    exact h3

/-- Is the binding a candidate? -/
def hasB (T : List Bd) (n s : List UInt8) (i : Nat) : Bool := match T[i]? with | some x => decide (x.n = n) && subB x.s s | none => false
theorem hasB_at {T : List Bd} {n s : List UInt8} {i : Nat} {x : Bd} (h : T[i]? = some x) : hasB T n s i = (decide (x.n = n) && subB x.s s) := by unfold hasB; rw [h]
def candG (T : List Bd) (n s : List UInt8) (k : Nat) : List Nat := (List.range k).filter (hasB T n s)
abbrev candB (T : List Bd) (n s : List UInt8) : List Nat := candG T n s T.length
theorem candG_succ (T : List Bd) (n s : List UInt8) (k : Nat) : candG T n s (k + 1) = candG T n s k ++ if hasB T n s k then [k] else [] := by
  unfold candG
  rw [List.range_succ, List.filter_append]
  congr 1
  simp only [List.filter_cons, List.filter_nil]
theorem candG_len (T : List Bd) (n s : List UInt8) (k : Nat) : (candG T n s k).length ≤ k := by
  unfold candG
  exact Nat.le_trans (List.length_filter_le ..) (Nat.le_of_eq (List.length_range ..))
def setAt (T : List Bd) (i : Nat) : List UInt8 := match T[i]? with | some x => x.s | none => []
theorem setAt_at {T : List Bd} {i : Nat} {x : Bd} (h : T[i]? = some x) : setAt T i = x.s := by unfold setAt; rw [h]
def relB (T : List Bd) (i k : Nat) : Bool := subB (setAt T i) (setAt T k)
theorem mem_cand {T : List Bd} {n s : List UInt8} {i : Nat} : i ∈ candB T n s ↔ ∃ x, T[i]? = some x ∧ x.n = n ∧ subB x.s s = true := by
  unfold candB candG
  rw [List.mem_filter, List.mem_range]
  constructor
  · rintro ⟨hi, h⟩
    have hx : T[i]? = some T[i] := List.getElem?_eq_getElem hi
    rw [hasB_at hx] at h
    simp only [Bool.and_eq_true, decide_eq_true_eq] at h
    exact ⟨_, hx, h.1, h.2⟩
  · rintro ⟨x, hx, hn, hs⟩
    refine ⟨(List.getElem?_eq_some_iff.1 hx).1, ?_⟩
    rw [hasB_at hx, hs, Bool.and_true]; exact decide_eq_true hn
theorem cand_anti {T : List Bd} {n s : List UInt8} (h : OkB T) : ∀ i ∈ candB T n s, ∀ j ∈ candB T n s, relB T i j = true → relB T j i = true → i = j := by
  intro i hi j hj h1 h2
  obtain ⟨x, hx, hxn, _⟩ := mem_cand.1 hi
  obtain ⟨y, hy, hyn, _⟩ := mem_cand.1 hj
  unfold relB at h1 h2
  rw [setAt_at hx, setAt_at hy] at h1 h2
  exact h.apart i j x y hx hy (hxn.trans hyn.symm) (subB_anti h1 h2)
/-- What Resolve returns of a table and a set. -/
def resB (T : List Bd) (n s : List UInt8) : Nat × Int := match (candB T n s).find? (topB (relB T) (candB T n s)) with | some i => (i, 0) | none => if candB T n s = [] then (0, 10) else (0, 11)
theorem res_none {T : List Bd} {n s : List UInt8} (h : candB T n s = []) : resB T n s = (0, 10) := by
  unfold resB; rw [h]; rfl
theorem res_top {T : List Bd} {n s : List UInt8} (ho : OkB T) {t : Nat} (ht : t ∈ candB T n s) : resB T n s = if topB (relB T) (candB T n s) (topG (relB T) t (candB T n s)) then (topG (relB T) t (candB T n s), 0) else (0, 11) := by
  unfold resB
  rw [top_find ht (cand_anti ho)]
  by_cases h : topB (relB T) (candB T n s) (topG (relB T) t (candB T n s)) = true
  · rw [if_pos h, if_pos h]
  · rw [if_neg h, if_neg h]
    simp only
    rw [if_neg (fun h2 => by rw [h2] at ht; cases ht)]
theorem res_cases {T : List Bd} (n s : List UInt8) : (∃ i, resB T n s = (i, 0) ∧ i ∈ candB T n s ∧ topB (relB T) (candB T n s) i = true) ∨ (resB T n s = (0, 10) ∧ candB T n s = []) ∨ (resB T n s = (0, 11) ∧ candB T n s ≠ [] ∧ ∀ i ∈ candB T n s, topB (relB T) (candB T n s) i = false) := by
  unfold resB
  cases hf : (candB T n s).find? (topB (relB T) (candB T n s)) with
  | some i => exact .inl ⟨i, rfl, List.mem_of_find?_eq_some hf, List.find?_some hf⟩
  | none =>
    by_cases h : candB T n s = []
    · exact .inr (.inl ⟨by simp only; rw [if_pos h], h⟩)
    · refine .inr (.inr ⟨by simp only; rw [if_neg h], h, fun i hi => ?_⟩)
      rw [List.find?_eq_none] at hf
      exact Bool.eq_false_iff.2 (hf i hi)
/-- What Same returns. -/
def sameB (T : List Bd) (na sa nb sb : List UInt8) : Bool × Int :=
  if (resB T na sa).2 = 11 ∨ (resB T nb sb).2 = 11 then (false, 11)
  else if (resB T na sa).2 ≠ 0 ∨ (resB T nb sb).2 ≠ 0 then (decide ((resB T na sa).2 = (resB T nb sb).2 ∧ na = nb), 0)
  else (decide ((resB T na sa).1 = (resB T nb sb).1), 0)
/-- The error of a table and a set. -/
def askB (T : List Bd) (s : List UInt8) : Int := if (chkB T).2 ≠ 0 then (chkB T).2 else chkE s
theorem askB_no {T : List Bd} (h : (chkB T).2 ≠ 0) (s : List UInt8) : askB T s = (chkB T).2 := by unfold askB; rw [if_pos h]
theorem askB_ok {T : List Bd} (h : (chkB T).2 = 0) (s : List UInt8) : askB T s = chkE s := by unfold askB; rw [if_neg (by simpa using h)]
/-- What Of returns. -/
def isB (T : List Bd) (p r : Int) (i : Nat) : Bool := match T[i]? with | some x => decide (x.p = p) && decide (x.r = r) | none => false
theorem isB_at {T : List Bd} {p r : Int} {i : Nat} {x : Bd} (h : T[i]? = some x) : isB T p r i = (decide (x.p = p) && decide (x.r = r)) := by unfold isB; rw [h]
def ofB (T : List Bd) (p r : Int) (k : Nat) : List Nat := (List.range k).filter (isB T p r)
theorem ofB_succ (T : List Bd) (p r : Int) (k : Nat) : ofB T p r (k + 1) = ofB T p r k ++ if isB T p r k then [k] else [] := by
  unfold ofB
  rw [List.range_succ, List.filter_append]
  congr 1
  simp only [List.filter_cons, List.filter_nil]
theorem ofB_len (T : List Bd) (p r : Int) (k : Nat) : (ofB T p r k).length ≤ k := by
  unfold ofB
  exact Nat.le_trans (List.length_filter_le ..) (Nat.le_of_eq (List.length_range ..))
end Go.Proofs.Ytbkkmcfpjpbhaaa
