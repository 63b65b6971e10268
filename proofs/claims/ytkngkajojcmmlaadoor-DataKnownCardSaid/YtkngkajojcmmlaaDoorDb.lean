import Derived.Test.YtkngkajojcmmlaaDoorDa
import Derived.Test.YtkngkajojcmmlaaDoorRrunes
import Derived.Deep.AppendLies
/- The stack of Check in memory, and what Check returns. -/
namespace Go.Proofs.YtkngkajojcmmlaaDoor
open Go.RowKit Go.PlainAid

/-- A stack (its top first) as the elements of a row, its top last. -/
def stV (st : List Nat) : List Value := st.reverse.map fun q : Nat => Value.int .i64 (q : Int)
theorem stV_len (st : List Nat) : (stV st).length = st.length := by unfold stV; rw [List.length_map, List.length_reverse]
theorem stV_cons (a : Nat) (r : List Nat) : stV (a :: r) = stV r ++ [.int .i64 (a : Int)] := by unfold stV; rw [List.reverse_cons, List.map_append]; rfl
theorem stV_top (a : Nat) (r : List Nat) : (stV (a :: r))[r.length]? = some (.int .i64 (a : Int)) := by
  rw [stV_cons, List.getElem?_append_right (by rw [stV_len]; exact Nat.le_refl _), stV_len, Nat.sub_self]; rfl
theorem stV_set (a b : Nat) (r : List Nat) : (stV (a :: r)).set r.length (.int .i64 (b : Int)) = stV (b :: r) := by
  rw [stV_cons, stV_cons, List.set_append, if_neg (by rw [stV_len]; omega), stV_len, Nat.sub_self]; rfl
theorem stV_cut (a : Nat) (r : List Nat) : (stV (a :: r)).take r.length = stV r := by
  rw [stV_cons, List.take_append_of_le_length (by rw [stV_len]; exact Nat.le_refl _), List.take_of_length_le (by rw [stV_len]; exact Nat.le_refl _)]
theorem popZ_nil : popZ [] = [] := rfl
theorem popZ_zero (r : List Nat) : popZ (0 :: r) = popZ r := by unfold popZ; rw [List.dropWhile_cons]; simp
theorem popZ_pos {a : Nat} (r : List Nat) (h : a ≠ 0) : popZ (a :: r) = a :: r := by unfold popZ; rw [List.dropWhile_cons, if_neg (by simpa using h)]
theorem pushN_cons (k a : Nat) (r : List Nat) : pushN k (a :: r) = popZ (k :: (a - 1) :: r) := rfl
theorem popZ_len (st : List Nat) : (popZ st).length ≤ st.length := by
  have := (List.dropWhile_suffix (l := st) (p := fun x => x == 0)).length_le; exact this
theorem pushN_len (k : Nat) (st : List Nat) : (pushN k st).length ≤ st.length + 1 := by
  cases st with
  | nil => simp [pushN]
  | cons a r => rw [pushN_cons]; have := popZ_len (k :: (a - 1) :: r); simpa using this

/-- Whether a string is empty. -/
def emB (s : List UInt8) : Bool := ((str s).toList == [])
/-- The error of a node at a depth; sy: which strings are symbols. -/
def ndE (sy : List UInt8 → Bool) (x : Nd) (d : Int) : Int := nodeE x.1 x.2.1 x.2.2.1 (emB x.2.2.2) (sy x.2.2.2) d
theorem ndE_kids {sy : List UInt8 → Bool} {x : Nd} {d : Int} (h : ndE sy x d = 0) : 0 ≤ x.2.1 := by
  unfold ndE nodeE at h
  split at h
  · cases h
  · rename_i hk
    unfold kindB at hk
    split at hk
    · have h1 : decide (x.2.1 = 0) = true := by cases h1 : decide (x.2.1 = 0) with | true => rfl | false => exact absurd (by rw [h1]; rfl) hk
      have := of_decide_eq_true h1; omega
    · split at hk
      · have h1 : decide (x.2.1 = 0) = true := by cases h1 : decide (x.2.1 = 0) with | true => rfl | false => exact absurd (by rw [h1]; rfl) hk
        have := of_decide_eq_true h1; omega
      · split at hk
        · simp only [Bool.and_eq_true, decide_eq_true_eq, Bool.not_eq_false] at hk; exact hk.1.1
        · exact absurd rfl hk
/-- What Check returns of nodes. -/
def chkT (sy : List UInt8 → Bool) (t : List Nd) : Int × Int := chkD (ndE sy) t
def chkTV (sy : List UInt8 → Bool) (t : List Nd) : Value := .tuple #[.int .i64 (chkT sy t).1, .int .i64 (chkT sy t).2]
/-- Symbol answers sy, in every world above w. -/
def SymAll (f : FuncId) (sy : List UInt8 → Bool) (w : World) : Prop := ∀ s, SymAt f s (sy s) w
theorem SymAll.below {f : FuncId} {sy : List UInt8 → Bool} {w w' : World} (h : SymAll f sy w) (hb : Below w.heap.size w w') : SymAll f sy w' := fun s W hW => h s W (hb.trans (hW.mono hb.size))
theorem infoSk : (Tryd.prog.info? 3).map (fun i => (i.zero, i.size, i.bytes)) = some (some (.int .i64 0), 1, 8) := by kernel_rfl
end Go.Proofs.YtkngkajojcmmlaaDoor

/- Rows of one-cell elements that the call owns. -/
namespace Go.Proofs.YtkngkajojcmmlaaDoor
open Go.RowKit Go.PlainAid

theorem own_cut {w : World} {B n m : Nat} {e : TypeId} {a : Option Addr} {c : Nat} {xs : List Value} (h : w.ownsRow B e 1 (.slice a n c) n xs) (hm : m ≤ n) : w.ownsRow B e 1 (.slice a m c) m (xs.take m) := by
  obtain ⟨h1, h2⟩ := h
  refine ⟨by rw [List.length_take]; omega, ?_⟩
  rcases h2 with ⟨hv, hn⟩ | ⟨g, cap, cur, hv, hb, hg, hc, hx, hs, ht⟩
  · obtain ⟨rfl, rfl, rfl⟩ := Value.slice.inj hv
    obtain rfl : m = 0 := by omega
    exact .inl ⟨rfl, rfl⟩
  · obtain ⟨rfl, _, rfl⟩ := Value.slice.inj hv
    refine .inr ⟨g, c, cur, rfl, hb, hg, by omega, hx, hs, ?_⟩
    rw [← ht, List.take_take, Nat.mul_one, Nat.mul_one, Nat.min_eq_left hm]
theorem own_form {w : World} {B n z : Nat} {e : TypeId} {v : Value} {xs : List Value} (h : w.ownsRow B e z v n xs) : (v = .slice none 0 0 ∧ n = 0) ∨ ∃ g c, v = .slice (some ⟨g, 0, none⟩) n c ∧ B ≤ g ∧ g < w.heap.size := by
  rcases h.2 with h | ⟨g, cap, cur, hv, hb, hg, _⟩
  · exact .inl h
  · exact .inr ⟨g, cap, hv, hb, (Array.getElem?_eq_some_iff.1 hg).1⟩
theorem own_cap {w : World} {B n z : Nat} {e : TypeId} {a : Option Addr} {c : Nat} {xs : List Value} (h : w.ownsRow B e z (.slice a n c) n xs) : n ≤ c ∧ c ≤ maxLen := by
  rcases h.2 with ⟨hv, hn⟩ | ⟨g, cap, cur, hv, hb, hg, h1, h2, _⟩
  · obtain ⟨_, rfl, rfl⟩ := Value.slice.inj hv; exact ⟨Nat.le_refl _, Nat.zero_le _⟩
  · obtain ⟨_, _, rfl⟩ := Value.slice.inj hv; exact ⟨h1, h2⟩
theorem own_len {w : World} {B n z : Nat} {e : TypeId} {v : Value} {xs : List Value} (h : w.ownsRow B e z v n xs) : ∃ a c, v = .slice a n c := by
  rcases own_form h with ⟨rfl, rfl⟩ | ⟨g, c, rfl, _⟩
  · exact ⟨_, _, rfl⟩
  · exact ⟨_, _, rfl⟩
theorem own_cell {w : World} {B n : Nat} {e : TypeId} {g c : Nat} {xs : List Value} (h : w.ownsRow B e 1 (.slice (some ⟨g, 0, none⟩) n c) n xs) {j : Nat} {u : Value} (hj : xs[j]? = some u) : w.cell? ⟨g, j, none⟩ = some u := by
  have := h.cells (g := g) rfl j u hj
  have e1 : (⟨g, 0, none⟩ : Addr).add j = ⟨g, j, none⟩ := by cases j <;> simp [Addr.add]
  rw [e1] at this; exact this
/-- A row that was just made. -/
theorem own_mk (w : World) (l : List Value) (e : TypeId) (n : Nat) (hn : n = l.length) (hm : n ≤ maxLen) : (w.alloc (.cells l.toArray e)).ownsRow w.heap.size e 1 (.slice (some ⟨w.heap.size, 0, none⟩) n n) n l := by
  refine ⟨by omega, .inr ⟨_, n, l.toArray, rfl, Nat.le_refl _, World.alloc_heap_new _ _, Nat.le_refl _, hm, by simp; omega, ?_⟩⟩
  rw [Nat.mul_one, List.take_of_length_le (by simp; omega)]
end Go.Proofs.YtkngkajojcmmlaaDoor

/- Ends of subtrees: what a walk through a flat tree leaves (mathematics). -/
namespace Go.Proofs.YtkngkajojcmmlaaDoor

/-- The ends that a walk from i to p leaves. -/
def EndsOk (ks : List Nat) (i p : Nat) (es es' : List Nat) : Prop := es'.length = es.length ∧ ∀ j, j < es.length → es'[j]? = if i ≤ j ∧ j < p then some (endN ks j) else es[j]?
theorem EndsOk.refl (ks : List Nat) (i : Nat) (es : List Nat) : EndsOk ks i i es es := ⟨rfl, fun j _ => by rw [if_neg (by omega)]⟩
theorem EndsOk.trans {ks : List Nat} {a b c : Nat} {e0 e1 e2 : List Nat} (h1 : EndsOk ks a b e0 e1) (h2 : EndsOk ks b c e1 e2) (hab : a ≤ b) (hbc : b ≤ c) : EndsOk ks a c e0 e2 := by
  refine ⟨h2.1.trans h1.1, fun j hj => ?_⟩
  rw [h2.2 j (by rw [h1.1]; exact hj), h1.2 j hj]
  by_cases h : b ≤ j ∧ j < c
  · rw [if_pos h, if_pos (by omega)]
  · rw [if_neg h]
    by_cases h' : a ≤ j ∧ j < b
    · rw [if_pos h', if_pos (by omega)]
    · rw [if_neg h', if_neg (by omega)]
theorem EndsOk.close {ks : List Nat} {i p : Nat} {e0 e1 : List Nat} (h : EndsOk ks (i + 1) p e0 e1) (hi : i < e0.length) (hp : i + 1 ≤ p) (hE : endN ks i = p) : EndsOk ks i p e0 (e1.set i p) := by
  refine ⟨by rw [List.length_set]; exact h.1, fun j hj => ?_⟩
  by_cases hji : j = i
  · subst hji
    rw [List.getElem?_set_self (by rw [h.1]; exact hi), if_pos (by omega), hE]
  · rw [List.getElem?_set_ne (by omega), h.2 j hj]
    by_cases h' : i + 1 ≤ j ∧ j < p
    · rw [if_pos h', if_pos (by omega)]
    · rw [if_neg h', if_neg (by omega)]
/-- All ends. -/
def endsL (ks : List Nat) : List Nat := (List.range ks.length).map (endN ks)
theorem endsL_len (ks : List Nat) : (endsL ks).length = ks.length := by unfold endsL; rw [List.length_map, List.length_range]
theorem endsL_at {ks : List Nat} {j : Nat} (hj : j < ks.length) : (endsL ks)[j]? = some (endN ks j) := by
  unfold endsL; rw [List.getElem?_map, List.getElem?_range hj]; rfl
theorem EndsOk.whole {ks e0 e1 : List Nat} (h : EndsOk ks 0 ks.length e0 e1) (hl : e0.length = ks.length) : e1 = endsL ks := by
  apply List.ext_getElem?
  intro j
  by_cases hj : j < ks.length
  · rw [h.2 j (by omega), if_pos (by omega), endsL_at hj]
  · rw [List.getElem?_eq_none (by rw [h.1]; omega), List.getElem?_eq_none (by rw [endsL_len]; omega)]
/-- Where k subtrees from i on end, p. -/
def WalkAt (ks : List Nat) (i k p : Nat) : Prop := p ≤ ks.length ∧ eat (ks.drop i) k = some (ks.drop p)
theorem walkAt_start {ks : List Nat} {i : Nat} (hi : i ≤ ks.length) : WalkAt ks i 0 i := ⟨hi, eat_zero _⟩
theorem walkAt_le {ks : List Nat} {i k p : Nat} (hi : i ≤ ks.length) (h : WalkAt ks i k p) : i + k ≤ p := by
  obtain ⟨x, h1, h2, _⟩ := eat_suffix _ _ _ h.2
  have hl := congrArg List.length h1
  rw [List.length_drop, List.length_append, List.length_drop] at hl
  have := h.1; omega
theorem walkAt_end {ks : List Nat} {i p : Nat} (_hi : i ≤ ks.length) (h : WalkAt ks i 1 p) : endN ks i = p := by
  unfold endN; rw [h.2]; show ks.length - (ks.drop p).length = p
  rw [List.length_drop]; have := h.1; omega
theorem walkAt_one {ks : List Nat} {i : Nat} (hi : i ≤ ks.length) (h : (eat (ks.drop i) 1).isSome = true) : WalkAt ks i 1 (endN ks i) := by
  cases hq : eat (ks.drop i) 1 with
  | none => rw [hq] at h; cases h
  | some r =>
    obtain ⟨h1, h2, h3⟩ := endN_of hi hq
    exact ⟨h2, by rw [h3]; exact hq⟩
theorem walkAt_step {ks : List Nat} {i k p q : Nat} (h : WalkAt ks i k p) (h' : WalkAt ks p 1 q) : WalkAt ks i (k + 1) q := ⟨h'.1, by rw [eat_add, h.2]; exact h'.2⟩
theorem walkAt_list {ks : List Nat} {i c p : Nat} (hc : ks[i]? = some c) (h : WalkAt ks (i + 1) c p) : WalkAt ks i 1 p := by
  have hk := List.getElem?_eq_some_iff.1 hc
  refine ⟨h.1, ?_⟩
  rw [List.drop_eq_getElem_cons hk.1, hk.2]
  exact h.2
theorem walk_none {ks : List Nat} {i c k p : Nat} (hc : ks[i]? = some c) (hk : k < c) (h : WalkAt ks (i + 1) k p) (hn : (eat (ks.drop p) 1).isSome = false) : (eat (ks.drop i) 1).isSome = false := by
  have hk' := List.getElem?_eq_some_iff.1 hc
  rw [List.drop_eq_getElem_cons hk'.1, hk'.2]
  show (eat (ks.drop (i + 1)) c).isSome = false
  rw [show c = k + (1 + (c - k - 1)) by omega, eat_add, h.2]
  show (eat (ks.drop p) (1 + (c - k - 1))).isSome = false
  rw [eat_add]
  cases hq : eat (ks.drop p) 1 with
  | none => rfl
  | some r => rw [hq] at hn; cases hn
theorem walk_out {ks : List Nat} {i : Nat} (hi : ks.length ≤ i) : (eat (ks.drop i) 1).isSome = false := by
  rw [List.drop_of_length_le hi]; rfl
/-- Numbers as values. -/
def natV (l : List Nat) : List Value := l.map fun q : Nat => Value.int .i64 (q : Int)
theorem natV_len (l : List Nat) : (natV l).length = l.length := by unfold natV; rw [List.length_map]
theorem natV_at {l : List Nat} {j q : Nat} (h : l[j]? = some q) : (natV l)[j]? = some (.int .i64 (q : Int)) := by unfold natV; rw [List.getElem?_map, h]; rfl
theorem natV_set (l : List Nat) (j q : Nat) : (natV l).set j (.int .i64 (q : Int)) = natV (l.set j q) := by unfold natV; rw [List.map_set]
end Go.Proofs.YtkngkajojcmmlaaDoor

/- What is put together of data is one, unless it is too large or too deep (mathematics). -/
namespace Go.Proofs.YtkngkajojcmmlaaDoor

/-- A node that is good, unless it is too deep. -/
def okN (sy : List UInt8 → Bool) (x : Nd) : Prop := kindB x.1 x.2.1 x.2.2.1 (emB x.2.2.2) = true ∧ valE x.1 x.2.2.1 (sy x.2.2.2) = 0
theorem okN_of {sy : List UInt8 → Bool} {x : Nd} {d : Int} (h : ndE sy x d = 0) : okN sy x := by
  unfold ndE nodeE at h
  unfold okN
  split at h
  · cases h
  · rename_i hk
    split at h
    · cases h
    · exact ⟨by simpa using hk, h⟩
theorem okN_err {sy : List UInt8 → Bool} {x : Nd} (h : okN sy x) (d : Int) : ndE sy x d = 0 ∨ ndE sy x d = 3 := by
  unfold ndE nodeE
  rw [h.1, if_neg (by simp)]
  split
  · exact .inr rfl
  · exact .inl h.2
theorem chkGo_ok {sy : List UInt8 → Bool} : ∀ (t : List Nd) (st : List Nat) (i : Nat), (chkGo (ndE sy) st i t).2 = 0 → ∀ x ∈ t, okN sy x := by
  intro t
  induction t with
  | nil => intro st i _ x hx; cases hx
  | cons y t ih =>
    intro st i h x hx
    rw [chkGo] at h
    split at h
    · cases h
    · split at h
      · rename_i hE; exact absurd h hE
      · rename_i hE
        rcases List.mem_cons.1 hx with e | e
        · rw [e]; exact okN_of (Decidable.not_not.1 hE)
        · exact ih _ _ h x e
theorem chkT_ok {sy : List UInt8 → Bool} {t : List Nd} (h : (chkT sy t).2 = 0) : Tr (kidsL t) ∧ t ≠ [] ∧ t.length ≤ 400 ∧ (∀ x ∈ t, okN sy x) ∧ chkT sy t = (0, 0) := by
  obtain ⟨h1, h2, h3⟩ := chkD_tree h
  have h4 : chkT sy t = chkGo (ndE sy) [1] 0 t := by unfold chkT chkD; rw [if_neg h2, if_neg (by omega)]
  refine ⟨h1, h2, h3, chkGo_ok t [1] 0 (by rw [← h4]; exact h), ?_⟩
  rw [h4] at h ⊢
  have : ∀ (t : List Nd) (st : List Nat) (i : Nat), (chkGo (ndE sy) st i t).2 = 0 → chkGo (ndE sy) st i t = (0, 0) := by
    intro t
    induction t with
    | nil =>
      intro st i h
      rw [chkGo] at h ⊢
      split at h
      · rename_i hs; rw [if_pos hs]
      · cases h
    | cons y t ih =>
      intro st i h
      rw [chkGo] at h ⊢
      split at h
      · cases h
      · rename_i hs
        rw [if_neg hs]
        split at h
        · rename_i hE; exact absurd h hE
        · rename_i hE; rw [if_neg hE]; exact ih _ _ h
  exact this _ _ _ h
theorem chkT_kids {sy : List UInt8 → Bool} {t : List Nd} (h : (chkT sy t).2 = 0) : ∀ x ∈ t, 0 ≤ x.2.1 := by
  intro x hx
  have h1 := ((chkT_ok h).2.2.2.1 x hx).1
  unfold kindB at h1
  split at h1
  · rename_i hk; simp only [Bool.and_eq_true, decide_eq_true_eq] at h1; omega
  · split at h1
    · simp only [Bool.and_eq_true, decide_eq_true_eq] at h1; omega
    · split at h1
      · simp only [Bool.and_eq_true, decide_eq_true_eq] at h1; omega
      · cases h1
theorem chkGo_3 {sy : List UInt8 → Bool} : ∀ (t : List Nd) (st : List Nat) (i : Nat), (∀ x ∈ t, okN sy x) → stackN st (kidsL t) = some [] → (chkGo (ndE sy) st i t).2 = 0 ∨ (chkGo (ndE sy) st i t).2 = 3 := by
  intro t
  induction t with
  | nil =>
    intro st i _ h
    have hs : st = [] := by simpa [kidsL, stackN] using h
    rw [chkGo, if_pos hs]; exact .inl rfl
  | cons y t ih =>
    intro st i hx h
    have h' : stackN st (y.2.1.toNat :: kidsL t) = some [] := h
    rw [stackN] at h'
    rw [chkGo]
    split at h'
    · cases h'
    · rename_i hs
      rw [if_neg hs]
      split
      · rename_i hE
        rcases okN_err (hx y (by simp)) ((st.length : Int) - 1) with e | e
        · exact absurd e hE
        · exact .inr e
      · exact ih _ _ (fun x h => hx x (by simp [h])) h'
/-- What is a flat tree of good nodes is a datum, or too large, or too deep. -/
theorem chkT_3 {sy : List UInt8 → Bool} {t : List Nd} (h : Tr (kidsL t)) (hx : ∀ x ∈ t, okN sy x) : (chkT sy t).2 = 0 ∨ (chkT sy t).2 = 3 := by
  have hne : t ≠ [] := by rintro rfl; cases h
  unfold chkT chkD
  rw [if_neg hne]
  split
  · exact .inr rfl
  · exact chkGo_3 t [1] 0 hx ((stack_eat (kidsL t) [1] (by intro a ha; cases ha; decide)).2 h)
theorem kidsL_app (a b : List Nd) : kidsL (a ++ b) = kidsL a ++ kidsL b := List.map_append
theorem kidsL_take (t : List Nd) (n : Nat) : kidsL (t.take n) = (kidsL t).take n := List.map_take
theorem kidsL_drop (t : List Nd) (n : Nat) : kidsL (t.drop n) = (kidsL t).drop n := List.map_drop
theorem kidsL_len (t : List Nd) : (kidsL t).length = t.length := List.length_map ..
/-- What Put makes. -/
def putS (t : List Nd) (i : Nat) (s : List Nd) : List Nd := t.take i ++ (s ++ t.drop (endN (kidsL t) i))
theorem put_3 {sy : List UInt8 → Bool} {t s : List Nd} {i : Nat} (ht : (chkT sy t).2 = 0) (hs : (chkT sy s).2 = 0) (hi : i < t.length) : (chkT sy (putS t i s)).2 = 0 ∨ (chkT sy (putS t i s)).2 = 3 := by
  obtain ⟨t1, _, _, t4, _⟩ := chkT_ok ht
  obtain ⟨s1, _, _, s4, _⟩ := chkT_ok hs
  have hi' : i < (kidsL t).length := by rw [kidsL_len]; exact hi
  obtain ⟨u1, u2⟩ := t1.sub hi'
  refine chkT_3 ?_ ?_
  · unfold putS
    rw [kidsL_app, kidsL_app, kidsL_take, kidsL_drop]
    exact Tr.put (by rw [← u2]; exact t1) u1 s1
  · intro x hx
    unfold putS at hx
    rcases List.mem_append.1 hx with h | h
    · exact t4 x (List.mem_of_mem_take h)
    · rcases List.mem_append.1 h with h | h
      · exact s4 x h
      · exact t4 x (List.mem_of_mem_drop h)
end Go.Proofs.YtkngkajojcmmlaaDoor
