import Derived.Test.YtdiinlmeoifgjaaGreatDoorZu
import Derived.Sort.OwnSortedInts
import Derived.Sort.OwnSorted
import Derived.Lib.RowBridge
/- scopes.Of. -/
namespace Go.Proofs.YtdiinlmeoifgjaaGreatDoor
open Go.RowKit Go.PlainAid Go.Sort

theorem own_cut {w : World} {B n m : Nat} {e : TypeId} {a : Option Addr} {c : Nat} {xs : List Value} (h : w.ownsRow B e 1 (.slice a n c) n xs) (hm : m ≤ n) : w.ownsRow B e 1 (.slice a m c) m (xs.take m) := by
  obtain ⟨h1, h2⟩ := h
  refine ⟨by rw [List.length_take]; omega, ?_⟩
  rcases h2 with ⟨hv, hn⟩ | ⟨g, cap, cur, hv, hb, hg, hc, hx, hs, ht⟩
  · obtain ⟨rfl, rfl, rfl⟩ := Value.slice.inj hv
    obtain rfl : m = 0 := by omega
    exact .inl ⟨rfl, rfl⟩
  · obtain ⟨rfl, _, rfl⟩ := Value.slice.inj hv
    refine .inr ⟨g, c, cur, rfl, hb, hg, by omega, hx, hs, ?_⟩
    rw [← ht, List.take_take, Nat.mul_one, Nat.mul_one, Nat.min_eq_left hm]
theorem own_form {w : World} {B n z : Nat} {e : TypeId} {v : Value} {xs : List Value} (h : w.ownsRow B e z v n xs) : (v = .slice none 0 0 ∧ n = 0) ∨ ∃ g c, v = .slice (some ⟨g, 0, none⟩) n c ∧ B ≤ g ∧ g < w.heap.size := by
  rcases h.2 with h | ⟨g, cap, cur, hv, hb, hg, _⟩
  · exact .inl h
  · exact .inr ⟨g, cap, hv, hb, (Array.getElem?_eq_some_iff.1 hg).1⟩
theorem own_cap {w : World} {B n z : Nat} {e : TypeId} {a : Option Addr} {c : Nat} {xs : List Value} (h : w.ownsRow B e z (.slice a n c) n xs) : n ≤ c ∧ c ≤ maxLen := by
  rcases h.2 with ⟨hv, hn⟩ | ⟨g, cap, cur, hv, hb, hg, h1, h2, _⟩
  · obtain ⟨_, rfl, rfl⟩ := Value.slice.inj hv; exact ⟨Nat.le_refl _, Nat.zero_le _⟩
  · obtain ⟨_, _, rfl⟩ := Value.slice.inj hv; exact ⟨h1, h2⟩

def intC (l : List Int) : List Value := l.map (Value.int .i64)
/-- The slice value v holds the numbers l. -/
def NumAt (w : World) (v : Value) (l : List Int) : Prop :=
  ∃ a n c, v = .slice a n c ∧ n = l.length ∧ n ≤ c ∧ (l = [] ∨ ∃ g off, a = some ⟨g, off, none⟩ ∧ g < w.heap.size ∧ ∀ (j : Nat) (x : Int), l[j]? = some x → w.cell? ⟨g, off + j, none⟩ = some (.int .i64 x))
theorem NumAt.below {B : Nat} {w w' : World} {v : Value} {l : List Int} (h : NumAt w v l) (hb : Below B w w') (hB : w.heap.size ≤ B) : NumAt w' v l := by
  obtain ⟨a, n, c, e, hn, hc, h⟩ := h
  refine ⟨a, n, c, e, hn, hc, h.imp id ?_⟩
  rintro ⟨g, off, rfl, hg, hcell⟩
  exact ⟨g, off, rfl, Nat.lt_of_lt_of_le hg hb.size, fun j u hj => (hb.cell (p := ⟨g, off + j, none⟩) (by show g < B; omega)).trans (hcell j u hj)⟩
theorem num_own {w : World} {B n : Nat} {v : Value} {l : List Int} (h : w.ownsRow B 3 1 v n (intC l)) (hn : l.length = n) : NumAt w v l := by
  rcases own_form h with ⟨rfl, h0⟩ | ⟨g, c, rfl, h1, h2⟩
  · exact ⟨none, 0, 0, rfl, by omega, Nat.le_refl _, .inl (List.length_eq_zero_iff.1 (by omega))⟩
  · have hc := (own_cap h).1
    refine ⟨_, n, c, rfl, hn.symm, hc, .inr ⟨g, 0, rfl, h2, fun j x hj => ?_⟩⟩
    have := h.cells (g := g) rfl j (.int .i64 x) (by unfold intC; rw [List.getElem?_map, hj]; rfl)
    rw [Go.WideShapes.add_plain] at this; exact this
theorem num_nat {w : World} {v : Value} {l : List Nat} (h : NumAt w v (l.map fun n : Nat => (n : Int))) : NatAt w v l := by
  obtain ⟨a, n, c, e, hn, hc, h⟩ := h
  refine ⟨a, n, c, e, by rw [hn, List.length_map], hc, ?_⟩
  rcases h with h | ⟨g, off, e2, hg, hcell⟩
  · exact .inl (by simpa using h)
  · exact .inr ⟨g, off, e2, hg, fun j x hj => hcell j x (by rw [List.getElem?_map, hj]; rfl)⟩
/-- The same of a slice whose capacity is not known. -/
def NumL (w : World) (v : Value) (l : List Int) : Prop :=
  ∃ a n c, v = .slice a n c ∧ n = l.length ∧ (l = [] ∨ ∃ g off, a = some ⟨g, off, none⟩ ∧ g < w.heap.size ∧ ∀ (j : Nat) (x : Int), l[j]? = some x → w.cell? ⟨g, off + j, none⟩ = some (.int .i64 x))
theorem NumAt.loose {w : World} {v : Value} {l : List Int} (h : NumAt w v l) : NumL w v l := by
  obtain ⟨a, n, c, e, hn, _, h⟩ := h
  exact ⟨a, n, c, e, hn, h⟩
theorem NumL.below {B : Nat} {w w' : World} {v : Value} {l : List Int} (h : NumL w v l) (hb : Below B w w') (hB : w.heap.size ≤ B) : NumL w' v l := by
  obtain ⟨a, n, c, e, hn, h⟩ := h
  refine ⟨a, n, c, e, hn, h.imp id ?_⟩
  rintro ⟨g, off, rfl, hg, hcell⟩
  exact ⟨g, off, rfl, Nat.lt_of_lt_of_le hg hb.size, fun j u hj => (hb.cell (p := ⟨g, off + j, none⟩) (by show g < B; omega)).trans (hcell j u hj)⟩
theorem leI_eq : (fun x y : Int => decide (x ≤ y)) = leI := rfl
-- MARK8
end Go.Proofs.YtdiinlmeoifgjaaGreatDoor

/- The law's Far. -/
namespace Go.Proofs.YtdiinlmeoifgjaaGreatDoor
open Go.RowKit Go.PlainAid

/-- Far: if it says false, there are few nodes, with short strings. -/
def DFarV (t : List Nd) (w : World) (e : Ending) (w' : World) : Prop := ∃ b, e = .returned (.bool b) ∧ (b = false → t.length ≤ 410 ∧ ∀ x ∈ t, x.2.2.2.length ≤ 100) ∧ Below w.heap.size w w'
end Go.Proofs.YtdiinlmeoifgjaaGreatDoor

/- The reference's Ints: two rows of numbers are the same. -/
namespace Go.Proofs.YtdiinlmeoifgjaaGreatDoor
open Go.RowKit Go.PlainAid

/-- The slice value v holds the numbers l (an empty one may have an address). -/
def IntRow (w : World) (v : Value) (l : List Int) : Prop := ∃ a c, v = .slice a l.length c ∧ (l = [] ∨ ∃ g off, a = some ⟨g, off, none⟩ ∧ g < w.heap.size ∧ ∀ (j : Nat) (n : Int), l[j]? = some n → w.cell? ⟨g, off + j, none⟩ = some (.int .i64 n))
theorem IntRow.below {w w' : World} {v : Value} {l : List Int} (h : IntRow w v l) (hb : Below w.heap.size w w') : IntRow w' v l := by
  obtain ⟨a, c, e, h⟩ := h
  refine ⟨a, c, e, h.imp id ?_⟩
  rintro ⟨g, off, e, hg, hc⟩
  exact ⟨g, off, e, Nat.lt_of_lt_of_le hg hb.size, fun j n hj => (hb.cell (p := ⟨g, off + j, none⟩) hg).trans (hc j n hj)⟩
theorem take_more {l m : List Int} {k : Nat} {x : Int} (h : l.take k = m.take k) (h1 : l[k]? = some x) (h2 : m[k]? = some x) : l.take (k + 1) = m.take (k + 1) := by
  rw [List.take_add_one, List.take_add_one, h, h1, h2]
end Go.Proofs.YtdiinlmeoifgjaaGreatDoor

/- Ends of subtrees: what a walk through a flat tree leaves (mathematics). -/
namespace Go.Proofs.YtdiinlmeoifgjaaGreatDoor

/-- The ends that a walk from i to p leaves. -/
def EndsOk (ks : List Nat) (i p : Nat) (es es' : List Nat) : Prop := es'.length = es.length ∧ ∀ j, j < es.length → es'[j]? = if i ≤ j ∧ j < p then some (endN ks j) else es[j]?
theorem EndsOk.refl (ks : List Nat) (i : Nat) (es : List Nat) : EndsOk ks i i es es := ⟨rfl, fun j _ => by rw [if_neg (by omega)]⟩
theorem EndsOk.trans {ks : List Nat} {a b c : Nat} {e0 e1 e2 : List Nat} (h1 : EndsOk ks a b e0 e1) (h2 : EndsOk ks b c e1 e2) (hab : a ≤ b) (hbc : b ≤ c) : EndsOk ks a c e0 e2 := by
  refine ⟨h2.1.trans h1.1, fun j hj => ?_⟩
  rw [h2.2 j (by rw [h1.1]; exact hj), h1.2 j hj]
  by_cases h : b ≤ j ∧ j < c
  · rw [if_pos h, if_pos (by omega)]
  · rw [if_neg h]
    by_cases h' : a ≤ j ∧ j < b
    · rw [if_pos h', if_pos (by omega)]
    · rw [if_neg h', if_neg (by omega)]
theorem EndsOk.close {ks : List Nat} {i p : Nat} {e0 e1 : List Nat} (h : EndsOk ks (i + 1) p e0 e1) (hi : i < e0.length) (hp : i + 1 ≤ p) (hE : endN ks i = p) : EndsOk ks i p e0 (e1.set i p) := by
  refine ⟨by rw [List.length_set]; exact h.1, fun j hj => ?_⟩
  by_cases hji : j = i
  · subst hji
    rw [List.getElem?_set_self (by rw [h.1]; exact hi), if_pos (by omega), hE]
  · rw [List.getElem?_set_ne (by omega), h.2 j hj]
    by_cases h' : i + 1 ≤ j ∧ j < p
    · rw [if_pos h', if_pos (by omega)]
    · rw [if_neg h', if_neg (by omega)]
/-- All ends. -/
def endsL (ks : List Nat) : List Nat := (List.range ks.length).map (endN ks)
theorem endsL_len (ks : List Nat) : (endsL ks).length = ks.length := by unfold endsL; rw [List.length_map, List.length_range]
theorem endsL_at {ks : List Nat} {j : Nat} (hj : j < ks.length) : (endsL ks)[j]? = some (endN ks j) := by
  unfold endsL; rw [List.getElem?_map, List.getElem?_range hj]; rfl
theorem EndsOk.whole {ks e0 e1 : List Nat} (h : EndsOk ks 0 ks.length e0 e1) (hl : e0.length = ks.length) : e1 = endsL ks := by
  apply List.ext_getElem?
  intro j
  by_cases hj : j < ks.length
  · rw [h.2 j (by omega), if_pos (by omega), endsL_at hj]
  · rw [List.getElem?_eq_none (by rw [h.1]; omega), List.getElem?_eq_none (by rw [endsL_len]; omega)]
/-- Where k subtrees from i on end, p. -/
def WalkAt (ks : List Nat) (i k p : Nat) : Prop := p ≤ ks.length ∧ eat (ks.drop i) k = some (ks.drop p)
theorem walkAt_start {ks : List Nat} {i : Nat} (hi : i ≤ ks.length) : WalkAt ks i 0 i := ⟨hi, eat_zero _⟩
theorem walkAt_le {ks : List Nat} {i k p : Nat} (hi : i ≤ ks.length) (h : WalkAt ks i k p) : i + k ≤ p := by
  obtain ⟨x, h1, h2, _⟩ := eat_suffix _ _ _ h.2
  have hl := congrArg List.length h1
  rw [List.length_drop, List.length_append, List.length_drop] at hl
  have := h.1; omega
theorem walkAt_end {ks : List Nat} {i p : Nat} (_hi : i ≤ ks.length) (h : WalkAt ks i 1 p) : endN ks i = p := by
  unfold endN; rw [h.2]; show ks.length - (ks.drop p).length = p
  rw [List.length_drop]; have := h.1; omega
theorem walkAt_one {ks : List Nat} {i : Nat} (hi : i ≤ ks.length) (h : (eat (ks.drop i) 1).isSome = true) : WalkAt ks i 1 (endN ks i) := by
  cases hq : eat (ks.drop i) 1 with
  | none => rw [hq] at h; cases h
  | some r =>
    obtain ⟨h1, h2, h3⟩ := endN_of hi hq
    exact ⟨h2, by rw [h3]; exact hq⟩
theorem walkAt_step {ks : List Nat} {i k p q : Nat} (h : WalkAt ks i k p) (h' : WalkAt ks p 1 q) : WalkAt ks i (k + 1) q := ⟨h'.1, by rw [eat_add, h.2]; exact h'.2⟩
theorem walkAt_list {ks : List Nat} {i c p : Nat} (hc : ks[i]? = some c) (h : WalkAt ks (i + 1) c p) : WalkAt ks i 1 p := by
  have hk := List.getElem?_eq_some_iff.1 hc
  refine ⟨h.1, ?_⟩
  rw [List.drop_eq_getElem_cons hk.1, hk.2]
  exact h.2
theorem walk_none {ks : List Nat} {i c k p : Nat} (hc : ks[i]? = some c) (hk : k < c) (h : WalkAt ks (i + 1) k p) (hn : (eat (ks.drop p) 1).isSome = false) : (eat (ks.drop i) 1).isSome = false := by
  have hk' := List.getElem?_eq_some_iff.1 hc
  rw [List.drop_eq_getElem_cons hk'.1, hk'.2]
  show (eat (ks.drop (i + 1)) c).isSome = false
  rw [show c = k + (1 + (c - k - 1)) by omega, eat_add, h.2]
  show (eat (ks.drop p) (1 + (c - k - 1))).isSome = false
  rw [eat_add]
  cases hq : eat (ks.drop p) 1 with
  | none => rfl
  | some r => rw [hq] at hn; cases hn
theorem walk_out {ks : List Nat} {i : Nat} (hi : ks.length ≤ i) : (eat (ks.drop i) 1).isSome = false := by
  rw [List.drop_of_length_le hi]; rfl
/-- Numbers as values. -/
def natV (l : List Nat) : List Value := l.map fun q : Nat => Value.int .i64 (q : Int)
theorem natV_len (l : List Nat) : (natV l).length = l.length := by unfold natV; rw [List.length_map]
theorem natV_at {l : List Nat} {j q : Nat} (h : l[j]? = some q) : (natV l)[j]? = some (.int .i64 (q : Int)) := by unfold natV; rw [List.getElem?_map, h]; rfl
theorem natV_set (l : List Nat) (j q : Nat) : (natV l).set j (.int .i64 (q : Int)) = natV (l.set j q) := by unfold natV; rw [List.map_set]
end Go.Proofs.YtdiinlmeoifgjaaGreatDoor
