/- Patterns: the stack of lists of the walk (mathematics, cells). -/
import Derived.Test.YtdiinlmeoifgjaaGreatDoorHi
namespace Go.Proofs.YtdiinlmeoifgjaaGreatDoor
open Go.RowKit Go.PlainAid

def frC (z : Fr) : List Value := [.int .i64 (z.1 : Int), .int .i64 (z.2.1 : Int), .int .i64 (z.2.2.1 : Int), .bool z.2.2.2]
/-- The stack as cells, its top last. -/
def frS (st : List Fr) : List Value := st.reverse.flatMap frC
theorem frS_cons (z : Fr) (r : List Fr) : frS (z :: r) = frS r ++ frC z := by unfold frS; rw [List.reverse_cons, List.flatMap_append, List.flatMap_cons, List.flatMap_nil, List.append_nil]
theorem frS_len (st : List Fr) : (frS st).length = st.length * 4 := by
  induction st with
  | nil => rfl
  | cons z r ih => rw [frS_cons, List.length_append, ih, List.length_cons]; show _ + 4 = _; omega
theorem one_frC (z : Fr) : ∀ u ∈ frC z, u.oneCell' = true := by
  intro u hu; unfold frC at hu; simp at hu; rcases hu with rfl | rfl | rfl | rfl <;> rfl
theorem frS_top (z : Fr) (r : List Fr) {j : Nat} {u : Value} (h : (frC z)[j]? = some u) : (frS (z :: r))[r.length * 4 + j]? = some u := by
  rw [frS_cons, List.getElem?_append_right (by rw [frS_len]; omega), frS_len, Nat.add_sub_cancel_left]; exact h
theorem frS_dots (f e d : Nat) (b b' : Bool) (r : List Fr) : (frS ((f, e, d, b) :: r)).set (r.length * 4 + 3) (.bool b') = frS ((f, e, d, b') :: r) := by
  rw [frS_cons, frS_cons, List.set_append_right _ _ (by rw [frS_len]; omega), frS_len, Nat.add_sub_cancel_left]; rfl
theorem frS_cut (z : Fr) (r : List Fr) : (frS (z :: r)).take (r.length * 4) = frS r := by
  rw [frS_cons, List.take_left' (frS_len r)]
theorem own_cutF {w : World} {B n m : Nat} {e : TypeId} {a : Option Addr} {c : Nat} {xs : List Value} (h : w.ownsRow B e 4 (.slice a n c) n xs) (hm : m ≤ n) : w.ownsRow B e 4 (.slice a m c) m (xs.take (m * 4)) := by
  obtain ⟨h1, h2⟩ := h
  refine ⟨by rw [List.length_take]; omega, ?_⟩
  rcases h2 with ⟨hv, hn⟩ | ⟨g, cap, cur, hv, hb, hg, hc, hx, hs, ht⟩
  · obtain ⟨rfl, rfl, rfl⟩ := Value.slice.inj hv
    obtain rfl : m = 0 := by omega
    exact .inl ⟨rfl, rfl⟩
  · obtain ⟨rfl, _, rfl⟩ := Value.slice.inj hv
    refine .inr ⟨g, c, cur, rfl, hb, hg, by omega, hx, hs, ?_⟩
    rw [← ht, List.take_take, Nat.min_eq_left (Nat.mul_le_mul_right 4 hm)]
/-- The stack at i: its lists, and what bounds their numbers. -/
structure StOk (n i : Nat) (st : List Fr) : Prop where
  ne : st ≠ []
  last : ∀ z, st.getLast? = some z → z.2.1 = n
  bd : ∀ z ∈ st, z.1 ≤ n ∧ z.2.1 ≤ n ∧ z.2.2.1 ≤ i
  len : st.length ≤ i + 1
theorem StOk.start {n : Nat} (h : 2 ≤ n) : StOk n 2 [(2, n, 0, false)] := by
  refine ⟨by simp, fun z hz => ?_, fun z hz => ?_, by simp⟩
  · simp at hz; rw [← hz]
  · rw [List.mem_singleton.1 hz]; exact ⟨h, Nat.le_refl _, Nat.zero_le _⟩
theorem popS_pop {i : Nat} {z : Fr} {r : List Fr} (h : z.2.1 = i) : popS i (z :: r) = popS i r := by rw [popS, if_pos h]
theorem popS_top {i : Nat} {z : Fr} {r : List Fr} (h : z.2.1 ≠ i) : popS i (z :: r) = z :: r := by rw [popS, if_neg h]
theorem StOk.pop {n i : Nat} {z : Fr} {r : List Fr} (h : StOk n i (z :: r)) (hi : i < n) (hz : z.2.1 = i) : StOk n i r := by
  have hr : r ≠ [] := by
    rintro rfl
    have := h.last z rfl; omega
  refine ⟨hr, fun y hy => h.last y ?_, fun y hy => h.bd y (by simp [hy]), ?_⟩
  · rw [List.getLast?_cons, hy]; rfl
  · have := h.len; rw [List.length_cons] at this; omega
theorem StOk.next {p : List Sx} {n i : Nat} {z : Fr} {r : List Fr} (h : StOk n i (z :: r)) (he : endX p i ≤ n) (hi : i < n) : StOk n (i + 1) (nxS p i (z :: r)) := by
  have hz := h.bd z (by simp)
  have hd : dpt p i z.2.1 z.2.2.1 ≤ i + 1 := by unfold dpt; split <;> omega
  have hbd : ∀ y ∈ ((z.1, z.2.1, z.2.2.1, z.2.2.2 || dotAt p i) :: r : List Fr), y.1 ≤ n ∧ y.2.1 ≤ n ∧ y.2.2.1 ≤ i + 1 := fun y hy => by
    rcases List.mem_cons.1 hy with rfl | hy
    · exact ⟨hz.1, hz.2.1, by show z.2.2.1 ≤ _; omega⟩
    · have := h.bd y (by simp [hy]); omega
  have hlast : ∀ y, ((z.1, z.2.1, z.2.2.1, z.2.2.2 || dotAt p i) :: r : List Fr).getLast? = some y → y.2.1 = n := fun y hy => by
    cases r with
    | nil => simp at hy; rw [← hy]; exact h.last z rfl
    | cons x r =>
      rw [List.getLast?_cons_cons] at hy
      exact h.last y (by rw [List.getLast?_cons_cons]; exact hy)
  have hlen := h.len
  rw [List.length_cons] at hlen
  unfold nxS
  cases lstAt p i with
  | false => exact ⟨by simp, hlast, hbd, by simp; omega⟩
  | true =>
    refine ⟨by simp, fun y hy => hlast y ?_, fun y hy => ?_, by simp; omega⟩
    · simp only [if_true, List.cons_append, List.nil_append] at hy
      rw [List.getLast?_cons_cons] at hy; exact hy
    · simp only [if_true, List.cons_append, List.nil_append] at hy
      rcases List.mem_cons.1 hy with rfl | hy
      · exact ⟨by show i + 1 ≤ n; omega, he, hd⟩
      · exact hbd y hy
theorem spM_top {p : List Sx} {n i : Nat} {st : List Fr} {z : Fr} {r : List Fr} (hi : i < n) (h : popS i st = z :: r) :
    spM p (n - i) i st = (i, dpt p i z.2.1 z.2.2.1, z.2.2.2 || decide (i = z.1)) :: spM p (n - (i + 1)) (i + 1) (nxS p i (z :: r)) := by
  rw [show n - i = (n - (i + 1)) + 1 by omega, spM, h]
/-- What is yielded. -/
def encS (x : Spt) : Array Value := #[.int .i64 (x.1 : Int), .agg #[.int .i64 (x.2.1 : Int), .bool x.2.2]]
end Go.Proofs.YtdiinlmeoifgjaaGreatDoor
