/- scopes.Of. -/
import Derived.Test.YtbkkmcfpjpbhaaaSi
import Derived.Sort.OwnSortedInts
import Derived.Sort.OwnSorted
import Derived.Lib.RowBridge
namespace Go.Proofs.Ytbkkmcfpjpbhaaa
open Go.RowKit Go.PlainAid Go.Sort

theorem own_cut {w : World} {B n m : Nat} {e : TypeId} {a : Option Addr} {c : Nat} {xs : List Value} (h : w.ownsRow B e 1 (.slice a n c) n xs) (hm : m ≤ n) : w.ownsRow B e 1 (.slice a m c) m (xs.take m) := by
  obtain ⟨h1, h2⟩ := h
  refine ⟨by rw [List.length_take]; omega, ?_⟩
  rcases h2 with ⟨hv, hn⟩ | ⟨g, cap, cur, hv, hb, hg, hc, hx, hs, ht⟩
  · obtain ⟨rfl, rfl, rfl⟩ := Value.slice.inj hv
    obtain rfl : m = 0 := by omega
    exact .inl ⟨rfl, rfl⟩
  · obtain ⟨rfl, _, rfl⟩ := Value.slice.inj hv
    refine .inr ⟨g, c, cur, rfl, hb, hg, by omega, hx, hs, ?_⟩
    rw [← ht, List.take_take, Nat.mul_one, Nat.mul_one, Nat.min_eq_left hm]
theorem own_form {w : World} {B n z : Nat} {e : TypeId} {v : Value} {xs : List Value} (h : w.ownsRow B e z v n xs) : (v = .slice none 0 0 ∧ n = 0) ∨ ∃ g c, v = .slice (some ⟨g, 0, none⟩) n c ∧ B ≤ g ∧ g < w.heap.size := by
  rcases h.2 with h | ⟨g, cap, cur, hv, hb, hg, _⟩
  · exact .inl h
  · exact .inr ⟨g, cap, hv, hb, (Array.getElem?_eq_some_iff.1 hg).1⟩
theorem own_cap {w : World} {B n z : Nat} {e : TypeId} {a : Option Addr} {c : Nat} {xs : List Value} (h : w.ownsRow B e z (.slice a n c) n xs) : n ≤ c ∧ c ≤ maxLen := by
  rcases h.2 with ⟨hv, hn⟩ | ⟨g, cap, cur, hv, hb, hg, h1, h2, _⟩
  · obtain ⟨_, rfl, rfl⟩ := Value.slice.inj hv; exact ⟨Nat.le_refl _, Nat.zero_le _⟩
  · obtain ⟨_, _, rfl⟩ := Value.slice.inj hv; exact ⟨h1, h2⟩

def intC (l : List Int) : List Value := l.map (Value.int .i64)
/-- The slice value v holds the numbers l. -/
def NumAt (w : World) (v : Value) (l : List Int) : Prop :=
  ∃ a n c, v = .slice a n c ∧ n = l.length ∧ n ≤ c ∧ (l = [] ∨ ∃ g off, a = some ⟨g, off, none⟩ ∧ g < w.heap.size ∧ ∀ (j : Nat) (x : Int), l[j]? = some x → w.cell? ⟨g, off + j, none⟩ = some (.int .i64 x))
theorem NumAt.below {B : Nat} {w w' : World} {v : Value} {l : List Int} (h : NumAt w v l) (hb : Below B w w') (hB : w.heap.size ≤ B) : NumAt w' v l := by
  obtain ⟨a, n, c, e, hn, hc, h⟩ := h
  refine ⟨a, n, c, e, hn, hc, h.imp id ?_⟩
  rintro ⟨g, off, rfl, hg, hcell⟩
  exact ⟨g, off, rfl, Nat.lt_of_lt_of_le hg hb.size, fun j u hj => (hb.cell (p := ⟨g, off + j, none⟩) (by show g < B; omega)).trans (hcell j u hj)⟩
theorem num_own {w : World} {B n : Nat} {v : Value} {l : List Int} (h : w.ownsRow B 3 1 v n (intC l)) (hn : l.length = n) : NumAt w v l := by
  rcases own_form h with ⟨rfl, h0⟩ | ⟨g, c, rfl, h1, h2⟩
  · exact ⟨none, 0, 0, rfl, by omega, Nat.le_refl _, .inl (List.length_eq_zero_iff.1 (by omega))⟩
  · have hc := (own_cap h).1
    refine ⟨_, n, c, rfl, hn.symm, hc, .inr ⟨g, 0, rfl, h2, fun j x hj => ?_⟩⟩
    have := h.cells (g := g) rfl j (.int .i64 x) (by unfold intC; rw [List.getElem?_map, hj]; rfl)
    rw [Go.WideShapes.add_plain] at this; exact this
theorem num_nat {w : World} {v : Value} {l : List Nat} (h : NumAt w v (l.map fun n : Nat => (n : Int))) : NatAt w v l := by
  obtain ⟨a, n, c, e, hn, hc, h⟩ := h
  refine ⟨a, n, c, e, by rw [hn, List.length_map], hc, ?_⟩
  rcases h with h | ⟨g, off, e2, hg, hcell⟩
  · exact .inl (by simpa using h)
  · exact .inr ⟨g, off, e2, hg, fun j x hj => hcell j x (by rw [List.getElem?_map, hj]; rfl)⟩
theorem leI_eq : (fun x y : Int => decide (x ≤ y)) = leI := rfl
-- MARK8
end Go.Proofs.Ytbkkmcfpjpbhaaa
