/- scopes.setOf; mergeOne, mergeTwo, and the functions that are made of them. -/
import Derived.Test.YtbkkmcfpjpbhaaaSk
namespace Go.Proofs.Ytbkkmcfpjpbhaaa
open Go.RowKit Go.PlainAid

/-- The slice value v holds the scopes l. -/
def NatAt (w : World) (v : Value) (l : List Nat) : Prop :=
  ∃ a n c, v = .slice a n c ∧ n = l.length ∧ n ≤ c ∧ (l = [] ∨ ∃ g off, a = some ⟨g, off, none⟩ ∧ g < w.heap.size ∧ ∀ (j x : Nat), l[j]? = some x → w.cell? ⟨g, off + j, none⟩ = some (.int .i64 (x : Int)))
theorem NatAt.below {B : Nat} {w w' : World} {v : Value} {l : List Nat} (h : NatAt w v l) (hb : Below B w w') (hB : w.heap.size ≤ B) : NatAt w' v l := by
  obtain ⟨a, n, c, e, hn, hc, h⟩ := h
  refine ⟨a, n, c, e, hn, hc, h.imp id ?_⟩
  rintro ⟨g, off, rfl, hg, hcell⟩
  exact ⟨g, off, rfl, Nat.lt_of_lt_of_le hg hb.size, fun j u hj => (hb.cell (p := ⟨g, off + j, none⟩) (by show g < B; omega)).trans (hcell j u hj)⟩
theorem hi_conv {x : Nat} (h : x < 65536) : ((hiB x).toNat : Int) = (x : Int) / 256 ∧ ((loB x).toNat : Int) = (x : Int) % 256 := by
  rw [hi_nat h, lo_nat]; omega
-- MARK8
end Go.Proofs.Ytbkkmcfpjpbhaaa
