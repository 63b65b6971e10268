/- What the laws of layer 2 lean on: the tables; and what 'awake' returns. -/
import Derived.Test.YtbajikkjkiacnaaDoorRref7
namespace Go.Proofs.YtbajikkjkiacnaaDoor
open Go.RowKit Go.PlainAid

/-- A new row of one-cell elements. -/
theorem row_new (W : World) (cs : List Value) (a : Array Value) (t : TypeId) (n cap : Nat) (ha : a = cs.toArray) (hn : n = cs.length) : RowAt (W.alloc (.cells a t)) (.slice (some ⟨W.heap.size, 0, none⟩) n cap) cs := by
  subst ha hn
  refine .inr ⟨_, 0, _, cap, rfl, rfl, by simp, fun j u h => ?_⟩
  rw [Nat.zero_add, World.cell?_alloc_new, List.getElem?_toArray, h]
theorem below_alloc {W W' : World} {o : Obj} (h : Below (W.alloc o).heap.size (W.alloc o) W') : Below W.heap.size W W' :=
  ((Below.refl _ W).alloc (Nat.le_refl _) o).trans (h.mono (by simp))

end Go.Proofs.YtbajikkjkiacnaaDoor
