/- Layer 3: boxes behind draws. -/
import Derived.Test.YtbajikkjkiacnaaDoorPcover
import Derived.Deep.DeepCutAuto
import Derived.Deep.CutBlock
import Derived.Deep.RegionHeld3
namespace Go.Proofs.YtbajikkjkiacnaaDoor
open Go.RowKit Go.PlainAid

theorem drewB {B : Nat} {w W : World} (h : Below B w W) : Below B w W.drew := ⟨h.os, h.tape, h.output, h.size, h.block⟩
theorem bothA (w : World) (c : Array Value) (t : TypeId) (p : Obj) : ((w.alloc (.cells c t)).alloc p).drew.heap[w.heap.size]? = some (.cells c t (0, 0)) := by
  show ((w.alloc (.cells c t)).alloc p).heap[w.heap.size]? = _
  rw [Below.heap_alloc _ _ _ (by simp), World.alloc_heap_new]
theorem bothB (w : World) (c : Array Value) (t : TypeId) (p : Obj) : ((w.alloc p).alloc (.cells c t)).drew.heap[w.heap.size + 1]? = some (.cells c t (0, 0)) := by
  show ((w.alloc p).alloc (.cells c t)).heap[w.heap.size + 1]? = _
  have := World.alloc_heap_new (w.alloc p) (.cells c t)
  rw [World.size_alloc] at this; exact this
theorem bothC {w W : World} (h : Below w.heap.size w W) (p q : Obj) : Below w.heap.size w ((W.alloc p).alloc q).drew := drewB ((h.alloc h.size p).alloc (by have := h.size; simp; omega) q)
end Go.Proofs.YtbajikkjkiacnaaDoor
