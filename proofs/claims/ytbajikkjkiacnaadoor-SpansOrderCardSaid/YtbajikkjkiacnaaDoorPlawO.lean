/- For the law SpansOrder: its argument opened; the boxes of three spans that are made in any order. -/
import Derived.Test.YtbajikkjkiacnaaDoorPlawS
namespace Go.Proofs.YtbajikkjkiacnaaDoor
open Go.RowKit Go.PlainAid Go.ChangeShapes Go.WideShapes Go.ChangeAt

set_option maxRecDepth 100000 in
theorem open_three {H : Type} {enc : TypeId × Value → H} {W : World} {base : Nat} {v : Value} {d : DataW H} {p : List MemPlace}
    (hval : Value.okWide Tryd.prog W .any base 55 v) (h : DataW.Trod enc Tryd.prog W 0 (fun _ => true) true 55 v d p) :
    ∃ s : Sp × Sp × Sp, v = .agg #[.int .i64 s.1.1, .int .i64 s.1.2, .int .i64 s.2.1.1, .int .i64 s.2.1.2, .int .i64 s.2.2.1, .int .i64 s.2.2.2] := by
  obtain ⟨cs, rfl, hsz⟩ := okWide_struct Tryd.underlying55 hval
  obtain ⟨fuel, hf⟩ := h
  obtain ⟨xs, n, _, _, hl, hlen, hg⟩ := DataW.trod_struct Tryd.underlying55 hf
  have hc : Tryd.prog.cellsOf 55 = 6 := by kernel_rfl
  obtain ⟨l⟩ := cs
  have hl6 : l.length = 6 := by rw [hc] at hl; simpa [Value.cells] using hl
  match l, hl6, xs, hlen with
  | [c0, c1, c2, c3, c4, c5], _, [x0, x1, x2], _ =>
    have g0 := hg 0 _ rfl
    have g1 := hg 1 _ rfl
    have g2 := hg 2 _ rfl
    simp only [Value.cells] at g0 g1 g2
    obtain ⟨a0, a1, e0⟩ := sp_cells g0
    obtain ⟨b0, b1, e1⟩ := sp_cells g1
    obtain ⟨d0, d1, e2⟩ := sp_cells g2
    simp at e0 e1 e2
    obtain ⟨rfl, rfl⟩ := e0
    obtain ⟨rfl, rfl⟩ := e1
    obtain ⟨rfl, rfl⟩ := e2
    exact ⟨((a0, a1), (b0, b1), (d0, d1)), rfl⟩

/-- Six cells in a box. -/
theorem six_box (w : World) (a b c d x y : Value) (t : TypeId) : (w.alloc (.cells #[a, b, c, d, x, y] t)).heap[w.heap.size]? = some (.cells #[a, b, c, d, x, y] t (0, 0)) := World.alloc_heap_new _ _
theorem six_facts {W : World} {n : Nat} {a b c d x y : Value} {t : TypeId} (h : W.heap[n]? = some (.cells #[a, b, c, d, x, y] t (0, 0))) :
    W.cell? ⟨n, 0, none⟩ = some a ∧ W.cell? ⟨n, 1, none⟩ = some b ∧ W.cell? ⟨n, 2, none⟩ = some c ∧ W.cell? ⟨n, 3, none⟩ = some d ∧ W.cell? ⟨n, 4, none⟩ = some x ∧ W.cell? ⟨n, 5, none⟩ = some y := by
  refine ⟨?_, ?_, ?_, ?_, ?_, ?_⟩ <;> simp [World.cell?, h]

theorem perm1 (w : World) (c : Array Value) (t : TypeId) (p q : Obj) : (((w.alloc (.cells c t)).alloc p).alloc q).drew.heap[w.heap.size]? = some (.cells c t (0, 0)) := by
  show (((w.alloc (.cells c t)).alloc p).alloc q).heap[w.heap.size]? = _
  rw [Below.heap_alloc _ _ _ (by simp; omega), Below.heap_alloc _ _ _ (by simp), World.alloc_heap_new]
theorem perm2 (w : World) (c : Array Value) (t : TypeId) (p q : Obj) : (((w.alloc p).alloc (.cells c t)).alloc q).drew.heap[w.heap.size + 1]? = some (.cells c t (0, 0)) := by
  show (((w.alloc p).alloc (.cells c t)).alloc q).heap[w.heap.size + 1]? = _
  rw [Below.heap_alloc _ _ _ (by simp)]
  have := World.alloc_heap_new (w.alloc p) (.cells c t)
  rw [World.size_alloc] at this; exact this
theorem perm3 (w : World) (c : Array Value) (t : TypeId) (p q : Obj) : (((w.alloc p).alloc q).alloc (.cells c t)).drew.heap[w.heap.size + 1 + 1]? = some (.cells c t (0, 0)) := by
  show (((w.alloc p).alloc q).alloc (.cells c t)).heap[w.heap.size + 1 + 1]? = _
  have := World.alloc_heap_new ((w.alloc p).alloc q) (.cells c t)
  simp only [World.size_alloc] at this; exact this
theorem perm_below {w W : World} (h : Below w.heap.size w W) (p q r : Obj) : Below w.heap.size w (((W.alloc p).alloc q).alloc r).drew := drew_below (((h.alloc h.size p).alloc (by have := h.size; simp; omega) q).alloc (by have := h.size; simp; omega) r)

end Go.Proofs.YtbajikkjkiacnaaDoor
