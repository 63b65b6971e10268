/- Patterns: what the walk over the spots keeps in memory. -/
import Derived.Test.YtdiinlmeoifgjaaGreatDoorHja
namespace Go.Proofs.YtdiinlmeoifgjaaGreatDoor
open Go.RowKit Go.PlainAid

structure SpW (B gs m cs ge bs : Nat) (P₀ C : Nat → Prop) (W w2 : World) (J : List Spt → (Nat → Prop) → World → Prop) (pre : List Spt) (d : Nat) (sb : Bool) (st : List Fr) (wx : World) : Prop where
  own : wx.ownsRow B 74 4 (.slice (some ⟨gs, 0, none⟩) m cs) m (frS st)
  box : wx.heap[bs]? = some (.cells #[.int .i64 (d : Int), .bool sb] 59 (0, 0))
  j : J pre C wx
  g : wx.heap[ge]? = w2.heap[ge]?
  pz : ∀ b, P₀ b → wx.heap[b]? = W.heap[b]?
  ge : ge < wx.heap.size
  sz : W.heap.size ≤ wx.heap.size
section
variable {B gs m cs ge bs : Nat} {P₀ C : Nat → Prop} {W w2 : World} {J : List Spt → (Nat → Prop) → World → Prop} {pre : List Spt} {d : Nat} {sb : Bool} {st : List Fr} {wx wy : World}
theorem SpW.grown (h : SpW B gs m cs ge bs P₀ C W w2 J pre d sb st wx) (hJ : BearsC W.heap.size J) (hP : ∀ b, P₀ b → b < W.heap.size) {row : Option Nat} (hg : wx.grownBy wy row) (hr : ∀ r, row = some r → W.heap.size ≤ r ∧ ¬ C r ∧ r ≠ gs ∧ r ≠ bs ∧ r ≠ ge) : SpW B gs m cs ge bs P₀ C W w2 J pre d sb st wy := by
  have hb := (Array.getElem?_eq_some_iff.1 h.box).1
  refine ⟨h.own.kept hg (.inr fun e => (hr gs e.symm).2.2.1 rfl), (hg.block bs hb (fun e => (hr bs e.symm).2.2.2.1 rfl)).trans h.box, hJ _ _ _ _ row h.j hg (fun r e => ⟨(hr r e).1, (hr r e).2.1⟩), (hg.block ge h.ge (fun e => (hr ge e.symm).2.2.2.2 rfl)).trans h.g,
    fun b hb => (hg.block b (Nat.lt_of_lt_of_le (hP b hb) h.sz) (fun e => by have := (hr b e.symm).1; have := hP b hb; omega)).trans (h.pz b hb), Nat.lt_of_lt_of_le h.ge hg.size, Nat.le_trans h.sz hg.size⟩
theorem SpW.below (h : SpW B gs m cs ge bs P₀ C W w2 J pre d sb st wx) (hJ : BearsC W.heap.size J) (hP : ∀ b, P₀ b → b < W.heap.size) (hb : Below wx.heap.size wx wy) : SpW B gs m cs ge bs P₀ C W w2 J pre d sb st wy :=
  h.grown hJ hP (row := none) (grown_noneH hb) (fun r e => by cases e)
theorem set_grown (w : World) (k i : Nat) (u : Value) : w.grownBy (w.setCell ⟨k, i, none⟩ u) (some k) :=
  ⟨rfl, rfl, rfl, by rw [World.size_setCell]; exact Nat.le_refl _, fun b _ hb => Below.heap_setCell _ _ _ _ (fun e => hb (by rw [e]))⟩
theorem SpW.dots {f e dd : Nat} {b b' : Bool} {r : List Fr} (h : SpW B gs m cs ge bs P₀ C W w2 J pre d sb ((f, e, dd, b) :: r) wx) (hJ : BearsC W.heap.size J) (hP : ∀ b, P₀ b → b < W.heap.size) {j : Nat} (hj : r.length = j) (hgW : W.heap.size ≤ gs) (hC : ¬ C gs) (h1 : gs ≠ bs) (h2 : gs ≠ ge) :
    SpW B gs m cs ge bs P₀ C W w2 J pre d sb ((f, e, dd, b') :: r) (wx.setCell ⟨gs, j * 4 + 3, none⟩ (.bool b')) := by
  subst hj
  have hb := (Array.getElem?_eq_some_iff.1 h.box).1
  have hg := set_grown wx gs (r.length * 4 + 3) (.bool b')
  refine ⟨?_, (hg.block bs hb (fun e => h1 (Option.some.inj e).symm)).trans h.box, hJ _ _ _ _ _ h.j hg (fun r e => by cases e; exact ⟨hgW, hC⟩), (hg.block ge h.ge (fun e => h2 (Option.some.inj e).symm)).trans h.g,
    fun b hb => (hg.block b (Nat.lt_of_lt_of_le (hP b hb) h.sz) (fun e => by have := hP b hb; have := Option.some.inj e; omega)).trans (h.pz b hb), Nat.lt_of_lt_of_le h.ge hg.size, Nat.le_trans h.sz hg.size⟩
  have := (h.own.stored (r.length * 4 + 3) (.bool b')).1
  rw [frS_dots] at this; exact this
theorem SpW.deep {d' : Nat} (h : SpW B gs m cs ge bs P₀ C W w2 J pre d sb st wx) (hJ : BearsC W.heap.size J) (hP : ∀ b, P₀ b → b < W.heap.size) (hbW : W.heap.size ≤ bs) (hC : ¬ C bs) (h1 : bs ≠ gs) (h2 : bs ≠ ge) :
    SpW B gs m cs ge bs P₀ C W w2 J pre d' sb st (wx.setCell ⟨bs, 0, none⟩ (.int .i64 (d' : Int))) := by
  have hg := set_grown wx bs 0 (.int .i64 (d' : Int))
  refine ⟨h.own.kept hg (.inr fun e => h1 (Option.some.inj e).symm), ?_, hJ _ _ _ _ _ h.j hg (fun r e => by cases e; exact ⟨hbW, hC⟩), (hg.block ge h.ge (fun e => h2 (Option.some.inj e).symm)).trans h.g,
    fun b hb => (hg.block b (Nat.lt_of_lt_of_le (hP b hb) h.sz) (fun e => by have := hP b hb; have := Option.some.inj e; omega)).trans (h.pz b hb), Nat.lt_of_lt_of_le h.ge hg.size, Nat.le_trans h.sz hg.size⟩
  simp [World.setCell, Array.getElem?_modify, h.box]
/-- The cells of the list on top. -/
theorem SpW.top {f e dd : Nat} {b : Bool} {r : List Fr} (h : SpW B gs m cs ge bs P₀ C W w2 J pre d sb ((f, e, dd, b) :: r) wx) {j : Nat} (hj : r.length = j) :
    wx.cell? ⟨gs, j * 4 + 1, none⟩ = some (.int .i64 (e : Int)) ∧ wx.cell? ⟨gs, j * 4 + 3, none⟩ = some (.bool b) ∧ wx.frozen? ⟨gs, j * 4 + 3, none⟩ = false ∧ wx.cell? ⟨bs, 0, none⟩ = some (.int .i64 (d : Int)) ∧ wx.cell? ⟨bs, 1, none⟩ = some (.bool sb) ∧ wx.frozen? ⟨bs, 0, none⟩ = false := by
  have hcell : ∀ (q : Nat) (u : Value), (frC (f, e, dd, b))[q]? = some u → wx.cell? ⟨gs, j * 4 + q, none⟩ = some u := fun q u hq => by
    have := h.own.cells (g := gs) rfl (j * 4 + q) u (by rw [← hj]; exact frS_top _ r hq)
    rw [Go.WideShapes.add_plain, Nat.zero_add] at this; exact this
  obtain ⟨x0, x1, x2, _⟩ := box2F h.box
  exact ⟨hcell 1 _ rfl, hcell 3 _ rfl, h.own.frozenAt _, x0, x1, x2⟩
end
end Go.Proofs.YtdiinlmeoifgjaaGreatDoor
