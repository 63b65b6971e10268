/- Patterns: what read keeps while it ranges over the spots. -/
import Derived.Test.YtdiinlmeoifgjaaGreatDoorHj
namespace Go.Proofs.YtdiinlmeoifgjaaGreatDoor
open Go.RowKit Go.PlainAid

theorem set1 {W : World} {n : Nat} {x : Value} {t : TypeId} {fr : Nat × Nat} (v : Value) (h : W.heap[n]? = some (.cells #[x] t fr)) : (W.setCell ⟨n, 0, none⟩ v).heap[n]? = some (.cells #[v] t fr) := by
  simp [World.setCell, Array.getElem?_modify, h]
theorem set1o {W : World} {n k : Nat} {o : Option Obj} (v : Value) (hne : k ≠ n) (h : W.heap[k]? = o) : (W.setCell ⟨n, 0, none⟩ v).heap[k]? = o := (Below.heap_setCell _ _ _ _ hne).trans h
/-- The blocks of read. -/
def RdC (A mm : Nat) (v : Value) : Nat → Prop := fun r => r = A + 1 ∨ r = A + 2 ∨ r = A + 3 ∨ r = mm ∨ v.ownBlock = some r
structure RdS (A mm D : Nat) (p : List Sx) (L : List Pid) (w0 : World) (pre : List Spt) (vs : List Pv) (v : Value) (W : World) : Prop where
  b1 : W.heap[A + 1]? = some (.cells #[v] 30 (0, 0))
  b2 : W.heap[A + 2]? = some (.cells #[.int .i64 0] 3 (0, 0))
  b3 : W.heap[A + 3]? = some (.cells #[.int .i64 0] 27 (0, 0))
  own : W.ownsRow (D + 2) 45 3 v vs.length (vcs vs)
  map : MapB W mm (vs.map (·.1))
  sm : SmL (vs.map (·.1))
  rd : ∀ rest, spP p = pre ++ rest → rdF p L [] (spP p) = rdF p L vs rest
  len : vs.length ≤ pre.length
  lo : D ≤ W.heap.size
  old : ∀ b, b < D → b ≠ A + 1 → b ≠ A + 2 → b ≠ A + 3 → b ≠ mm → W.heap[b]? = w0.heap[b]?
  bel : Below A w0 W
structure RdE (A mm D : Nat) (p : List Sx) (L : List Pid) (w0 : World) (v : Value) (W : World) : Prop where
  ex : ∃ (vs : List Pv) (i : Nat) (e : Int), e ≠ 0 ∧ rdF p L [] (spP p) = (vs, i, e) ∧ W.heap[A + 2]? = some (.cells #[.int .i64 (i : Int)] 3 (0, 0)) ∧ W.heap[A + 3]? = some (.cells #[.int .i64 e] 27 (0, 0))
  b1 : W.heap[A + 1]? = some (.cells #[v] 30 (0, 0))
  own : ∀ r, v.ownBlock = some r → D + 2 ≤ r ∧ r < W.heap.size
  lo : D ≤ W.heap.size
  bel : Below A w0 W
def RdI (A mm D : Nat) (p : List Sx) (L : List Pid) (w0 : World) (pre : List Spt) (C : Nat → Prop) (W : World) : Prop := ∃ vs v, C = RdC A mm v ∧ RdS A mm D p L w0 pre vs v W
def RdX (A mm D : Nat) (p : List Sx) (L : List Pid) (w0 : World) (c : Code) (_pre : List Spt) (C : Nat → Prop) (W : World) : Prop := c = .exit 2 ∧ ∃ v, C = RdC A mm v ∧ RdE A mm D p L w0 v W
section
variable {A mm D : Nat} {p : List Sx} {L : List Pid} {w0 : World}
theorem RdS.grown {pre : List Spt} {vs : List Pv} {v : Value} {W W' : World} (h : RdS A mm D p L w0 pre vs v W) (hA : A + 4 ≤ mm) (hm : mm + 2 ≤ D) {row : Option Nat} (hg : W.grownBy W' row) (hr : ∀ r, row = some r → D ≤ r ∧ ¬ RdC A mm v r) : RdS A mm D p L w0 pre vs v W' := by
  have hlo := h.lo
  have hb : ∀ b, b < D → W'.heap[b]? = W.heap[b]? := fun b hb => hg.block b (by omega) (fun e => by have := (hr b e.symm).1; omega)
  refine ⟨(hb _ (by omega)).trans h.b1, (hb _ (by omega)).trans h.b2, (hb _ (by omega)).trans h.b3, h.own.kept hg ?_, h.map.same (hb _ (by omega)), h.sm, h.rd, h.len, Nat.le_trans hlo hg.size, fun b h1 h2 h3 h4 h5 => (hb b h1).trans (h.old b h1 h2 h3 h4 h5), h.bel.grown hg (by omega) (fun r e => by have := (hr r e).1; omega)⟩
  cases hv : v.ownBlock with
  | none => exact .inl rfl
  | some r => exact .inr fun e => (hr r e.symm).2 (.inr (.inr (.inr (.inr hv))))
theorem RdI_bears (hA : A + 4 ≤ mm) (hm : mm + 2 ≤ D) : BearsC D (RdI A mm D p L w0) := by
  rintro s C W W' row ⟨vs, v, rfl, h⟩ hg hr
  exact ⟨vs, v, rfl, h.grown hA hm hg hr⟩
theorem RdX_bears (hA : A + 4 ≤ mm) (hm : mm + 2 ≤ D) (c : Code) : BearsC D (RdX A mm D p L w0 c) := by
  rintro s C W W' row ⟨hc, v, rfl, h⟩ hg hr
  have hlo := h.lo
  have hb : ∀ b, b < D → W'.heap[b]? = W.heap[b]? := fun b hb => hg.block b (by omega) (fun e => by have := (hr b e.symm).1; omega)
  obtain ⟨vs, i, e, h1, h2, h3, h4⟩ := h.ex
  exact ⟨hc, v, rfl, ⟨⟨vs, i, e, h1, h2, (hb _ (by omega)).trans h3, (hb _ (by omega)).trans h4⟩, (hb _ (by omega)).trans h.b1, fun r e => ⟨(h.own r e).1, Nat.lt_of_lt_of_le (h.own r e).2 hg.size⟩, Nat.le_trans hlo hg.size, h.bel.grown hg (by omega) (fun r e => by have := (hr r e).1; omega)⟩⟩
theorem RdI_C (hA : A + 4 ≤ mm) (hm : mm + 2 ≤ D) (s : List Spt) (C : Nat → Prop) (W : World) (h : RdI A mm D p L w0 s C W) (r : Nat) (hr : C r) : r < W.heap.size ∧ r ≠ D ∧ r ≠ D + 1 := by
  obtain ⟨vs, v, rfl, h⟩ := h
  have hlo := h.lo
  rcases hr with rfl | rfl | rfl | rfl | e
  · omega
  · omega
  · omega
  · omega
  · have := h.own.lt r e; omega
theorem RdX_C (hA : A + 4 ≤ mm) (hm : mm + 2 ≤ D) (c : Code) (s : List Spt) (C : Nat → Prop) (W : World) (h : RdX A mm D p L w0 c s C W) (r : Nat) (hr : C r) : r < W.heap.size ∧ r ≠ D ∧ r ≠ D + 1 := by
  obtain ⟨_, v, rfl, h⟩ := h
  have hlo := h.lo
  rcases hr with rfl | rfl | rfl | rfl | e
  · omega
  · omega
  · omega
  · omega
  · have := h.own r e; omega
/-- Behind a round that kept all. -/
theorem RdS.skip {pre : List Spt} {vs : List Pv} {v : Value} {W W' : World} {x : Spt} (h : RdS A mm D p L w0 pre vs v W) (hA : A + 4 ≤ mm) (hm : mm + 2 ≤ D) (hb : Below W.heap.size W W') (P₀ : Nat → Prop) (hP : ∀ b, P₀ b → b < W.heap.size)
    (hr : ∀ rest, spP p = (pre ++ [x]) ++ rest → rdF p L vs (x :: rest) = rdF p L vs rest) : ∃ C', KeepsC P₀ D (RdC A mm v) C' W W' ∧ RdI A mm D p L w0 (pre ++ [x]) C' W' := by
  have h2 := h.grown hA hm (row := none) (grown_noneH hb) (fun r e => by cases e)
  refine ⟨RdC A mm v, KeepsC.below hb hP, vs, v, rfl, { h2 with rd := fun rest e => ?_, len := by have := h.len; rw [List.length_append]; simp; omega }⟩
  rw [← hr rest e]
  exact h.rd (x :: rest) (by rw [e, List.append_assoc]; rfl)
/-- A round that ends with an error. -/
theorem RdS.stop {pre : List Spt} {vs : List Pv} {v : Value} {W W' : World} {x : Spt} {i : Nat} {e : Int} (h : RdS A mm D p L w0 pre vs v W) (hA : A + 4 ≤ mm) (hm : mm + 2 ≤ D) (hb : Below W.heap.size W W') (P₀ : Nat → Prop) (hP : ∀ b, P₀ b → b < W.heap.size ∧ b ≠ A + 2 ∧ b ≠ A + 3) (hin : pre ++ [x] <+: spP p)
    (he : e ≠ 0) (hr : ∀ rest, rdF p L vs (x :: rest) = (vs, i, e)) : ∃ C', KeepsC P₀ D (RdC A mm v) C' W ((W'.setCell ⟨A + 2, 0, none⟩ (.int .i64 (i : Int))).setCell ⟨A + 3, 0, none⟩ (.int .i64 e)) ∧ RdX A mm D p L w0 (.exit 2) (pre ++ [x]) C' ((W'.setCell ⟨A + 2, 0, none⟩ (.int .i64 (i : Int))).setCell ⟨A + 3, 0, none⟩ (.int .i64 e)) := by
  have h2 := h.grown hA hm (row := none) (grown_noneH hb) (fun r e => by cases e)
  have hlo := h.lo
  have hlo2 := h2.lo
  have hsz : ((W'.setCell ⟨A + 2, 0, none⟩ (.int .i64 (i : Int))).setCell ⟨A + 3, 0, none⟩ (.int .i64 e)).heap.size = W'.heap.size := by rw [World.size_setCell, World.size_setCell]
  refine ⟨RdC A mm v, ⟨by rw [hsz]; exact hb.size, fun r hr' => ?_, fun _ _ h => h⟩, rfl, v, rfl, ⟨⟨vs, i, e, he, ?_, ?_, ?_⟩, ?_, fun r e => by rw [hsz]; have := h2.own.lt r e; omega, by rw [hsz]; exact hlo2, ?_⟩⟩
  · have h1 : r < W.heap.size ∧ r ≠ A + 2 ∧ r ≠ A + 3 := by
      rcases hr' with hr' | ⟨a1, a2, a3⟩
      · exact hP r hr'
      · exact ⟨a2, fun e => a3 (.inr (.inl e)), fun e => a3 (.inr (.inr (.inl e)))⟩
    exact (Below.heap_setCell _ _ _ _ h1.2.2).trans ((Below.heap_setCell _ _ _ _ h1.2.1).trans (hb.block r h1.1))
  · obtain ⟨rest, hrest⟩ := hin
    rw [h.rd (x :: rest) (by rw [← hrest, List.append_assoc]; rfl)]; exact hr rest
  · exact set1o _ (by omega) (set1 _ h2.b2)
  · exact set1 _ (set1o _ (by omega) h2.b3)
  · exact set1o _ (by omega) (set1o _ (by omega) h2.b1)
  · exact (h2.bel.setCell (by show A ≤ A + 2; omega) _).setCell (by show A ≤ A + 3; omega) _
/-- A round that finds a variable. -/
theorem RdS.more {pre : List Spt} {vs : List Pv} {v v' : Value} {W W1 W2 W3 : World} {x : Spt} {q : Pid} {d : Nat} {o : Obj} (h : RdS A mm D p L w0 pre vs v W) (hA : A + 4 ≤ mm) (hm : mm + 2 ≤ D) (hD : D + 2 ≤ W.heap.size) (hb : Below W.heap.size W W1) (P₀ : Nat → Prop) (hP : ∀ b, P₀ b → b < D ∧ b ≠ A + 1 ∧ b ≠ A + 2 ∧ b ≠ A + 3 ∧ b ≠ mm)
    (hg2 : W1.grownBy W2 (some mm)) (hm2 : MapB W2 mm (vs.map (·.1) ++ [q])) (hq : q.1.length ≤ 100000 ∧ q.2.length ≤ 100000)
    (hg3 : (W2.alloc o).grownBy W3 v.ownBlock) (ho3 : W3.ownsRow (D + 2) 45 3 v' (vs.length + 1) (vcs vs ++ pvC (q, d))) (hat : v'.ownBlock = v.ownBlock ∨ v'.ownBlock = some (W2.alloc o).heap.size)
    (hr : ∀ rest, rdF p L vs (x :: rest) = rdF p L (vs ++ [(q, d)]) rest) : ∃ C', KeepsC P₀ D (RdC A mm v) C' W (W3.setCell ⟨A + 1, 0, none⟩ v') ∧ RdI A mm D p L w0 (pre ++ [x]) C' (W3.setCell ⟨A + 1, 0, none⟩ v') := by
  have hlo := h.lo
  have hs1 := hb.size
  have hs2 := hg2.size
  have hs3 := hg3.size
  rw [World.size_alloc] at hs3 hat
  have hsz : (W3.setCell ⟨A + 1, 0, none⟩ v').heap.size = W3.heap.size := World.size_setCell _ _ _
  have hblk : ∀ r, r < W.heap.size → r ≠ mm → v.ownBlock ≠ some r → W3.heap[r]? = W.heap[r]? := fun r h1 h2 h3 =>
    (hg3.block r (by rw [World.size_alloc]; omega) (fun e => h3 e.symm)).trans ((Below.heap_alloc _ _ _ (by omega)).trans ((hg2.block r (by omega) (fun e => h2 (Option.some.inj e))).trans (hb.block r h1)))
  have hvb : ∀ r, r < D + 2 → v.ownBlock ≠ some r := fun r h1 e => by have := (h.own.lt r e).1; omega
  have hmap3 : MapB W3 mm (vs.map (·.1) ++ [q]) := by
    have hml := hm2.lt
    exact hm2.same ((hg3.block mm (by rw [World.size_alloc]; omega) (fun e => hvb mm (by omega) e.symm)).trans (Below.heap_alloc _ _ _ hml))
  refine ⟨RdC A mm v', ⟨by rw [hsz]; omega, fun r hr' => ?_, fun r h1 h2 h3 => ?_⟩, vs ++ [(q, d)], v', rfl, ⟨?_, ?_, ?_, ?_, ?_, ?_, fun rest e => ?_, ?_, by rw [hsz]; omega, fun b h1 h2 h3 h4 h5 => ?_, ?_⟩⟩
  · have h1 : r < W.heap.size ∧ r ≠ A + 1 ∧ r ≠ mm ∧ v.ownBlock ≠ some r := by
      rcases hr' with hr' | ⟨a1, a2, a3⟩
      · obtain ⟨y1, y2, y3, y4, y5⟩ := hP r hr'
        exact ⟨by omega, y2, y5, hvb r (by omega)⟩
      · exact ⟨a2, fun e => a3 (.inl e), fun e => a3 (.inr (.inr (.inr (.inl e)))), fun e => a3 (.inr (.inr (.inr (.inr e))))⟩
    exact (Below.heap_setCell _ _ _ _ h1.2.1).trans (hblk r h1.1 h1.2.2.1 h1.2.2.2)
  · rcases h3 with h3 | h3 | h3 | h3 | h3
    · exact h2 (.inl h3)
    · exact h2 (.inr (.inl h3))
    · exact h2 (.inr (.inr (.inl h3)))
    · exact h2 (.inr (.inr (.inr (.inl h3))))
    · rcases hat with e | e
      · exact h2 (.inr (.inr (.inr (.inr (by rw [← e]; exact h3)))))
      · rw [e] at h3; have := Option.some.inj h3; omega
  · exact set1 _ ((hblk _ (by omega) (by omega) (hvb _ (by omega))).trans h.b1)
  · exact set1o _ (by omega) ((hblk _ (by omega) (by omega) (hvb _ (by omega))).trans h.b2)
  · exact set1o _ (by omega) ((hblk _ (by omega) (by omega) (hvb _ (by omega))).trans h.b3)
  · have hne : ∀ g, v'.ownBlock = some g → g ≠ A + 1 := fun g e => by have := (ho3.lt g e).1; omega
    rw [List.length_append, vcs_app, vcs_one]
    refine ho3.kept (set_grown W3 (A + 1) 0 v') ?_
    cases hv : v'.ownBlock with
    | none => exact .inl rfl
    | some g => exact .inr fun e => hne g hv (Option.some.inj e)
  · rw [List.map_append]; exact hmap3.same (Below.heap_setCell _ _ _ _ (by show mm ≠ A + 1; omega))
  · intro z hz
    rw [List.map_append] at hz
    rcases List.mem_append.1 hz with hz | hz
    · exact h.sm z hz
    · simp at hz; rw [hz]; exact hq
  · rw [← hr rest]; exact h.rd (x :: rest) (by rw [e, List.append_assoc]; rfl)
  · have := h.len; rw [List.length_append, List.length_append]; simp; omega
  · exact (Below.heap_setCell _ _ _ _ h2).trans ((hblk b (by omega) h5 (hvb b (by omega))).trans (h.old b h1 h2 h3 h4 h5))
  · have hb1 : Below A w0 W2 := (h.bel.trans (hb.mono (by omega))).grown hg2 (by omega) (fun r e => by have := Option.some.inj e; omega)
    refine (((hb1.alloc (by omega) o).grown hg3 (by rw [World.size_alloc]; omega) (fun r e => by have := (h.own.lt r e).1; omega))).setCell (by show A ≤ A + 1; omega) _
end
end Go.Proofs.YtdiinlmeoifgjaaGreatDoor
