/- runes.Count. -/
import Derived.Test.YtemoeohchhpilaaDoorReach
namespace Go.Proofs.YtemoeohchhpilaaDoor
open Go.RowKit Go.Shelf Go.PlainAid

attribute [local go_sem] Oper.semAt_some

theorem set_block {W : World} {b i : Nat} {c : Array Value} {t : TypeId} {fr : Nat × Nat} (v : Value) (h : W.heap[b]? = some (.cells c t fr)) :
    (W.setCell ⟨b, i, none⟩ v).heap[b]? = some (.cells (c.setIfInBounds i v) t fr) := by
  simp [World.setCell, Array.getElem?_modify, h]
theorem set_other {W : World} {b i k : Nat} (v : Value) (h : k ≠ b) : (W.setCell ⟨b, i, none⟩ v).heap[k]? = W.heap[k]? := Below.heap_setCell _ _ _ k h
theorem grown_set (W : World) (b i : Nat) (v : Value) : W.grownBy (W.setCell ⟨b, i, none⟩ v) (some b) :=
  ⟨rfl, rfl, rfl, (KeepsWalks.setCell W _ v).size, fun k _ hk => Below.heap_setCell _ _ _ k (fun e => hk (by rw [e]))⟩
/-- Rows in worlds where their block is as it was. -/
theorem RowAt.keep {A : Nat} {w w' : World} {v : Value} {l : List Value} (h : RowAt w v l) (hA : w.heap.size ≤ A) (hs : w.heap.size ≤ w'.heap.size) (hk : ∀ k, k < A → k < w.heap.size → w'.heap[k]? = w.heap[k]?) : RowAt w' v l := by
  rcases h with h | ⟨g, off, n, cap, e, hn, hg, hc⟩
  · exact .inl h
  · refine .inr ⟨g, off, n, cap, e, hn, Nat.lt_of_lt_of_le hg hs, fun j u hj => ?_⟩
    have := hk g (by omega) hg
    rw [← hc j u hj]
    simp only [World.cell?, this]

/-- What Count, Runes and Starts return if Check says so. -/
def cntS (l : List UInt8) : Nat × Int := if (chkS l).2 = 0 then ((runs l).1.length, 0) else (0, (chkS l).2)
def cntV (l : List UInt8) : Value := .tuple #[.int .i64 ((cntS l).1 : Int), .int .i64 (cntS l).2]

def CI (A : Nat) (w : World) (pre : List (Nat × Int)) (W : World) : Prop :=
  W.heap[A]? = some (.cells #[.int .i64 (pre.length : Int)] 3 (0, 0)) ∧ Below A w W
theorem ci_bears (A : Nat) (w : World) : Bears (A + 2) (A + 2 + 2 + 0) (CI A w) := by
  intro pre W W' row h hg hr
  obtain ⟨h1, h2⟩ := h
  refine ⟨(hg.block A (Array.getElem?_eq_some_iff.1 h1).1 fun e => by have := hr _ e.symm; omega).trans h1, ?_⟩
  exact h2.grown hg (Nat.le_of_lt (Array.getElem?_eq_some_iff.1 h1).1) (fun k e => by have := hr _ e; omega)
def CAx (A : Nat) (w : World) (pre : List (Nat × Int)) (_ : Nat × Int) (a : Act) (W : World) : Prop :=
  CI A w pre W ∧ ∃ u0 u1 u2 u3 u4 u5 u7 u8 u9 u10 u11 u12 u13 u14 u15 u16 u17 u18 u19 u20 u21 : Value,
    a = { tmps := #[u0, u1, u2, u3, u4, u5, .pointer (some ⟨A, 0, none⟩), u7, u8, u9, u10, u11, u12, u13, u14, u15, u16, u17, u18, u19, u20, u21], defers := [] }
theorem cax_bears (A : Nat) (w : World) (pre : List (Nat × Int)) (x : Nat × Int) : Bears (A + 2) (A + 2 + 2 + 0) (CAx A w pre x) := by
  intro a W W' row h hg hr
  exact ⟨ci_bears A w pre W W' row h.1 hg hr, h.2⟩

end Go.Proofs.YtemoeohchhpilaaDoor
