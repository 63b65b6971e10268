/- runes.Starts. -/
import Derived.Test.YtcnekeahlcbflaaDoorRrunes
namespace Go.Proofs.YtcnekeahlcbflaaDoor
open Go.RowKit Go.Shelf Go.PlainAid

attribute [local go_sem] Oper.semAt_some

/-- runes.Starts -/
def StV (l : List UInt8) (w : World) (e : Ending) (w' : World) : Prop :=
  ∃ v, e = .returned (.tuple #[v, .int .i64 (startsS l).2]) ∧ w'.ownsRow w.heap.size 3 1 v (startsS l).1.length ((startsS l).1.map (fun k : Nat => Value.int .i64 (k : Int))) ∧ Below w.heap.size w w'
theorem infoSt : (Tryd.prog.info? 3).map (fun i => (i.zero, i.size, i.bytes)) = some (some (.int .i64 0), 1, 8) := by kernel_rfl

def StI (A : Nat) (w : World) (pre : List (Nat × Int)) (W : World) : Prop :=
  ∃ v, W.heap[A]? = some (.cells #[v] 83 (0, 0)) ∧ W.ownsRow (A + 4) 3 1 v pre.length (pre.map fun x => Value.int .i64 (x.1 : Int)) ∧ Below A w W
theorem StI_bears (A : Nat) (w : World) : Bears (A + 2) (A + 2 + 2 + 0) (StI A w) := by
  intro pre W W' row h hg hr
  obtain ⟨v, h1, h3, h2⟩ := h
  refine ⟨v, (hg.block A (Array.getElem?_eq_some_iff.1 h1).1 fun e => by have := hr _ e.symm; omega).trans h1, h3.kept hg ?_, ?_⟩
  · cases hv : v.ownBlock with
    | none => exact .inl rfl
    | some r => exact .inr fun e => by have h4 := hr _ e.symm; have h5 := (h3.lt r hv).1; omega
  · exact h2.grown hg (Nat.le_of_lt (Array.getElem?_eq_some_iff.1 h1).1) (fun k e => by have := hr _ e; omega)
def StAx (A : Nat) (w : World) (pre : List (Nat × Int)) (x : Nat × Int) (a : Act) (W : World) : Prop :=
  StI A w pre W ∧ ∃ u0 u1 u2 u3 u4 u5 u8 u9 u10 u11 u12 u13 u14 u15 u16 u17 u18 u19 u20 u21 u22 u23 u24 u25 u26 u27 u28 : Value, a = { tmps := #[u0, u1, u2, u3, u4, u5, .pointer (some ⟨A, 0, none⟩), .int .i64 (x.1 : Int), u8, u9, u10, u11, u12, u13, u14, u15, u16, u17, u18, u19, u20, u21, u22, u23, u24, u25, u26, u27, u28], defers := [] }
theorem StAx_bears (A : Nat) (w : World) (pre : List (Nat × Int)) (x : Nat × Int) : Bears (A + 2) (A + 2 + 2 + 0) (StAx A w pre x) := by
  intro a W W' row h hg hr
  exact ⟨StI_bears A w pre W W' row h.1 hg hr, h.2⟩

end Go.Proofs.YtcnekeahlcbflaaDoor
