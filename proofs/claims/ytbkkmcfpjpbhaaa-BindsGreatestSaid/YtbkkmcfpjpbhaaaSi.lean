/- scopes.Ids. -/
import Derived.Test.YtbkkmcfpjpbhaaaSv
import Derived.Maps.AppendAt
namespace Go.Proofs.Ytbkkmcfpjpbhaaa
open Go.RowKit Go.Shelf Go.PlainAid

attribute [local go_sem] Oper.semAt_some

def natC (l : List Nat) : List Value := l.map fun x : Nat => Value.int .i64 (x : Int)
def idsS (L : List UInt8) : List Nat × Int := if chkE L ≠ 0 then ([], chkE L) else (idsL L, 0)
/-- What Ids returns: a row of its own, and the error. -/
def IdsV (L : List UInt8) (w : World) (e : Ending) (w' : World) : Prop :=
  ∃ v, e = .returned (.tuple #[v, .int .i64 (idsS L).2]) ∧ w'.ownsRow w.heap.size 3 1 v (idsS L).1.length (natC (idsS L).1) ∧ Below w.heap.size w w'
def IdI (A : Nat) (w : World) (pre : List Nat) (W : World) : Prop :=
  ∃ v, W.heap[A]? = some (.cells #[v] 34 (0, 0)) ∧ W.ownsRow (A + 4) 3 1 v pre.length (natC pre) ∧ Below A w W
theorem idI_bears (A : Nat) (w : World) : Bears (A + 2) (A + 2 + 2 + 0) (IdI A w) := by
  intro pre W W' row h hg hr
  obtain ⟨v, h1, h3, h2⟩ := h
  refine ⟨v, (hg.block A (Array.getElem?_eq_some_iff.1 h1).1 fun e => by have := hr _ e.symm; omega).trans h1, h3.kept hg ?_, ?_⟩
  · cases hv : v.ownBlock with
    | none => exact .inl rfl
    | some r => exact .inr fun e => by have h4 := hr _ e.symm; have h5 := (h3.lt r hv).1; omega
  · exact h2.grown hg (Nat.le_of_lt (Array.getElem?_eq_some_iff.1 h1).1) (fun k e => by have := hr _ e; omega)
def IdA (A : Nat) (w : World) (pre : List Nat) (x : Nat) (a : Act) (W : World) : Prop :=
  IdI A w pre W ∧ ∃ u0 u1 u2 u3 u4 u7 u8 u9 u10 u11 u12 u13 u14 u15 u16 u17 u18 u19 : Value, a = { tmps := #[u0, u1, u2, u3, u4, .pointer (some ⟨A, 0, none⟩), .int .i64 (x : Int), u7, u8, u9, u10, u11, u12, u13, u14, u15, u16, u17, u18, u19], defers := [] }
theorem idA_bears (A : Nat) (w : World) (pre : List Nat) (x : Nat) : Bears (A + 2) (A + 2 + 2 + 0) (IdA A w pre x) := by
  intro a W W' row h hg hr
  exact ⟨idI_bears A w pre W W' row h.1 hg hr, h.2⟩
end Go.Proofs.Ytbkkmcfpjpbhaaa
