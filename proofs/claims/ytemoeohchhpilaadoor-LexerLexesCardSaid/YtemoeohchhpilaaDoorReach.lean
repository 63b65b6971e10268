/- The iterator over the runes of a text: its contract. -/
import Derived.RangeFuncNested
import Derived.RangeFuncBound
import Derived.RangeFuncCalls
import Derived.RangeFuncLeaves
import Derived.Shelf.Abstract
import Derived.Shelf.RegionOpen
import Derived.WalkKit
import Derived.WalkMore
import Derived.BigGuardPart
import Derived.OwnWalkIn
import Derived.TacticsInMore
import Derived.LoopNIn
import Derived.LoopIn
import Derived.BigGuardPartIn
import Derived.Test.YtemoeohchhpilaaDoorRange
namespace Go.Proofs.YtemoeohchhpilaaDoor
open Go.RowKit Go.Shelf Go.PlainAid

attribute [local go_sem] Oper.semAt_some

/-- What the iterator yields: where a rune begins, and the rune. -/
def eachF : Nat → List Int → List (Nat × Int)
  | _, [] => []
  | k, r :: rs => (k, r) :: eachF (k + wO r) rs
def eachS (l : List UInt8) : List (Nat × Int) := eachF 0 (runs l).1
def encE (x : Nat × Int) : Array Value := #[.int .i64 (x.1 : Int), .int .i32 x.2]
theorem eachF_app : ∀ (a b : List Int) (k : Nat), eachF k (a ++ b) = eachF k a ++ eachF (k + wid a) b := by
  intro a
  induction a with
  | nil => intro b k; rfl
  | cons r a ih => intro b k; rw [List.cons_append, eachF, eachF, ih, wid_cons, List.cons_append, Nat.add_assoc]
theorem eachF_fst : ∀ (rs : List Int) (k : Nat), (eachF k rs).map (·.1) = begs k rs
  | [], _ => rfl
  | r :: rs, k => by rw [eachF, begs, List.map_cons, eachF_fst rs]
theorem eachF_snd : ∀ (rs : List Int) (k : Nat), (eachF k rs).map (·.2) = rs
  | [], _ => rfl
  | r :: rs, k => by rw [eachF, List.map_cons, eachF_snd rs]
theorem eachF_len (rs : List Int) (k : Nat) : (eachF k rs).length = rs.length := by rw [← List.length_map (f := (·.2)), eachF_snd]
theorem At.pre {L : List UInt8} {pre : List Int} {k n : Nat} {r : Int} (h : At L pre k) (hd : dec (L.drop k) = (r, n, 0)) :
    eachF 0 (pre ++ [r]) = eachF 0 pre ++ [(k, r)] ∧ eachF 0 (pre ++ [r]) <+: eachS L ∧ (eachF 0 pre).length < (eachS L).length := by
  have e : eachF 0 (pre ++ [r]) = eachF 0 pre ++ [(k, r)] := by rw [eachF_app, h.1, Nat.zero_add]; rfl
  have h2 := (h.ok hd).2.1
  have p : eachF 0 (pre ++ [r]) <+: eachS L := by unfold eachS; rw [h2]; exact ⟨_, (eachF_app _ _ _).symm⟩
  refine ⟨e, p, ?_⟩
  have := p.length_le
  rw [e, List.length_append] at this
  simp at this; omega

theorem grown_none {W W1 : World} (h : Below W.heap.size W W1) : W.grownBy W1 none :=
  ⟨h.os, h.tape, h.output, h.size, fun j hj _ => h.block j hj⟩

end Go.Proofs.YtemoeohchhpilaaDoor
