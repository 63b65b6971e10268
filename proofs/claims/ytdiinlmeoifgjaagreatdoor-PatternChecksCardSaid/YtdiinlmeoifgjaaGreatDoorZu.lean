import Derived.Test.YtdiinlmeoifgjaaGreatDoorDp
import Derived.Maps.AppendAt
import Derived.WalkSmall
import Derived.WalkLawsBesides
import Derived.WalkSpells
import Derived.Lib.ItoaMem
import Derived.Lib.ItoaLen
import Derived.Lib.AppendIntMem
import Derived.Deep.RegionWith
/- scopes.setOf; mergeOne, mergeTwo, and the functions that are made of them. -/
namespace Go.Proofs.YtdiinlmeoifgjaaGreatDoor
open Go.RowKit Go.PlainAid

/-- The slice value v holds the scopes l. -/
def NatAt (w : World) (v : Value) (l : List Nat) : Prop :=
  ∃ a n c, v = .slice a n c ∧ n = l.length ∧ n ≤ c ∧ (l = [] ∨ ∃ g off, a = some ⟨g, off, none⟩ ∧ g < w.heap.size ∧ ∀ (j x : Nat), l[j]? = some x → w.cell? ⟨g, off + j, none⟩ = some (.int .i64 (x : Int)))
theorem NatAt.below {B : Nat} {w w' : World} {v : Value} {l : List Nat} (h : NatAt w v l) (hb : Below B w w') (hB : w.heap.size ≤ B) : NatAt w' v l := by
  obtain ⟨a, n, c, e, hn, hc, h⟩ := h
  refine ⟨a, n, c, e, hn, hc, h.imp id ?_⟩
  rintro ⟨g, off, rfl, hg, hcell⟩
  exact ⟨g, off, rfl, Nat.lt_of_lt_of_le hg hb.size, fun j u hj => (hb.cell (p := ⟨g, off + j, none⟩) (by show g < B; omega)).trans (hcell j u hj)⟩
theorem hi_conv {x : Nat} (h : x < 65536) : ((hiB x).toNat : Int) = (x : Int) / 256 ∧ ((loB x).toNat : Int) = (x : Int) % 256 := by
  rw [hi_nat h, lo_nat]; omega
-- MARK8
end Go.Proofs.YtdiinlmeoifgjaaGreatDoor

/- mergeTwo, mergeOne, within, and the functions that are made of them: Add, Drop, Flip, Union, Meet, Minus, Sub, Has. -/
namespace Go.Proofs.YtdiinlmeoifgjaaGreatDoor
open Go.RowKit Go.PlainAid

theorem below_step {w w1 w2 : World} (h : Below w.heap.size w w1) (h2 : Below w1.heap.size w1 w2) : Below w.heap.size w w2 := h.trans (h2.mono h.size)
/-- Two results: a string, an error. -/
def strE (r : List UInt8 × Int) : Value := .tuple #[.string (str r.1), .int .i64 r.2]
theorem one_lt {k : Nat} (h : k < 65536) : ∀ x ∈ [k], x < 65536 := by simpa using h
theorem natRow (w : World) (n : Nat) : NatAt (w.alloc (.cells #[.int .i64 (n : Int)] 3)) (.slice (some ⟨w.heap.size, 0, none⟩) 1 1) [n] := by
  refine ⟨_, _, _, rfl, rfl, Nat.le_refl _, .inr ⟨_, _, rfl, by simp, fun j x hj => ?_⟩⟩
  have h := new_cells w [.int .i64 (n : Int)] 3
  cases j with
  | zero =>
    obtain rfl : n = x := by simpa using hj
    exact h 0 _ rfl
  | succ j => simp at hj
theorem strE_two (r : List UInt8 × Int) : ∃ (S : ByteArray) (e : Int), strE r = .tuple #[.string S, .int .i64 e] := ⟨_, _, rfl⟩
end Go.Proofs.YtdiinlmeoifgjaaGreatDoor

/- scopes.Ids. -/
namespace Go.Proofs.YtdiinlmeoifgjaaGreatDoor
open Go.RowKit Go.Shelf Go.PlainAid

attribute [local go_sem] Oper.semAt_some

def natC (l : List Nat) : List Value := l.map fun x : Nat => Value.int .i64 (x : Int)
def idsS (L : List UInt8) : List Nat × Int := if chkE L ≠ 0 then ([], chkE L) else (idsL L, 0)
/-- What Ids returns: a row of its own, and the error. -/
def IdsV (L : List UInt8) (w : World) (e : Ending) (w' : World) : Prop :=
  ∃ v, e = .returned (.tuple #[v, .int .i64 (idsS L).2]) ∧ w'.ownsRow w.heap.size 3 1 v (idsS L).1.length (natC (idsS L).1) ∧ Below w.heap.size w w'
def IdI (A : Nat) (w : World) (pre : List Nat) (W : World) : Prop :=
  ∃ v, W.heap[A]? = some (.cells #[v] 68 (0, 0)) ∧ W.ownsRow (A + 4) 3 1 v pre.length (natC pre) ∧ Below A w W
theorem idI_bears (A : Nat) (w : World) : Bears (A + 2) (A + 2 + 2 + 0) (IdI A w) := by
  intro pre W W' row h hg hr
  obtain ⟨v, h1, h3, h2⟩ := h
  refine ⟨v, (hg.block A (Array.getElem?_eq_some_iff.1 h1).1 fun e => by have := hr _ e.symm; omega).trans h1, h3.kept hg ?_, ?_⟩
  · cases hv : v.ownBlock with
    | none => exact .inl rfl
    | some r => exact .inr fun e => by have h4 := hr _ e.symm; have h5 := (h3.lt r hv).1; omega
  · exact h2.grown hg (Nat.le_of_lt (Array.getElem?_eq_some_iff.1 h1).1) (fun k e => by have := hr _ e; omega)
def IdA (A : Nat) (w : World) (pre : List Nat) (x : Nat) (a : Act) (W : World) : Prop :=
  IdI A w pre W ∧ ∃ u0 u1 u2 u3 u4 u7 u8 u9 u10 u11 u12 u13 u14 u15 u16 u17 u18 u19 : Value, a = { tmps := #[u0, u1, u2, u3, u4, .pointer (some ⟨A, 0, none⟩), .int .i64 (x : Int), u7, u8, u9, u10, u11, u12, u13, u14, u15, u16, u17, u18, u19], defers := [] }
theorem idA_bears (A : Nat) (w : World) (pre : List Nat) (x : Nat) : Bears (A + 2) (A + 2 + 2 + 0) (IdA A w pre x) := by
  intro a W W' row h hg hr
  exact ⟨idI_bears A w pre W W' row h.1 hg hr, h.2⟩
end Go.Proofs.YtdiinlmeoifgjaaGreatDoor

/- Contracts of words.Digits and the reference's Digits. -/
namespace Go.Proofs.YtdiinlmeoifgjaaGreatDoor
open Go.RowKit Go.PlainAid
theorem str_cat (a b : List UInt8) : str a ++ str b = str (a ++ b) := by
  apply ByteArray.ext; simp [str]
theorem lit_conv (x : UInt8) (W : World) : (convert 98 9 (.slice (some ⟨W.heap.size, 0, none⟩) 1 1)).run Tryz.prog (W.alloc (.cells #[.int .u8 (x.toNat : Int)] 5)) = .ok (.string (str [x])) (W.alloc (.cells #[.int .u8 (x.toNat : Int)] 5)) :=
  conv_own (l := [x]) Tryz.underlying98 Tryz.underlying5 (World.ownsRow_lit (base := 0) (e := 5) (size := 1) W #[.int .u8 (x.toNat : Int)] 1 (by omega) (by decide) rfl) 9 Tryz.underlying9
theorem cell_at {B : Nat} {W w1 : World} (hb : Below B W w1) (b : Nat) (h : b < B) : ∀ o, w1.cell? ⟨b, o, none⟩ = W.cell? ⟨b, o, none⟩ := fun o => hb.cell (p := ⟨b, o, none⟩) h
theorem frozen_at {B : Nat} {W w1 : World} (hb : Below B W w1) (b : Nat) (h : b < B) : ∀ o, w1.frozen? ⟨b, o, none⟩ = W.frozen? ⟨b, o, none⟩ := fun o => hb.frozen (p := ⟨b, o, none⟩) h
theorem cell_b {W W1 : World} {b o : Nat} (h : W1.heap[b]? = W.heap[b]?) : W1.cell? ⟨b, o, none⟩ = W.cell? ⟨b, o, none⟩ := by simp [World.cell?, h]

def PowIs (w : World) : Prop := Lib.TabIs Tryz.prog w "internal/strconv.uint64pow10" .u64 Lib.pow10Tab
def i64r (n : Int) : Prop := -9223372036854775808 ≤ n ∧ n ≤ 9223372036854775807

theorem lit_convD (x : UInt8) (W : World) : (convert 98 9 (.slice (some ⟨W.heap.size, 0, none⟩) 1 1)).run Tryz.prog (W.alloc (.cells #[.int .u8 (x.toNat : Int)] 5)).drew = .ok (.string (str [x])) (W.alloc (.cells #[.int .u8 (x.toNat : Int)] 5)).drew :=
  conv_own (l := [x]) Tryz.underlying98 Tryz.underlying5 (World.ownsRow_lit (base := 0) (e := 5) (size := 1) W #[.int .u8 (x.toNat : Int)] 1 (by omega) (by decide) rfl).drew 9 Tryz.underlying9

theorem conv_lit_below {x : UInt8} {c : Int} {W w1 : World} (hx : (x.toNat : Int) = c) (hb : Below (W.alloc (.cells #[.int .u8 c] 5)).drew.heap.size (W.alloc (.cells #[.int .u8 c] 5)).drew w1) :
    (convert 98 9 (.slice (some ⟨W.heap.size, 0, none⟩) 1 1)).run Tryz.prog w1 = .ok (.string (str [x])) w1 := by
  subst hx
  exact conv_own (l := [x]) Tryz.underlying98 Tryz.underlying5 (own_below (World.ownsRow_lit (base := 0) (e := 5) (size := 1) W #[.int .u8 (x.toNat : Int)] 1 (by omega) (by decide) rfl).drew hb) 9 Tryz.underlying9

end Go.Proofs.YtdiinlmeoifgjaaGreatDoor
