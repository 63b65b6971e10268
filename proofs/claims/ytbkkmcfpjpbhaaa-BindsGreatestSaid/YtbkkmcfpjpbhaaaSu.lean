/- mergeTwo, mergeOne, within, and the functions that are made of them: Add, Drop, Flip, Union, Meet, Minus, Sub, Has. -/
import Derived.Test.YtbkkmcfpjpbhaaaSl
namespace Go.Proofs.Ytbkkmcfpjpbhaaa
open Go.RowKit Go.PlainAid

theorem below_step {w w1 w2 : World} (h : Below w.heap.size w w1) (h2 : Below w1.heap.size w1 w2) : Below w.heap.size w w2 := h.trans (h2.mono h.size)
/-- Two results: a string, an error. -/
def strE (r : List UInt8 × Int) : Value := .tuple #[.string (str r.1), .int .i64 r.2]
theorem box3_at {w : World} {f b s : Bool} : (w.alloc (.cells #[.bool f, .bool b, .bool s] 88)).heap[w.heap.size]? = some (.cells #[.bool f, .bool b, .bool s] 88 (0, 0)) := World.alloc_heap_new _ _
theorem box3_cells {w : World} {p : Nat} {f b s : Bool} (h : w.heap[p]? = some (.cells #[.bool f, .bool b, .bool s] 88 (0, 0))) :
    w.cell? ⟨p, 0, none⟩ = some (.bool f) ∧ w.cell? ⟨p, 1, none⟩ = some (.bool b) ∧ w.cell? ⟨p, 2, none⟩ = some (.bool s) := by
  refine ⟨?_, ?_, ?_⟩ <;> simp [World.cell?, h]
theorem one_lt {k : Nat} (h : k < 65536) : ∀ x ∈ [k], x < 65536 := by simpa using h
theorem natRow (w : World) (n : Nat) : NatAt (w.alloc (.cells #[.int .i64 (n : Int)] 3)) (.slice (some ⟨w.heap.size, 0, none⟩) 1 1) [n] := by
  refine ⟨_, _, _, rfl, rfl, Nat.le_refl _, .inr ⟨_, _, rfl, by simp, fun j x hj => ?_⟩⟩
  have h := new_cells w [.int .i64 (n : Int)] 3
  cases j with
  | zero =>
    obtain rfl : n = x := by simpa using hj
    exact h 0 _ rfl
  | succ j => simp at hj
theorem strE_two (r : List UInt8 × Int) : ∃ (S : ByteArray) (e : Int), strE r = .tuple #[.string S, .int .i64 e] := ⟨_, _, rfl⟩
end Go.Proofs.Ytbkkmcfpjpbhaaa
