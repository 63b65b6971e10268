/- runes.Encode. -/
import Derived.Test.YtemoeohchhpilaaDoorRdec2
import Derived.RangeFuncRecord
namespace Go.Proofs.YtemoeohchhpilaaDoor
open Go.RowKit Go.PlainAid

theorem bc_u8 {n m : Int} (h : 0 ≤ n ∧ n < 256) (e : m = n) : Value.int .u8 m = bc (u8 n) := by
  have := ub_u8 h
  unfold bc; unfold ub at this; rw [this, e]
/-- What Encode returns. -/
def EncV (r : Int) (w : World) (e : Ending) (w' : World) : Prop :=
  ∃ v, e = .returned (.tuple #[v, .int .i64 (if isR r then 0 else 7)]) ∧ w'.ownsRow w.heap.size 5 1 v (enc r).length ((enc r).map bc) ∧ Below w.heap.size w w'

theorem own_new (w : World) (l : List UInt8) (a : Array Value) (t : TypeId) (n : Nat) (ha : a = (l.map bc).toArray) (hn : n = l.length) (hl : l.length ≤ 4) :
    (w.alloc (.cells a t)).ownsRow w.heap.size t 1 (.slice (some ⟨w.heap.size, 0, none⟩) n n) l.length (l.map bc) := by
  subst ha hn
  exact ⟨by simp, .inr ⟨_, _, _, rfl, Nat.le_refl _, World.alloc_heap_new _ _, Nat.le_refl _, by unfold maxLen; omega, by simp, by rw [Nat.mul_one, ← List.length_map (f := bc), List.take_length]⟩⟩
theorem enc_new (r : Int) (w : World) (a : Array Value) (n : Nat) (hr : isR r = true) (ha : a = ((enc r).map bc).toArray) (hn : n = wO r) :
    EncV r w (.returned (.tuple #[.slice (some ⟨w.heap.size, 0, none⟩) n n, .int .i64 0])) (w.alloc (.cells a 5)) :=
  ⟨_, by rw [hr]; rfl, own_new w (enc r) a _ n ha (by rw [enc_len, hn]) (by rw [enc_len]; exact wO_le r), (Below.refl _ _).alloc (Nat.le_refl _) _⟩
end Go.Proofs.YtemoeohchhpilaaDoor
