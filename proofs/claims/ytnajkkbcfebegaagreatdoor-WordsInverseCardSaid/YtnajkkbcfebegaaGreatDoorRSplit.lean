/- The reference's Split. -/
import Derived.Test.YtnajkkbcfebegaaGreatDoorRBare
import Derived.Deep.DeepCutAuto
import Derived.Deep.CutBlock
import Derived.Deep.LoopGhost
import Derived.Deep.AppendLies
namespace Go.Proofs.YtnajkkbcfebegaaGreatDoor
open Go.RowKit Go.PlainAid

theorem fld_box {W : World} {n : Nat} {x y : Value} {t : TypeId} (h : W.heap[n]? = some (.cells #[x, y] t (0, 0))) : W.cell? ⟨n, 0, none⟩ = some x ∧ W.cell? ⟨n, 1, none⟩ = some y ∧ W.frozen? ⟨n, 0, none⟩ = false ∧ W.frozen? ⟨n, 1, none⟩ = false := by
  refine ⟨?_, ?_, ?_, ?_⟩ <;> simp [World.cell?, World.frozen?, h]
theorem own_lenF {w : World} {B n z : Nat} {e : TypeId} {v : Value} {xs : List Value} (h : w.ownsRow B e z v n xs) : ∃ a c, v = .slice a n c := by
  rcases h.2 with ⟨rfl, rfl⟩ | ⟨g, cap, cur, rfl, _⟩
  · exact ⟨_, _, rfl⟩
  · exact ⟨_, _, rfl⟩
theorem int_vF {a b : Int} (h : a = b) : Value.int .i64 a = .int .i64 b := by rw [h]
/-- Whether one is too long. -/
def anyLong (pre : List Yld) : Bool := pre.any fun y => decide (2000 < y.1.length)
theorem anyLong_app (pre : List Yld) (y : Yld) : anyLong (pre ++ [y]) = (anyLong pre || decide (2000 < y.1.length)) := by
  unfold anyLong; rw [List.any_append]; simp
theorem split_bad {L : List UInt8} {pre : List Yld} (h : L.length ≤ 8192) (hf : fldsOf L = pre ++ [bad]) : splitS L = ([], 6) := by
  unfold splitS
  rw [if_neg (by omega), if_pos]
  rw [hf, List.any_append]; simp [bad]
theorem split_end {L : List UInt8} {pre : List Yld} (h : L.length ≤ 8192) (hf : fldsOf L = pre) (hall : ∀ y ∈ pre, y.2.2 = true) :
    splitS L = if (anyLong pre || decide (64 < pre.length)) = true then ([], 3) else (pre.map fldOf, 0) := by
  have hany : (fldsOf L).any (fun y => !y.2.2) = false := by
    rw [hf, List.any_eq_false]; intro y hy; rw [hall y hy]; simp
  have ht : tooL (pre.map fldOf) = (anyLong pre || decide (64 < pre.length)) := by
    unfold tooL anyLong
    rw [List.length_map, List.any_map, Bool.or_comm]; rfl
  unfold splitS
  rw [if_neg (by omega), if_neg (by rw [hany]; simp), hf, ht]
theorem seg_at {s : ByteArray} {p n : Nat} (hn : n = (segT s.data.toList p).length) : s.extract p (p + n) = str (segT s.data.toList p) := by
  rw [← str_data (s.extract p (p + n)), Lib.extract_data]
  congr 1
  rw [show p + n - p = n by omega, hn]
  exact (List.prefix_iff_eq_take.1 (List.takeWhile_prefix _)).symm
/-- How far the segment reaches. -/
def SegTo (s : ByteArray) (p n : Nat) : Prop := n ≤ (segT s.data.toList p).length
theorem seg_step {s : ByteArray} {p n : Nat} (h : SegTo s p n) (hlt : p + n < s.size) : (bt s (p + n) ≠ 32 → SegTo s p (n + 1)) ∧ (bt s (p + n) = 32 → n = (segT s.data.toList p).length) := by
  have hl : p + n < s.data.toList.length := by rw [len_list]; exact hlt
  have hb := bt_list s (p + n) hlt
  have hx : (s.data.toList.drop p)[n]? = some (s.data.toList[p + n]) := by rw [List.getElem?_drop, List.getElem?_eq_getElem hl]
  unfold SegTo at *
  constructor
  · intro hne
    rcases Nat.lt_or_ge n (segT s.data.toList p).length with h1 | h1
    · omega
    · exfalso
      obtain rfl : n = (segT s.data.toList p).length := by omega
      rcases tw_next (s.data.toList.drop p) with h2 | h2
      · have := (List.getElem?_eq_some_iff.1 hx).1
        unfold segT at this
        omega
      · unfold segT at hx
        rw [hx] at h2
        apply hne
        have h5 : s.data.toList[p + (segT s.data.toList p).length] = 32 := Option.some.inj h2
        rw [hb, h5]; rfl
  · intro he
    rcases Nat.lt_or_ge n (segT s.data.toList p).length with h1 | h1
    · exfalso
      have h2 : (segT s.data.toList p)[n]? = some (s.data.toList[p + n]) := by
        have := List.prefix_iff_eq_take.1 (List.takeWhile_prefix (fun c : UInt8 => !(c == 32)) (l := s.data.toList.drop p))
        show (List.takeWhile _ _)[n]? = _
        rw [this, List.getElem?_take]
        split
        · exact hx
        · rename_i hq; exact absurd h1 hq
      have h3 := List.mem_of_getElem? h2
      have h4 : (!(s.data.toList[p + n] == 32)) = true := List.all_eq_true.1 (List.all_takeWhile (p := fun c : UInt8 => !(c == 32)) (l := s.data.toList.drop p)) _ h3
      rw [hb] at he
      have : s.data.toList[p + n] = 32 := by apply UInt8.toNat_inj.1; have : (32 : UInt8).toNat = 32 := rfl; omega
      rw [this] at h4; cases h4
    · omega
theorem seg_end {s : ByteArray} {p n : Nat} (h : SegTo s p n) (hp : p ≤ s.size) (hlt : ¬ p + n < s.size) : n = (segT s.data.toList p).length := by
  have := seg_le s.data.toList p
  rw [len_list] at this
  unfold SegTo at h; omega
theorem seg_to {s : ByteArray} {p n : Nat} (h : SegTo s p n) (hp : p ≤ s.size) : p + n ≤ s.size := by
  have := seg_le s.data.toList p
  rw [len_list] at this
  unfold SegTo at h; omega

end Go.Proofs.YtnajkkbcfebegaaGreatDoor
