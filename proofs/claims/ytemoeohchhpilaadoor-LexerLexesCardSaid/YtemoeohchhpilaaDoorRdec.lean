/- runes.Decode. -/
import Derived.Test.YtemoeohchhpilaaDoorRleaf
import Derived.Deep.QuietTactic
import Derived.BigQuiet
import Derived.IntWalk
namespace Go.Proofs.YtemoeohchhpilaaDoor
open Go.RowKit Go.PlainAid

/-- The slice value v holds the one-cell elements cs. -/
def RowAt (w : World) (v : Value) (cs : List Value) : Prop :=
  (∃ a cap, v = .slice a 0 cap ∧ cs = []) ∨ ∃ g off n cap, v = .slice (some ⟨g, off, none⟩) n cap ∧ n = cs.length ∧ g < w.heap.size ∧ ∀ j u, cs[j]? = some u → w.cell? ⟨g, off + j, none⟩ = some u
theorem RowAt.below {B : Nat} {w w' : World} {v : Value} {l : List Value} (h : RowAt w v l) (hb : Below B w w') (hB : w.heap.size ≤ B) : RowAt w' v l := by
  rcases h with h | ⟨g, off, n, cap, e, hn, hg, hc⟩
  · exact .inl h
  · exact .inr ⟨g, off, n, cap, e, hn, Nat.lt_of_lt_of_le hg hb.size, fun j u hj => (hb.cell (p := ⟨g, off + j, none⟩) (by show g < B; omega)).trans (hc j u hj)⟩
theorem RowAt.slice {w : World} {v : Value} {l : List Value} (h : RowAt w v l) : ∃ a c, v = .slice a l.length c := by
  rcases h with ⟨a, c, e, rfl⟩ | ⟨g, off, n, cap, e, rfl, _⟩
  · exact ⟨_, _, e⟩
  · exact ⟨_, _, e⟩
theorem RowAt.own {w : World} {B : Nat} {e : TypeId} {v : Value} {n : Nat} {l : List Value} (h : w.ownsRow B e 1 v n l) : RowAt w v l := by
  obtain ⟨hl, h⟩ := h
  rcases h with ⟨rfl, h⟩ | ⟨g, cap, cur, rfl, _, hg, _, _, _, ht⟩
  · exact .inl ⟨_, _, rfl, List.eq_nil_of_length_eq_zero (by simp at hl; omega)⟩
  · refine .inr ⟨g, 0, _, cap, rfl, by simpa using hl.symm, (Array.getElem?_eq_some_iff.1 hg).1, fun j u hj => ?_⟩
    rw [← ht] at hj
    have hj' : cur.toList[j]? = some u := by
      rw [List.getElem?_take] at hj
      split at hj
      · exact hj
      · cases hj
    simp only [World.cell?, hg, Nat.zero_add, Option.isSome_none]
    simpa using hj'
/-- A list of bytes. -/
def BytesAt (w : World) (v : Value) (l : List UInt8) : Prop := RowAt w v (l.map bc)
theorem bc_at {l : List UInt8} {k : Nat} {c : UInt8} (h : l[k]? = some c) : (l.map bc)[k]? = some (.int .u8 (ub c)) := by
  rw [List.getElem?_map, h]; rfl
theorem drop_cons {α : Type} {l : List α} {k : Nat} (h : k < l.length) : l.drop k = l[k] :: l.drop (k + 1) := List.drop_eq_getElem_cons h

/-- The table of layer 2 in memory. -/
def MarksTab (w : World) : Prop := ∃ t fr, w.heap[1]? = some (.cells #[.int .i32 0, .int .i32 0, .int .i32 192, .int .i32 224, .int .i32 240] t fr)
theorem marks_cell {w : World} (h : MarksTab w) {n : Nat} (hn : n ≤ 4) : w.cell? ⟨1, n, none⟩ = some (.int .i32 (mkB n)) := by
  obtain ⟨t, fr, h⟩ := h
  have hn' : n = 0 ∨ n = 1 ∨ n = 2 ∨ n = 3 ∨ n = 4 := by omega
  rcases hn' with rfl | rfl | rfl | rfl | rfl <;> simp [World.cell?, h, mkB]
theorem marks_below {B : Nat} {w w' : World} (h : MarksTab w) (hb : Below B w w') (hB : 1 < B) : MarksTab w' := by
  obtain ⟨t, fr, h⟩ := h; exact ⟨t, fr, (hb.block _ hB).trans h⟩

/-- Decode at an index. -/
def decAt (l : List UInt8) (i : Int) : Int × Nat × Int := if i < 0 then (0, 0, 7) else dec (l.drop i.toNat)
theorem decAt_out {l : List UInt8} {i : Int} (h : i < 0 ∨ (l.length : Int) ≤ i) : decAt l i = (0, 0, 7) := by
  unfold decAt
  by_cases h0 : i < 0
  · rw [if_pos h0]
  · rw [if_neg h0, List.drop_of_length_le (by omega)]; rfl
theorem decAt_in {l : List UInt8} {k : Nat} : decAt l (k : Int) = dec (l.drop k) := by
  unfold decAt; rw [if_neg (by omega), Int.toNat_natCast]
def decV (x : Int × Nat × Int) : Value := .tuple #[.int .i32 x.1, .int .i64 (x.2.1 : Int), .int .i64 x.2.2]
theorem ret_dec {x y : Int × Nat × Int} (h : x = y) : Ending.returned (decV x) = .returned (decV y) := by rw [h]

/-- The bounds of the number while it is read. -/
def rb (i : Nat) : Int := if i ≤ 1 then 127 else if i = 2 then 8191 else if i = 3 then 524287 else 33554431
theorem rb_succ {i : Nat} {r d : Int} (h1 : 1 ≤ i) (hi : i < 4) (h : r ≤ rb i) (hd : d ≤ 63) : r * 64 + d ≤ rb (i + 1) := by
  have : i = 1 ∨ i = 2 ∨ i = 3 := by omega
  rcases this with rfl | rfl | rfl <;> simp [rb] at h ⊢ <;> omega
theorem rb_le {i : Nat} (hi : i < 4) : rb i ≤ 524287 := by unfold rb; (repeat' split) <;> omega

theorem dec_go {c : UInt8} {t : List UInt8} {n : Nat} {r e : Int} (hn : wA (ub c) = n) (h0 : n ≠ 0) (h : decGo (n - 1) (ub c - mkB n) (loB (ub c)) (hiB (ub c)) t = (r, e)) :
    dec (c :: t) = if e = 0 then (r, n, 0) else (0, 0, e) := by
  subst hn
  rw [dec, if_neg h0, h]
theorem mk_bd {c : UInt8} {n : Nat} (hn : wA (ub c) = n) (h0 : n ≠ 0) : 0 ≤ ub c - mkB n ∧ ub c - mkB n ≤ 127 ∧ n ≤ 4 := by
  have hc := ub_bd c
  subst hn
  rcases wA_forms (ub c) with h1 | h1 | ⟨h1, h2⟩ | ⟨h1, h2⟩ | ⟨h1, h2⟩
  · rw [wA_1 h1]; simp [mkB]; omega
  · exact absurd (wA_0 h1) h0
  · rw [wA_2 h1 h2]; simp [mkB]; omega
  · rw [wA_3 h1 h2]; simp [mkB]; omega
  · rw [wA_4 h1 h2]; simp [mkB]; omega

set_option maxHeartbeats 1600000 in
theorem decode_out (a : Option Addr) (l : List UInt8) (n cap : Nat) (i : Int) (w : World) (hn : n = l.length) (h : i < 0 ∨ (n : Int) ≤ i) :
    Calls Tryd.prog 41 #[.slice a n cap, .int .i64 i] w fun e w' => e = .returned (decV (decAt l i)) ∧ Below w.heap.size w w' := by
  rw [decAt_out (by omega)]
  by_cases h0 : i < 0
  · go_enter Tryd.func41, Tryd.ntmps41
    go_wp2
    go_ret3
    exact ⟨rfl, Below.refl _ _⟩
  · have h1 : (n : Int) ≤ i := by omega
    clear h
    go_enter Tryd.func41, Tryd.ntmps41
    go_wp2
    go_ret3
    exact ⟨rfl, Below.refl _ _⟩
end Go.Proofs.YtemoeohchhpilaaDoor
