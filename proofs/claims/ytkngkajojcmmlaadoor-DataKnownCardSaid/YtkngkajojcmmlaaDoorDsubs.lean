/- Sub, Kids, Parent, At (the program's). -/
import Derived.Test.YtkngkajojcmmlaaDoorDf
import Derived.Test.YtkngkajojcmmlaaDoorDe
import Derived.Lib.LazyBuf
namespace Go.Proofs.YtkngkajojcmmlaaDoor
open Go.RowKit Go.PlainAid

/-- An address that is not old. -/
def freshA (B : Nat) (a : Option Addr) : Prop := ∀ p, a = some p → B ≤ p.block
theorem own_fresh {w : World} {B n z m c : Nat} {e : TypeId} {a : Option Addr} {xs : List Value} (h : w.ownsRow B e z (.slice a m c) n xs) : freshA B a := by
  intro p hp
  rcases own_form h with ⟨hv, _⟩ | ⟨g, c', hv, hB, _⟩
  · cases hv; cases hp
  · cases hv; cases hp; exact hB
/-- The subtree of a node. -/
def subS (t : List Nd) (i : Nat) : List Nd := (t.take (endN (kidsL t) i)).drop i
def SubV (sy : List UInt8 → Bool) (t : List Nd) (i : Int) (w : World) (e : Ending) (w' : World) : Prop :=
  (atE sy t i ≠ 0 → e = .returned (.tuple #[.slice none 0 0, .int .i64 (atE sy t i)])) ∧ (atE sy t i = 0 → ∃ a c, e = .returned (.tuple #[.slice a (subS t i.toNat).length c, .int .i64 0]) ∧ NdsAt w' (.slice a (subS t i.toNat).length c) (subS t i.toNat) ∧ capOk (.slice a (subS t i.toNat).length c) ∧ freshA w.heap.size a) ∧ Below w.heap.size w w'
def KidsV (sy : List UInt8 → Bool) (t : List Nd) (i : Int) (w : World) (e : Ending) (w' : World) : Prop :=
  (atE sy t i ≠ 0 → e = .returned (.tuple #[.slice none 0 0, .int .i64 (atE sy t i)])) ∧ (atE sy t i = 0 → ∃ a c, e = .returned (.tuple #[.slice a (cnt (kidsL t) i.toNat) c, .int .i64 0]) ∧ IntRow w' (.slice a (cnt (kidsL t) i.toNat) c) ((kidsN (kidsL t) i.toNat).map fun q : Nat => (q : Int))) ∧ Below w.heap.size w w'
def parV (sy : List UInt8 → Bool) (t : List Nd) (i : Int) : Value := if atE sy t i ≠ 0 then .tuple #[.int .i64 0, .int .i64 (atE sy t i)] else if i = 0 then .tuple #[.int .i64 0, .int .i64 4] else .tuple #[.int .i64 (parN (kidsL t) i.toNat : Int), .int .i64 0]
/-- What At returns. -/
def atPV (sy : List UInt8 → Bool) (t : List Nd) (l : List Int) : Value := if (chkT sy t).2 ≠ 0 then .tuple #[.int .i64 0, .int .i64 (chkT sy t).2] else match fol (kidsL t) 0 l with | some j => .tuple #[.int .i64 (j : Int), .int .i64 0] | none => .tuple #[.int .i64 0, .int .i64 4]

theorem own_empty (w : World) (e : TypeId) (z B : Nat) (hB : B ≤ w.heap.size) : (w.alloc (.cells #[] e)).ownsRow B e z (.slice (some ⟨w.heap.size, 0, none⟩) 0 0) 0 [] :=
  ⟨by simp, .inr ⟨w.heap.size, 0, #[], rfl, hB, World.alloc_heap_new _ _, Nat.le_refl _, Nat.zero_le _, by simp, by simp⟩⟩
theorem nds_own {w : World} {B n : Nat} {v : Value} {l : List Nd} (h : w.ownsRow B 48 4 v n (dcs l)) (hn : l.length = n) : ∃ a c, v = .slice a n c ∧ NdsAt w (.slice a n c) l ∧ n ≤ c := by
  rcases own_form h with ⟨rfl, h0⟩ | ⟨g, c, rfl, h1, h2⟩
  · exact ⟨none, 0, by rw [h0], by rw [h0]; exact .inl ⟨_, _, rfl, List.length_eq_zero_iff.1 (by omega)⟩, by omega⟩
  · refine ⟨_, c, rfl, .inr ⟨g, 0, c, by rw [hn], h2, fun j u hj => ?_⟩, (own_cap h).1⟩
    have := h.cells (g := g) rfl j u hj
    rw [Go.WideShapes.add_plain] at this; exact this
/-- What Clone and the like return. -/
def RowNd (l : List Nd) (w : World) (e : Ending) (w' : World) : Prop := ∃ a c, e = .returned (.slice a l.length c) ∧ NdsAt w' (.slice a l.length c) l ∧ l.length ≤ c ∧ Below w.heap.size w w' ∧ freshA w.heap.size a
set_option maxRecDepth 50000 in
set_option maxHeartbeats 1600000 in
theorem clone_nd (g off c n : Nat) (l : List Nd) (w : World) (hn : l.length = n) (hl : n ≤ 100000) (hc : ∀ (j : Nat) (u : Value), (dcs l)[j]? = some u → w.cell? ⟨g, off + j, none⟩ = some u) (hg : g < w.heap.size) :
    Calls Tryd.prog 65 #[.slice (some ⟨g, off, none⟩) n c] w (RowNd l w) := by
  have HO := Lib.hid (own_empty w 48 4 w.heap.size (Nat.le_refl _))
  have hb1 := below_b1 w (.cells #[] 48)
  have HC : Hid (∀ (j : Nat) (u : Value), (dcs l)[j]? = some u → (w.alloc (.cells #[] 48)).cell? ((⟨g, off, none⟩ : Addr).add j) = some u) := Lib.hid fun j u hj => by
    rw [Go.WideShapes.add_plain, World.cell?_alloc_lt _ _ _ hg]; exact hc j u hj
  have HL := Lib.hid (show (dcs l).length = n * 4 by rw [dcs_len, hn])
  have HN := Lib.hid hn
  obtain ⟨i0, hi, hz0, hz1, hz2⟩ := info_parts2 infoNd
  have hsz := (World.size_alloc w (.cells #[] 48))
  have HSz := Lib.hid hsz
  have hnil : ∀ W, (binOp .eql 22 (.slice (some ⟨g, off, none⟩) n c) (.slice none 0 0)).run Tryd.prog W = .ok (.bool false) W := fun W => run_eql_slice_nil W 22 48 (some ⟨g, off, none⟩) n c Tryd.underlying22
  clear hc hn hsz
  go_enter Tryd.func65, Tryd.ntmps65
  go_wp2_with (at_builtin; refine wpList_append_own _ rfl _ _ 22 rfl w.heap.size 48 i0 zeroNd 4 40 Tryd.underlying22 hi hz0 hz1 hz2 rfl (by decide) _ _ _ rfl HO.out ⟨g, off, none⟩ n c (dcs l) rfl HL.out HC.out (one_dcs l) (by unfold maxLen; omega) (by omega) hb1.size ?_; intro v' w2 hown2 hgrow2 _)
  -- MARK1
  have hb2 : Below w.heap.size w w2 := hb1.grown hgrow2 hb1.size (fun i hi => (HO.out.lt i hi).1)
  rw [Nat.zero_add, List.nil_append] at hown2
  obtain ⟨a', c', rfl, hnd, hcc⟩ := nds_own hown2 HN.out
  go_ret
  exact ⟨a', c', by rw [HN.out]; rfl, by rw [HN.out]; exact hnd, by rw [HN.out]; exact hcc, hb2, own_fresh hown2⟩
end Go.Proofs.YtkngkajojcmmlaaDoor
