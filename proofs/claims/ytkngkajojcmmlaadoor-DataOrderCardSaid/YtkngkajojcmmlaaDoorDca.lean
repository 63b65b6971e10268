/- compareAt: what it is made of. -/
import Derived.Test.YtkngkajojcmmlaaDoorDcf
import Derived.Test.YtkngkajojcmmlaaDoorDat
import Derived.Deep.RegionHeld3
namespace Go.Proofs.YtkngkajojcmmlaaDoor
open Go.RowKit Go.Shelf Go.PlainAid

theorem or_3 (a b c : Int) (W : World) : Calls Tryd.prog 90 #[.slice (some ⟨W.heap.size, 0, none⟩) 3 3] (W.alloc (.cells #[.int .i64 a, .int .i64 b, .int .i64 c] 3)).drew fun e w' => e = .returned (.int .i64 (orS [a, b, c])) ∧ (W.alloc (.cells #[.int .i64 a, .int .i64 b, .int .i64 c] 3)).drew = w' := by
  refine or_any _ [a, b, c] _ ⟨_, 3, rfl, .inr ⟨W.heap.size, 0, rfl, by show W.heap.size < (W.alloc _).heap.size; simp, fun j n hj => ?_⟩⟩ (by simp)
  have h2 : ([a, b, c].map (Value.int .i64))[j]? = some (.int .i64 n) := by rw [List.getElem?_map, hj]; rfl
  have := new_cells W ([a, b, c].map (Value.int .i64)) 3 j _ h2
  rw [Go.WideShapes.add_plain] at this
  exact this
/-- A tree in memory: its nodes and the ends of its subtrees. -/
structure TreeAt (w : World) (g o n ge : Nat) (t : List Nd) : Prop where
  len : t.length = n
  tr : Tr (kidsL t)
  le : n ≤ 400
  lt : g < w.heap.size
  nds : ∀ j u, (dcs t)[j]? = some u → w.cell? ⟨g, o + j, none⟩ = some u
  lte : ge < w.heap.size
  ends : ∀ (j q : Nat), (endsL (kidsL t))[j]? = some q → w.cell? ⟨ge, j, none⟩ = some (.int .i64 (q : Int))
theorem TreeAt.below {w w' : World} {g o n ge : Nat} {t : List Nd} (h : TreeAt w g o n ge t) (hb : Below w.heap.size w w') : TreeAt w' g o n ge t :=
  ⟨h.len, h.tr, h.le, Nat.lt_of_lt_of_le h.lt hb.size, fun j u hj => (hb.cell (p := ⟨g, o + j, none⟩) h.lt).trans (h.nds j u hj), Nat.lt_of_lt_of_le h.lte hb.size, fun j q hj => (hb.cell (p := ⟨ge, j, none⟩) h.lte).trans (h.ends j q hj)⟩
theorem kids_rowA {w : World} {B k : Nat} {v : Value} {l : List Nat} (h : w.ownsRow B 3 1 v k (natV l)) (hl : l.length = k) : ∃ a c, v = .slice a k c ∧ IntRow w (.slice a k c) (l.map fun q : Nat => (q : Int)) := by
  obtain ⟨a6, c6, rfl, h6⟩ := collect_form h hl
  refine ⟨a6, c6, rfl, a6, c6, by rw [List.length_map, hl], h6.imp (fun e => by rw [e]; rfl) ?_⟩
  rintro ⟨g, rfl, _, hg, hc⟩
  refine ⟨g, 0, rfl, hg, fun j n hj => ?_⟩
  rw [List.getElem?_map] at hj
  cases hq : l[j]? with
  | none => rw [hq] at hj; cases hj
  | some q =>
    rw [hq] at hj
    rw [Nat.zero_add, hc j q hq]
    cases hj; rfl
/-- slices.Collect of the children of a node, wherever their iterator was made. -/
theorem coll_at (a : Option Addr) (c o g ge n p Bd Bi : Nat) (t : List Nd) (W : World) (h : TreeAt W g o n ge t) (hp : p < n)
    (h1 : W.heap[Bd]? = some (.cells #[.slice a n c, .slice (some ⟨ge, 0, none⟩) n n] 72 (0, 0))) (h2 : W.heap[Bi]? = some (.cells #[.int .i64 (p : Int)] 3 (0, 0))) :
    Calls Tryd.prog 58 #[.func (.func 87) #[] #[.pointer (some ⟨Bi, 0, none⟩), .pointer (some ⟨Bd, 0, none⟩)]] W
      fun e w' => ∃ g c, e = .returned (.slice g (kidsN (kidsL t) p).length c) ∧ Below W.heap.size W w' ∧ Hid (∀ W4, Below w'.heap.size w' W4 → IntRow W4 (.slice g (kidsN (kidsL t) p).length c) (natI (kidsN (kidsL t) p))) := by
  have hkl : (kidsL t).length = n := by rw [kidsL_len, h.len]
  have l1 := (Array.getElem?_eq_some_iff.1 h1).1
  have l2 := (Array.getElem?_eq_some_iff.1 h2).1
  have l3 := h.lte
  refine (collect_any 87 _ (fun k => k = Bd ∨ k = Bi ∨ k = ge) (kidsN (kidsL t) p) W (fun k hk => by omega) (by have := kidsN_le h.tr (i := p) (by omega); have := h.le; omega) (enters_of Tryd.func87 (by kernel_rfl) rfl) fun W3 hb3 => ?_).mono ?_
  · exact kids_seq Bd Bi ge n p _ t _ 3 (by omega) W3 ⟨.inl rfl, .inr (.inl rfl), .inr (.inr rfl)⟩ (fun k hk => by have := hb3.size; omega)
      ((hb3.block _ l1).trans h1) ((hb3.block _ l2).trans h2) h.len h.tr hp h.le
      (fun j q hj => (hb3.cell (p := ⟨ge, j, none⟩) l3).trans (h.ends j q hj))
  · rintro e w' ⟨v, rfl, ho, hb4⟩
    obtain ⟨a6, c6, rfl, h6⟩ := kids_rowA ho rfl
    exact ⟨a6, c6, rfl, hb4, Lib.hid fun W4 hb => h6.below hb⟩
/-- The iterator is made, and what Collect will say of it. -/
theorem kids_at (a : Option Addr) (c o g ge n p : Nat) (t : List Nd) (W : World) (h : TreeAt W g o n ge t) (hp : p < n) :
    Calls Tryd.prog 59 #[.agg #[.slice a n c, .slice (some ⟨ge, 0, none⟩) n n], .int .i64 (p : Int)] W
      fun e w' => ∃ B1 B2, e = .returned (.func (.func 87) #[] #[.pointer (some ⟨B1, 0, none⟩), .pointer (some ⟨B2, 0, none⟩)]) ∧ Below W.heap.size W w' ∧ Hid (∀ W2, Below w'.heap.size w' W2 →
        Calls Tryd.prog 58 #[.func (.func 87) #[] #[.pointer (some ⟨B1, 0, none⟩), .pointer (some ⟨B2, 0, none⟩)]] W2
          fun e w' => ∃ g c, e = .returned (.slice g (kidsN (kidsL t) p).length c) ∧ Below W2.heap.size W2 w' ∧ Hid (∀ W4, Below w'.heap.size w' W4 → IntRow W4 (.slice g (kidsN (kidsL t) p).length c) (natI (kidsN (kidsL t) p)))) := by
  refine (kids_mk _ _ _ _ _ _ _ _).mono ?_
  rintro e w' ⟨rfl, rfl⟩
  have hb : Below W.heap.size W ((W.alloc (.cells #[.slice a n c, .slice (some ⟨ge, 0, none⟩) n n] 72)).alloc (.cells #[.int .i64 (p : Int)] 3)) := ((Below.refl _ W).alloc (Nat.le_refl _) _).alloc (by simp only [World.size_alloc]; omega) _
  obtain ⟨W5, hW5⟩ : ∃ W5, W5 = (W.alloc (.cells #[.slice a n c, .slice (some ⟨ge, 0, none⟩) n n] 72)).alloc (.cells #[.int .i64 (p : Int)] 3) := ⟨_, rfl⟩
  have hsz : W5.heap.size = W.heap.size + 2 := by rw [hW5]; simp
  have h1 : W5.heap[W.heap.size]? = some (.cells #[.slice a n c, .slice (some ⟨ge, 0, none⟩) n n] 72 (0, 0)) := by
    rw [hW5]; exact (Below.heap_alloc _ _ _ (by simp only [World.size_alloc]; omega)).trans (World.alloc_heap_new _ _)
  have h2 : W5.heap[W.heap.size + 1]? = some (.cells #[.int .i64 (p : Int)] 3 (0, 0)) := by
    rw [hW5]; have := World.alloc_heap_new (W.alloc (.cells #[.slice a n c, .slice (some ⟨ge, 0, none⟩) n n] 72)) (.cells #[.int .i64 (p : Int)] 3); rwa [World.size_alloc] at this
  rw [← hW5] at hb ⊢
  refine ⟨_, _, rfl, hb, Lib.hid fun W2 hb2 => ?_⟩
  exact coll_at a c o g ge n p _ _ t W2 ((h.below hb).below hb2) hp ((hb2.block _ (by omega)).trans h1) ((hb2.block _ (by omega)).trans h2)
set_option maxRecDepth 50000 in
/-- The closure calls compareAt of what it has captured. -/
theorem clos_any (BA BB : Nat) (va ea vb eb : Value) (x y q : Int) (W : World) (h1 : W.heap[BA]? = some (.cells #[va, ea] 72 (0, 0))) (h2 : W.heap[BB]? = some (.cells #[vb, eb] 72 (0, 0)))
    (C : Hid (Calls Tryd.prog 72 #[.agg #[va, ea], .agg #[vb, eb], .int .i64 x, .int .i64 y] W fun e w' => e = .returned (.int .i64 q) ∧ Below W.heap.size W w')) :
    Calls Tryd.prog 95 #[.int .i64 x, .int .i64 y, .pointer (some ⟨BA, 0, none⟩), .pointer (some ⟨BB, 0, none⟩)] W fun e w' => e = .returned (.int .i64 q) ∧ Below W.heap.size W w' := by
  obtain ⟨d0, d1, _, _⟩ := box_facts h1
  obtain ⟨d2, d3, _, _⟩ := box_facts h2
  clear h1 h2
  go_enter Tryd.func95, Tryd.ntmps95
  go_wp2_with (go_at_call 72; refine C.out.mono ?_; rintro e w' ⟨rfl, hb⟩)
  go_ret
  exact ⟨rfl, hb⟩
end Go.Proofs.YtkngkajojcmmlaaDoor
