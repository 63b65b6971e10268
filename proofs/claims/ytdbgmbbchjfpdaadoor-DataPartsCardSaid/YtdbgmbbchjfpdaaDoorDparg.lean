/- Parts of data as arguments; the copy of a row of nodes. -/
import Derived.Test.YtdbgmbbchjfpdaaDoorDdoor
import Derived.Test.YtdbgmbbchjfpdaaDoorDrput
namespace Go.Proofs.YtdbgmbbchjfpdaaDoor
open Go.ChangeShapes Go.WideShapes Go.ChangeAt Go.RowKit Go.Deep

/-- A slice without an address is nil. -/
def nilOk (v : Value) : Prop := ∀ n c, v = .slice none n c → n = 0 ∧ c = 0
set_option maxRecDepth 100000 in
theorem open_nodes_cs {H : Type} {enc : TypeId × Value → H} {W : World} {fuel : Nat} {cs : List Value} {x : DataW H × List MemPlace}
    (hf : DataW.trod enc Tryd.prog W 0 (fun _ => true) true fuel 22 cs = some x) :
    ∃ (v : Value) (l : List Nd), cs = [v] ∧ NdsAt W v l ∧ capOk v ∧ KidsB l ∧ nilOk v := by
  rcases open_slice Tryd.underlying22 hf with ⟨hcs, _⟩ | ⟨a, n0, c0, m, n, D, Pl, hcs, _, hl, hm, hmm, _, hx⟩
  · exact ⟨_, [], hcs, .inl ⟨_, _, rfl, rfl⟩, (fun a n c e => by cases e; exact Nat.le_refl _), (fun x hx => by cases hx), (fun n c e => by cases e; exact ⟨rfl, rfl⟩)⟩
  · skip
    have hnm : n0 ≤ m := by rw [hmm]; simp; exact hl
    have hcap : capOk (.slice (some a) n0 c0) := fun a n c e => by cases e; exact hl
    have hv : ∀ i, i < n0 → ∃ s : Nd, W.cell? (a.add (i * 4)) = some (.int .i64 s.1) ∧ W.cell? (a.add (i * 4 + 1)) = some (.int .i64 s.2.1) ∧ W.cell? (a.add (i * 4 + 2)) = some (.int .i64 s.2.2.1) ∧ W.cell? (a.add (i * 4 + 3)) = some (.string (str s.2.2.2)) ∧ s.2.1 ≤ 9223372036854775807 := by
      intro i hi
      obtain ⟨cs', h1, h2⟩ := hx i (by omega)
      rw [cNd] at h1
      obtain ⟨_, hlen, hcell⟩ := World.cells?_some h1
      obtain ⟨y0, y1, y2, y3, k, _, _, g0, g1, g2, g3⟩ := Go.Joins.trod_struct4 Tryd.underlying48 h2
      match cs', hlen with
      | [v0, v1, v2, v3], _ =>
        obtain ⟨x0, e0, _, _⟩ := DataW.trod_int Tryd.underlying3 g0
        obtain ⟨x1, e1, _, w1⟩ := DataW.trod_int Tryd.underlying3 g1
        obtain ⟨x2, e2, _, _⟩ := DataW.trod_int Tryd.underlying2 g2
        obtain ⟨x3, e3, _, _⟩ := DataW.trod_string Tryd.underlying9 g3
        simp [cIntN, cI64N, cStr] at e0 e1 e2 e3
        have q0 := hcell 0 (by omega)
        have q1 := hcell 1 (by omega)
        have q2 := hcell 2 (by omega)
        have q3 := hcell 3 (by omega)
        rw [add_add] at q0 q1 q2 q3
        refine ⟨(x0, x1, x2, x3.data.toList), ?_, ?_, ?_, ?_, ?_⟩
        · rw [← e0]; simpa using q0
        · rw [← e1]; simpa using q1
        · rw [← e2]; simpa using q2
        · rw [str_data, ← e3]; simpa using q3
        · exact (bounds_i64 w1).2
    obtain ⟨F, hF⟩ := choose_lt hv
    refine ⟨_, (List.range n0).map F, hcs, ?_, hcap, ?_, fun n c e => by cases e⟩
    · by_cases h0 : n0 = 0
      · subst h0; exact .inl ⟨_, _, rfl, rfl⟩
      · obtain ⟨b, off, spot⟩ := a
        have hspot : spot = none := by simpa [Addr.add] using World.cell?_spot (hF 0 (by omega)).1
        subst hspot
        have hlen : n0 = ((List.range n0).map F).length := by simp
        refine .inr ⟨b, off, c0, by rw [← hlen], World.block_lt_of_cell? W ⟨b, off, none⟩ (by have := (hF 0 (by omega)).1; simpa [Addr.add] using this), fun j u hj => ?_⟩
        have hjl : j < n0 * 4 := by
          have := (List.getElem?_eq_some_iff.1 hj).1
          rw [dcs_len, ← hlen] at this; exact this
        have hs : ((List.range n0).map F)[j / 4]? = some (F (j / 4)) := by
          rw [List.getElem?_map, List.getElem?_range (by omega)]; rfl
        have hat := dcs_at _ hs
        obtain ⟨f0, f1, f2, f3, _⟩ := hF (j / 4) (by omega)
        rw [Go.WideShapes.add_plain] at f0 f1 f2 f3
        have hpar : j = j / 4 * 4 ∨ j = j / 4 * 4 + 1 ∨ j = j / 4 * 4 + 2 ∨ j = j / 4 * 4 + 3 := by omega
        rcases hpar with e | e | e | e
        · rw [← e] at hat f0; rw [hat.1] at hj; rw [f0, hj]
        · rw [← e] at hat f1; rw [hat.2.1] at hj; rw [f1, hj]
        · rw [← e] at hat f2; rw [hat.2.2.1] at hj; rw [f2, hj]
        · rw [← e] at hat f3; rw [hat.2.2.2] at hj; rw [f3, hj]
    · intro x hxm
      rw [List.mem_map] at hxm
      obtain ⟨i, hi, rfl⟩ := hxm
      exact (hF i (List.mem_range.1 hi)).2.2.2.2

set_option maxRecDepth 100000 in
theorem open_nodes2 {H : Type} {enc : TypeId × Value → H} {W : World} {base : Nat} {v : Value} {d : DataW H} {p : List MemPlace}
    (hval : Value.okWide Tryd.prog W .any base 22 v) (h : DataW.Trod enc Tryd.prog W 0 (fun _ => true) true 22 v d p) :
    ∃ l : List Nd, NdsAt W v l ∧ capOk v ∧ KidsB l ∧ nilOk v := by
  obtain ⟨fuel, hf⟩ := h
  obtain ⟨a0, n0, c0, rfl⟩ := okWide_slice Tryd.underlying22 hval
  obtain ⟨v', l, e, h1, h2, h3, h4⟩ := open_nodes_cs hf
  simp [Value.cells] at e
  rw [← e] at h1 h2 h4
  exact ⟨l, h1, h2, h3, h4⟩
theorem cNds : Tryd.prog.cellsOf 22 = 1 := by kernel_rfl
set_option maxRecDepth 100000 in
/-- A slice of slices of nodes that came in. -/
theorem open_parts {H : Type} {enc : TypeId × Value → H} {W : World} {base : Nat} {v : Value} {d : DataW H} {p : List MemPlace}
    (hval : Value.okWide Tryd.prog W .any base 37 v) (h : DataW.Trod enc Tryd.prog W 0 (fun _ => true) true 37 v d p) :
    ∃ ts : List (List Nd), RowsAt W v ts ∧ ∀ t ∈ ts, KidsB t := by
  obtain ⟨fuel, hf⟩ := h
  obtain ⟨a0, n0, c0, rfl⟩ := okWide_slice Tryd.underlying37 hval
  rcases open_slice Tryd.underlying37 hf with ⟨hcs, _⟩ | ⟨a, len, cap, m, n, D, Pl, hcs, _, hl, hm, hmm, _, hx⟩
  · simp [Value.cells] at hcs
    obtain ⟨rfl, rfl, rfl⟩ := hcs
    exact ⟨[], ⟨none, 0, rfl, .inl rfl⟩, fun x hx => by cases hx⟩
  · simp [Value.cells] at hcs
    obtain ⟨rfl, rfl, rfl⟩ := hcs
    have hnm : n0 ≤ m := by rw [hmm]; simp; exact hl
    have hv : ∀ i, i < n0 → ∃ s : Value × List Nd, W.cell? (a.add i) = some s.1 ∧ NdsAt W s.1 s.2 ∧ KidsB s.2 := by
      intro i hi
      obtain ⟨cs', h1, h2⟩ := hx i (by omega)
      rw [cNds] at h1
      obtain ⟨_, hlen, hcell⟩ := World.cells?_some h1
      obtain ⟨v', l, e, g1, g2, g3, _⟩ := open_nodes_cs h2
      subst e
      have q0 := hcell 0 (by omega)
      rw [add_add] at q0
      refine ⟨(v', l), ?_, g1, g3⟩
      simpa using q0
    obtain ⟨F, hF⟩ := choose_lt hv
    refine ⟨(List.range n0).map fun i => (F i).2, ?_, fun t ht => ?_⟩
    · refine ⟨some a, c0, by simp, ?_⟩
      by_cases h0 : n0 = 0
      · subst h0; exact .inl rfl
      · obtain ⟨b, off, spot⟩ := a
        have hspot : spot = none := by simpa [Addr.add] using World.cell?_spot (hF 0 (by omega)).1
        subst hspot
        refine .inr ⟨b, off, rfl, World.block_lt_of_cell? W ⟨b, off, none⟩ (by have := (hF 0 (by omega)).1; simpa [Addr.add] using this), fun j t hj => ?_⟩
        have hjl : j < n0 := by
          have := (List.getElem?_eq_some_iff.1 hj).1
          simpa using this
        rw [List.getElem?_map, List.getElem?_range hjl] at hj
        obtain rfl := Option.some.inj hj
        obtain ⟨f0, f1, _⟩ := hF j hjl
        rw [Go.WideShapes.add_plain] at f0
        exact ⟨_, f0, f1⟩
    · obtain ⟨i, hi, rfl⟩ := List.mem_map.1 ht
      exact (hF i (List.mem_range.1 hi)).2.2

set_option maxRecDepth 100000 in
/-- append([]api.DtNode{}, t...). -/
theorem copy_run {v : Value} {t : List Nd} {W : World} (h : NdsAt W v t) (hn : nilOk v) (hl : t.length ≤ 1000) :
    ∃ a' c' w', (Builtin.append_ #[22, 22] 22 #[.slice (some ⟨W.heap.size, 0, none⟩) 0 0, v]).run Tryd.prog (W.alloc (.cells #[] 48)) = .ok (.slice a' t.length c') w' ∧ NdsAt w' (.slice a' t.length c') t ∧ Below W.heap.size W w' := by
  obtain ⟨i0, hi, hz0, hz1, hz2⟩ := info_parts2 infoNd
  have ho := own_empty W 48 4 W.heap.size (Nat.le_refl _)
  have hb := below_b1 W (.cells #[] 48)
  obtain ⟨a, c, rfl⟩ := h.slice
  cases a with
  | none =>
    obtain ⟨h1, h2⟩ := hn _ _ rfl
    have ht := List.length_eq_zero_iff.1 h1
    subst ht
    subst h2
    have hr := run_append_owned_none (P := Tryd.prog) (w := W.alloc (.cells #[] 48)) W.heap.size 22 22 48 i0 4 Tryd.underlying22 hi _ 0 [] ho
    exact ⟨_, _, _, hr, .inl ⟨_, _, rfl, rfl⟩, hb⟩
  | some ad =>
    have hc : ∀ (j : Nat) (u : Value), (dcs t)[j]? = some u → (W.alloc (.cells #[] 48)).cell? (ad.add j) = some u := by
      intro j u hj
      rcases h with ⟨_, _, _, rfl⟩ | ⟨g, off, cap, e, hg, hc⟩
      · cases hj
      · cases e
        rw [Go.WideShapes.add_plain, World.cell?_alloc_lt _ _ _ hg]
        exact hc j u hj
    obtain ⟨v', w', hr, h2, h3, _⟩ := run_append_own (P := Tryd.prog) (W.alloc (.cells #[] 48)) W.heap.size 22 22 48 i0 zeroNd 4 40 Tryd.underlying22 hi hz0 hz1 hz2 rfl (by decide) _ 0 [] ho ad t.length c (dcs t) (dcs_len t) hc (one_dcs t) (by unfold maxLen; omega) (by omega) hb.size
    rw [Nat.zero_add, List.nil_append] at h2
    obtain ⟨a', c', rfl, hN, _⟩ := nds_own h2 rfl
    exact ⟨a', c', w', hr, hN, hb.grown h3 hb.size (fun k hk => (ho.lt k hk).1)⟩
end Go.Proofs.YtdbgmbbchjfpdaaDoor
