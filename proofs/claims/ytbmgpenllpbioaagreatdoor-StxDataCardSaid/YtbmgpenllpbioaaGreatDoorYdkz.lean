/- A datum that came in. -/
import Derived.Test.YtbmgpenllpbioaaGreatDoorYo
import Derived.Test.YtbmgpenllpbioaaGreatDoorYdlz
namespace Go.Proofs.YtbmgpenllpbioaaGreatDoor
open Go.ChangeShapes Go.WideShapes Go.ChangeAt Go.RowKit Go.Deep Go.Joins

theorem add_addX (a : Addr) (i j : Nat) : (a.add i).add j = a.add (i + j) := by
  obtain ⟨b, o, s⟩ := a
  by_cases hi : i = 0
  · subst hi; simp [Addr.add]
  · by_cases hj : j = 0
    · subst hj; simp [Addr.add, hi]
    · simp [Addr.add, hi, hj, Nat.add_assoc]
theorem cDat : Tryz.prog.cellsOf 47 = 2 := by kernel_rfl
theorem cSlD : Tryz.prog.cellsOf 44 = 1 := by kernel_rfl
theorem cSlS : Tryz.prog.cellsOf 45 = 1 := by kernel_rfl
theorem cDn : Tryz.prog.cellsOf 49 = 4 := by kernel_rfl
set_option maxRecDepth 100000 in
theorem open_nodesC {H : Type} {enc : TypeId × Value → H} {W : World} {base : Nat} {sp : Nat → Bool} {held : Bool} {fuel : Nat} {c : Value} {d : DataW H} {p : List MemPlace}
    (hf : DataW.trod enc Tryz.prog W base sp held fuel 44 [c] = some (d, p)) : ∃ l : List Nd, NdsAt W c l ∧ KidsB l := by
  rcases open_slice Tryz.underlying44 hf with ⟨hcs, _⟩ | ⟨a, n0, c0, m, n, D, Pl, hcs, _, hl, hm, hmm, _, hx⟩
  · simp at hcs
    subst hcs
    exact ⟨[], .inl ⟨_, _, rfl, rfl⟩, fun x hx => by cases hx⟩
  · simp at hcs
    subst hcs
    have hnm : n0 ≤ m := by rw [hmm]; split <;> omega
    have hv : ∀ i, i < n0 → ∃ s : Nd, W.cell? (a.add (i * 4)) = some (.int .i64 s.1) ∧ W.cell? (a.add (i * 4 + 1)) = some (.int .i64 s.2.1) ∧ W.cell? (a.add (i * 4 + 2)) = some (.int .i64 s.2.2.1) ∧ W.cell? (a.add (i * 4 + 3)) = some (.string (str s.2.2.2)) ∧ s.2.1 ≤ 9223372036854775807 := by
      intro i hi
      obtain ⟨cs', h1, h2⟩ := hx i (by omega)
      rw [cDn] at h1
      obtain ⟨_, hlen, hcell⟩ := World.cells?_some h1
      obtain ⟨y0, y1, y2, y3, k, _, _, g0, g1, g2, g3⟩ := Go.Joins.trod_struct4 Tryz.underlying49 h2
      match cs', hlen with
      | [v0, v1, v2, v3], _ =>
        obtain ⟨x0, e0, _, _⟩ := DataW.trod_int Tryz.underlying3 g0
        obtain ⟨x1, e1, _, w1⟩ := DataW.trod_int Tryz.underlying3 g1
        obtain ⟨x2, e2, _, _⟩ := DataW.trod_int Tryz.underlying2 g2
        obtain ⟨x3, e3, _, _⟩ := DataW.trod_string Tryz.underlying9 g3
        simp [cIntX, cI64X, cStr] at e0 e1 e2 e3
        have q0 := hcell 0 (by omega)
        have q1 := hcell 1 (by omega)
        have q2 := hcell 2 (by omega)
        have q3 := hcell 3 (by omega)
        rw [add_addX] at q0 q1 q2 q3
        refine ⟨(x0, x1, x2, x3.data.toList), ?_, ?_, ?_, ?_, ?_⟩
        · rw [← e0]; simpa using q0
        · rw [← e1]; simpa using q1
        · rw [← e2]; simpa using q2
        · rw [str_data, ← e3]; simpa using q3
        · exact (bounds_i64 w1).2
    obtain ⟨F, hF⟩ := choose_lt hv
    refine ⟨(List.range n0).map F, ?_, ?_⟩
    · by_cases h0 : n0 = 0
      · subst h0; exact .inl ⟨_, _, rfl, rfl⟩
      · obtain ⟨b, off, spot⟩ := a
        have hspot : spot = none := by simpa [Addr.add] using World.cell?_spot (hF 0 (by omega)).1
        subst hspot
        have hlen : n0 = ((List.range n0).map F).length := by simp
        refine .inr ⟨b, off, c0, by rw [← hlen], World.block_lt_of_cell? W ⟨b, off, none⟩ (by have := (hF 0 (by omega)).1; simpa [Addr.add] using this), fun j u hj => ?_⟩
        have hjl : j < n0 * 4 := by
          have := (List.getElem?_eq_some_iff.1 hj).1
          rw [dcs_len, ← hlen] at this; exact this
        have hs : ((List.range n0).map F)[j / 4]? = some (F (j / 4)) := by
          rw [List.getElem?_map, List.getElem?_range (by omega)]; rfl
        have hat := dcs_at _ hs
        obtain ⟨f0, f1, f2, f3, _⟩ := hF (j / 4) (by omega)
        rw [Go.WideShapes.add_plain] at f0 f1 f2 f3
        have hpar : j = j / 4 * 4 ∨ j = j / 4 * 4 + 1 ∨ j = j / 4 * 4 + 2 ∨ j = j / 4 * 4 + 3 := by omega
        rcases hpar with e | e | e | e
        · rw [← e] at hat f0; rw [hat.1] at hj; rw [f0, hj]
        · rw [← e] at hat f1; rw [hat.2.1] at hj; rw [f1, hj]
        · rw [← e] at hat f2; rw [hat.2.2.1] at hj; rw [f2, hj]
        · rw [← e] at hat f3; rw [hat.2.2.2] at hj; rw [f3, hj]
    · intro x hxm
      rw [List.mem_map] at hxm
      obtain ⟨i, hi, rfl⟩ := hxm
      exact (hF i (List.mem_range.1 hi)).2.2.2.2
set_option maxRecDepth 100000 in
theorem open_spansC {H : Type} {enc : TypeId × Value → H} {W : World} {base : Nat} {sp : Nat → Bool} {held : Bool} {fuel : Nat} {c : Value} {d : DataW H} {p : List MemPlace}
    (hf : DataW.trod enc Tryz.prog W base sp held fuel 45 [c] = some (d, p)) : ∃ l : List (Int × Int), SpAt W c l := by
  rcases open_slice Tryz.underlying45 hf with ⟨hcs, _⟩ | ⟨a, n0, c0, m, n, D, Pl, hcs, _, hl, hm, hmm, _, hx⟩
  · simp at hcs
    subst hcs
    exact ⟨[], ⟨_, _, _, rfl, rfl, .inl rfl⟩⟩
  · simp at hcs
    subst hcs
    have hnm : n0 ≤ m := by rw [hmm]; split <;> omega
    have hv : ∀ i, i < n0 → ∃ s : Int × Int, W.cell? (a.add (i * 2)) = some (.int .i64 s.1) ∧ W.cell? (a.add (i * 2 + 1)) = some (.int .i64 s.2) := by
      intro i hi
      obtain ⟨cs', h1, h2⟩ := hx i (by omega)
      rw [cSpX] at h1
      obtain ⟨_, hlen, hcell⟩ := World.cells?_some h1
      obtain ⟨y0, y1, k, _, _, g0, g1⟩ := trod_struct2 Tryz.underlying26 h2
      match cs', hlen with
      | [v0, v1], _ =>
        obtain ⟨x0, e0, _, _⟩ := DataW.trod_int Tryz.underlying3 g0
        obtain ⟨x1, e1, _, _⟩ := DataW.trod_int Tryz.underlying3 g1
        simp [cIntX] at e0 e1
        have q0 := hcell 0 (by omega)
        have q1 := hcell 1 (by omega)
        rw [add_addX] at q0 q1
        refine ⟨(x0, x1), ?_, ?_⟩
        · rw [← e0]; simpa using q0
        · rw [← e1]; simpa using q1
    obtain ⟨F, hF⟩ := choose_lt hv
    refine ⟨(List.range n0).map F, ?_⟩
    have hlen : n0 = ((List.range n0).map F).length := by simp
    refine ⟨_, n0, c0, rfl, hlen, ?_⟩
    by_cases h0 : n0 = 0
    · left; subst h0; rfl
    · right
      obtain ⟨b, off, spot⟩ := a
      have hspot : spot = none := by simpa [Addr.add] using World.cell?_spot (hF 0 (by omega)).1
      subst hspot
      refine ⟨b, off, rfl, World.block_lt_of_cell? W ⟨b, off, none⟩ (by have := (hF 0 (by omega)).1; simpa [Addr.add] using this), fun j u hj => ?_⟩
      have hjl : j < n0 * 2 := by
        have := (List.getElem?_eq_some_iff.1 hj).1
        rw [sps_len, ← hlen] at this; exact this
      have hs : ((List.range n0).map F)[j / 2]? = some (F (j / 2)) := by
        rw [List.getElem?_map, List.getElem?_range (by omega)]; rfl
      have hat := sps_at _ hs
      obtain ⟨f0, f1⟩ := hF (j / 2) (by omega)
      rw [Go.WideShapes.add_plain] at f0 f1
      have hpar : j = j / 2 * 2 ∨ j = j / 2 * 2 + 1 := by omega
      rcases hpar with e | e
      · rw [← e] at hat f0; rw [hat.1] at hj; rw [f0, hj]
      · rw [← e] at hat f1; rw [hat.2] at hj; rw [f1, hj]
set_option maxRecDepth 100000 in
/-- A datum that came in. -/
theorem open_datum {H : Type} {enc : TypeId × Value → H} {W : World} {base : Nat} {v : Value} {d : DataW H} {p : List MemPlace}
    (hval : Value.okWide Tryz.prog W .any base 47 v) (h : DataW.Trod enc Tryz.prog W 0 (fun _ => true) true 47 v d p) :
    ∃ (v0 v1 : Value) (t : List Nd) (sp : List (Int × Int)), v = .agg #[v0, v1] ∧ NdsAt W v0 t ∧ KidsB t ∧ SpAt W v1 sp := by
  obtain ⟨cs, rfl, hsz⟩ := okWide_struct Tryz.underlying47 hval
  obtain ⟨fuel, hf⟩ := h
  have hf' : DataW.trod enc Tryz.prog W 0 (fun _ => true) true fuel 47 cs.toList = some (d, p) := hf
  obtain ⟨⟨d0, p0⟩, ⟨d1, p1⟩, n, hx, hl, h0, h1⟩ := trod_struct2 Tryz.underlying47 hf'
  rw [cDat] at hl
  obtain ⟨c0, c1, hcs⟩ : ∃ c0 c1, cs.toList = [c0, c1] := by
    match hm : cs.toList, hl with
    | [c0, c1], _ => exact ⟨c0, c1, rfl⟩
  have hcs' : cs = #[c0, c1] := Array.toList_inj.1 hcs
  rw [hcs] at h0 h1
  simp only [cSlD, cSlS] at h0 h1
  obtain ⟨t, r0, k0⟩ := open_nodesC (c := c0) (by simpa using h0)
  obtain ⟨sp, r1⟩ := open_spansC (c := c1) (by simpa using h1)
  exact ⟨c0, c1, t, sp, by rw [hcs'], r0, k0, r1⟩
end Go.Proofs.YtbmgpenllpbioaaGreatDoor
