/- Names as arguments: a struct of two slices of strings. -/
import Derived.Test.YtkngkajojcmmlaaDoorDdoor
import Derived.Test.YtkngkajojcmmlaaDoorDxs
namespace Go.Proofs.YtkngkajojcmmlaaDoor
open Go.ChangeShapes Go.WideShapes Go.ChangeAt Go.RowKit Go.Deep

set_option maxRecDepth 100000 in
theorem open_strs_cs {H : Type} {enc : TypeId × Value → H} {W : World} {fuel : Nat} {cs : List Value} {x : DataW H × List MemPlace}
    (hf : DataW.trod enc Tryd.prog W 0 (fun _ => true) true fuel 53 cs = some x) :
    ∃ (v : Value) (l : List (List UInt8)), cs = [v] ∧ StrRow W v l ∧ l.length ≤ maxLen := by
  rcases open_slice Tryd.underlying53 hf with ⟨hcs, _⟩ | ⟨a, n0, c0, m, n, D, Pl, hcs, _, hl, hm, hmm, _, hx⟩
  · exact ⟨_, [], hcs, ⟨none, 0, rfl, .inl rfl⟩, Nat.zero_le _⟩
  · have hnm : n0 ≤ m := by rw [hmm]; simp; exact hl
    have hv : ∀ i, i < n0 → ∃ s : List UInt8, W.cell? (a.add i) = some (.string (str s)) := by
      intro i hi
      obtain ⟨cs', h1, h2⟩ := hx i (by omega)
      rw [cStr] at h1
      obtain ⟨_, hlen, hcell⟩ := World.cells?_some h1
      obtain ⟨y, e, _, _⟩ := DataW.trod_string Tryd.underlying9 h2
      subst e
      have q0 := hcell 0 (by omega)
      rw [add_add] at q0
      refine ⟨y.data.toList, ?_⟩
      rw [str_data]
      simpa using q0
    obtain ⟨F, hF⟩ := choose_lt hv
    refine ⟨_, (List.range n0).map F, hcs, ⟨some a, c0, by simp, ?_⟩, by simp; omega⟩
    by_cases h0 : n0 = 0
    · subst h0; exact .inl rfl
    · obtain ⟨b, off, spot⟩ := a
      have hspot : spot = none := by simpa [Addr.add] using World.cell?_spot (hF 0 (by omega))
      subst hspot
      refine .inr ⟨b, off, rfl, World.block_lt_of_cell? W ⟨b, off, none⟩ (by have := hF 0 (by omega); simpa [Addr.add] using this), fun j s hj => ?_⟩
      have hjl : j < n0 := by
        have := (List.getElem?_eq_some_iff.1 hj).1
        simpa using this
      rw [List.getElem?_map, List.getElem?_range hjl] at hj
      obtain rfl := Option.some.inj hj
      have f0 := hF j hjl
      rw [Go.WideShapes.add_plain] at f0
      exact f0
theorem cStrs : Tryd.prog.cellsOf 53 = 1 := by kernel_rfl
theorem cNames : Tryd.prog.cellsOf 55 = 2 := by kernel_rfl
set_option maxRecDepth 100000 in
theorem open_names {H : Type} {enc : TypeId × Value → H} {W : World} {base : Nat} {v : Value} {d : DataW H} {p : List MemPlace}
    (hval : Value.okWide Tryd.prog W .any base 55 v) (h : DataW.Trod enc Tryd.prog W 0 (fun _ => true) true 55 v d p) :
    ∃ (v0 v1 : Value) (l0 l1 : List (List UInt8)), v = .agg #[v0, v1] ∧ StrRow W v0 l0 ∧ StrRow W v1 l1 := by
  obtain ⟨cs, rfl, hsz⟩ := okWide_struct Tryd.underlying55 hval
  obtain ⟨fuel, hf⟩ := h
  have hf' : DataW.trod enc Tryd.prog W 0 (fun _ => true) true fuel 55 cs.toList = some (d, p) := hf
  obtain ⟨y0, y1, n, hx, hl, h0, h1⟩ := trod_struct2 Tryd.underlying55 hf'
  rw [cNames] at hl
  obtain ⟨c0, c1, hcs⟩ : ∃ c0 c1, cs.toList = [c0, c1] := by
    match hm : cs.toList, hl with
    | [c0, c1], _ => exact ⟨c0, c1, rfl⟩
  have hcs' : cs = #[c0, c1] := Array.toList_inj.1 hcs
  rw [hcs] at h0 h1
  simp only [cStrs] at h0 h1
  obtain ⟨v0, l0, e0, r0, _⟩ := open_strs_cs h0
  obtain ⟨v1, l1, e1, r1, _⟩ := open_strs_cs h1
  simp at e0 e1
  subst e0 e1
  exact ⟨_, _, l0, l1, by rw [hcs'], r0, r1⟩
end Go.Proofs.YtkngkajojcmmlaaDoor
