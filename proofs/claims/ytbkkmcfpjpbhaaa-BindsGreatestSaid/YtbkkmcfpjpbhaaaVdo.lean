/- A world for the witness; tables, bindings and their arrays that came in. -/
import Derived.Test.YtbkkmcfpjpbhaaaRows
import Derived.ProofKit
import Derived.LaidMore
import Derived.OpenShut
import Derived.Stop.LaidErr
import Derived.Stop.Texts
import Derived.Lib.LaidTab
import Derived.Deep.DeepHandedRow
import Derived.Lay
import Derived.SevenTiedAt
import Derived.Stop.Joined
import Derived.ChangeSlices
import Derived.Deep.SlicePairs
import Derived.Lib.SmallJoins
import Derived.Test.YtbkkmcfpjpbhaaaVk
namespace Go.Proofs.Ytbkkmcfpjpbhaaa
open Go.ChangeShapes Go.WideShapes Go.ChangeAt Go.RowKit Go.Deep

theorem own : ownKnob Try.prog.godebug = none := by kernel_rfl
theorem met_none {w : World} : laidMetH Try.prog [] w := by
  show laidMet Try.prog [] w
  exact ⟨[], rfl, List.nodup_nil, fun b off h => by cases h⟩
theorem cBn : Try.prog.cellsOf 24 = 4 := by kernel_rfl
theorem cIntV : Try.prog.cellsOf 3 = 1 := by kernel_rfl
theorem cStrV : Try.prog.cellsOf 9 = 1 := by kernel_rfl
set_option maxRecDepth 100000 in
theorem bd_cells {H : Type} {enc : TypeId × Value → H} {w : World} {base : Nat} {sp : Nat → Bool} {held : Bool} {fuel : Nat} {cs : List Value} {x : DataW H × List MemPlace}
    (h : DataW.trod enc Try.prog w base sp held fuel 24 cs = some x) : ∃ s : Bd, cs = bdC s := by
  obtain ⟨y0, y1, y2, y3, k, _, hl, g0, g1, g2, g3⟩ := Go.Joins.trod_struct4 Try.underlying24 h
  rw [cBn] at hl
  match cs, hl with
  | [v0, v1, v2, v3], _ =>
    obtain ⟨x0, e0, _, _⟩ := DataW.trod_string Try.underlying9 g0
    obtain ⟨x1, e1, _, _⟩ := DataW.trod_string Try.underlying9 g1
    obtain ⟨x2, e2, _, _⟩ := DataW.trod_int Try.underlying3 g2
    obtain ⟨x3, e3, _, _⟩ := DataW.trod_int Try.underlying3 g3
    simp [cIntV, cStrV] at e0 e1 e2 e3
    subst e0 e1 e2 e3
    refine ⟨⟨x0.data.toList, x1.data.toList, x2, x3⟩, ?_⟩
    unfold bdC; rw [str_data, str_data]
theorem open_bd {H : Type} {enc : TypeId × Value → H} {W : World} {base : Nat} {v : Value} {d : DataW H} {p : List MemPlace}
    (hval : Value.okWide Try.prog W .any base 24 v) (h : DataW.Trod enc Try.prog W 0 (fun _ => true) true 24 v d p) : ∃ s : Bd, v = bdA s := by
  obtain ⟨cs, rfl, hsz⟩ := okWide_struct Try.underlying24 hval
  obtain ⟨fuel, hf⟩ := h
  obtain ⟨s, hs⟩ := bd_cells hf
  obtain ⟨l⟩ := cs
  refine ⟨s, ?_⟩
  have : l = bdC s := by simpa [Value.cells] using hs
  rw [this]; rfl
set_option maxRecDepth 100000 in
/-- A slice of bindings that came in. -/
theorem open_bds {H : Type} {enc : TypeId × Value → H} {W : World} {base : Nat} {v : Value} {d : DataW H} {p : List MemPlace}
    (hval : Value.okWide Try.prog W .any base 22 v) (h : DataW.Trod enc Try.prog W 0 (fun _ => true) true 22 v d p) :
    ∃ l : List Bd, BsAt W v l := by
  obtain ⟨fuel, hf⟩ := h
  obtain ⟨a0, n0, c0, rfl⟩ := okWide_slice Try.underlying22 hval
  rcases open_slice Try.underlying22 hf with ⟨hcs, _⟩ | ⟨a, len, cap, m, n, D, Pl, hcs, _, hl, hm, hmm, _, hx⟩
  · simp [Value.cells] at hcs
    obtain ⟨rfl, rfl, rfl⟩ := hcs
    exact ⟨[], bs_nil _ _ _⟩
  · simp [Value.cells] at hcs
    obtain ⟨rfl, rfl, rfl⟩ := hcs
    have hnm : n0 ≤ m := by rw [hmm]; simp; exact hl
    have hv : ∀ i, i < n0 → ∃ s : Bd, ∀ (j : Nat) (u : Value), (bdC s)[j]? = some u → W.cell? ((a.add (i * 4)).add j) = some u := by
      intro i hi
      obtain ⟨cs', h1, h2⟩ := hx i (by omega)
      rw [cBn] at h1
      obtain ⟨_, hlen, hcell⟩ := World.cells?_some h1
      obtain ⟨s, hs⟩ := bd_cells h2
      subst hs
      exact ⟨s, fun j u hj => (hcell j (by have := (List.getElem?_eq_some_iff.1 hj).1; omega)).trans hj⟩
    obtain ⟨F, hF⟩ := choose_lt hv
    refine ⟨(List.range n0).map F, ?_⟩
    have hlen : n0 = ((List.range n0).map F).length := by simp
    refine ⟨_, n0, c0, rfl, hlen, hl, ?_⟩
    by_cases h0 : n0 = 0
    · left; subst h0; rfl
    · right
      obtain ⟨b, off, spot⟩ := a
      have hc0 := hF 0 (by omega) 0 _ rfl
      have hspot : spot = none := by simpa [Addr.add] using World.cell?_spot hc0
      subst hspot
      refine ⟨b, off, rfl, World.block_lt_of_cell? W ⟨b, off, none⟩ (by simpa [Addr.add] using hc0), fun j u hj => ?_⟩
      have hjl : j < n0 * 4 := by
        have := (List.getElem?_eq_some_iff.1 hj).1
        rw [bcs_len, ← hlen] at this; exact this
      have hs : ((List.range n0).map F)[j / 4]? = some (F (j / 4)) := by
        rw [List.getElem?_map, List.getElem?_range (by omega)]; rfl
      have h8 : j % 4 < (bdC (F (j / 4))).length := by show j % 4 < 4; omega
      have hat := bcs_at _ hs (j % 4) _ (List.getElem?_eq_getElem h8)
      rw [show j / 4 * 4 + j % 4 = j by omega] at hat
      have hu := Option.some.inj (hat.symm.trans hj)
      have hc := hF (j / 4) (by omega) (j % 4) _ (List.getElem?_eq_getElem h8)
      rw [hu, Go.WideShapes.add_plain, Go.WideShapes.add_plain, Nat.add_assoc, show j / 4 * 4 + j % 4 = j by omega] at hc
      exact hc
set_option maxRecDepth 100000 in
/-- Two strings in an array that came in. -/
theorem open_ss2 {H : Type} {enc : TypeId × Value → H} {W : World} {base : Nat} {v : Value} {d : DataW H} {p : List MemPlace}
    (hval : Value.okWide Try.prog W .any base 45 v) (h : DataW.Trod enc Try.prog W 0 (fun _ => true) true 45 v d p) :
    ∃ s : ByteArray × ByteArray, v = .agg #[.string s.1, .string s.2] := by
  obtain ⟨cs, rfl⟩ : ∃ cs, v = .agg cs := by
    simp only [Value.okWide, Try.underlying45] at hval
    obtain ⟨cs, h1, _⟩ := hval
    exact ⟨cs, h1⟩
  obtain ⟨fuel, hf⟩ := h
  obtain ⟨xs, n, _, _, hl, hlen, hg⟩ := DataW.trod_array Try.underlying45 hf
  have hc : Try.prog.cellsOf 45 = 2 := by kernel_rfl
  obtain ⟨l⟩ := cs
  have hl6 : l.length = 2 := by rw [hc] at hl; simpa [Value.cells] using hl
  match l, hl6, xs, hlen with
  | [c0, c1], _, [x0, x1], _ =>
    have g0 := hg 0 (by decide)
    have g1 := hg 1 (by decide)
    simp only [Value.cells] at g0 g1
    obtain ⟨a0, e0, _, _⟩ := DataW.trod_string Try.underlying9 g0
    obtain ⟨a1, e1, _, _⟩ := DataW.trod_string Try.underlying9 g1
    rw [cStrV] at e0 e1
    simp at e0 e1
    subst e0 e1
    exact ⟨(a0, a1), rfl⟩
set_option maxRecDepth 100000 in
/-- Three bindings in an array that came in. -/
theorem open_bd3 {H : Type} {enc : TypeId × Value → H} {W : World} {base : Nat} {v : Value} {d : DataW H} {p : List MemPlace}
    (hval : Value.okWide Try.prog W .any base 50 v) (h : DataW.Trod enc Try.prog W 0 (fun _ => true) true 50 v d p) :
    ∃ s : Bd × Bd × Bd, v = .agg (bcs [s.1, s.2.1, s.2.2]).toArray := by
  obtain ⟨cs, rfl⟩ : ∃ cs, v = .agg cs := by
    simp only [Value.okWide, Try.underlying50] at hval
    obtain ⟨cs, h1, _⟩ := hval
    exact ⟨cs, h1⟩
  obtain ⟨fuel, hf⟩ := h
  obtain ⟨xs, n, _, _, hl, hlen, hg⟩ := DataW.trod_array Try.underlying50 hf
  have hc : Try.prog.cellsOf 50 = 12 := by kernel_rfl
  obtain ⟨l⟩ := cs
  have hl6 : l.length = 12 := by rw [hc] at hl; simpa [Value.cells] using hl
  match l, hl6, xs, hlen with
  | [c0, c1, c2, c3, c4, c5, c6, c7, c8, c9, c10, c11], _, [x0, x1, x2], _ =>
    have g0 := hg 0 (by decide)
    have g1 := hg 1 (by decide)
    have g2 := hg 2 (by decide)
    simp only [Value.cells] at g0 g1 g2
    obtain ⟨a0, e0⟩ := bd_cells g0
    obtain ⟨a1, e1⟩ := bd_cells g1
    obtain ⟨a2, e2⟩ := bd_cells g2
    rw [cBn] at e0 e1 e2
    simp at e0 e1 e2
    refine ⟨(a0, a1, a2), ?_⟩
    have e : bcs [a0, a1, a2] = bdC a0 ++ (bdC a1 ++ (bdC a2 ++ [])) := rfl
    rw [e, ← e0, ← e1, ← e2]; rfl
-- MARK9
end Go.Proofs.Ytbkkmcfpjpbhaaa
