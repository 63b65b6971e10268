/- What the rows' list gives in layer 3; a world for the witness; the arguments of the laws of layer 3, opened. -/
import Derived.Test.YtbajikkjkiacnaaDoorCards
import Derived.Test.YtbajikkjkiacnaaDoorTie
import Derived.ProofKit
import Derived.LaidMore
import Derived.OpenShut
import Derived.Stop.LaidErr
import Derived.Lib.LaidTab
import Derived.Deep.DeepHandedRow
import Derived.ChangeSlices
import Derived.Deep.SlicePairs
import Derived.Test.YtbajikkjkiacnaaDoorPawake
namespace Go.Proofs.YtbajikkjkiacnaaDoor
open Go.ChangeShapes Go.WideShapes Go.ChangeAt Go.RowKit Go.Deep

set_option maxRecDepth 100000 in
theorem door_met (os : Os) (args : Array Value) : laidMetH Tryd.prog Rows.spansOrderRow.laid ((World.doorLaid Tryd.prog 2000 os).forCall (fun _ _ => 0) ⟨#[], args, []⟩).memory :=
  laidMetH_of_parts3 (fuel := 8) (laidMet_of_run' 8 (by kernel_rfl) (by kernel_rfl)) (by kernel_rfl) (by kernel_rfl)

theorem own : ownKnob Tryd.prog.godebug = none := by kernel_rfl
theorem laidOut : laidOutB Tryd.prog = true := by kernel_rfl
theorem gMar : Tryd.prog.globalNamed "mummer/runes.marks" = some 0 := by kernel_rfl
theorem tMar : (Tryd.prog.globals[0]?).map (·.type) = some 87 := by kernel_rfl
theorem cmar_all : Tryd.prog.cellsOf 87 = 5 := by kernel_rfl
theorem cI32 : Tryd.prog.cellsOf 21 = 1 := by kernel_rfl
theorem mar_elem {H : Type} {enc : TypeId × Value → H} {w : World} {base : Nat} {sp : Nat → Bool} {held : Bool} {fuel : Nat} {cs : List Value} {a : Int} {p : List MemPlace}
    (h : DataW.trod enc Tryd.prog w base sp held fuel 21 cs = some (.lit (.int .i32 a), p)) : cs = [.int .i32 a] := by
  obtain ⟨k, e, f, _⟩ := DataW.trod_int Tryd.underlying21 h
  simp only [Prod.mk.injEq, DataW.lit.injEq, Lit.int.injEq, true_and] at f
  rw [e, f.1]
theorem mar_all {H : Type} {enc : TypeId × Value → H} {w : World} {base : Nat} {sp : Nat → Bool} {held : Bool} {fuel : Nat} {cs : List Value} {p : List MemPlace}
    (h : DataW.trod enc Tryd.prog w base sp held fuel 87 cs = some (Rows.laid_mummer_runes_marks, p)) : cs = [.int .i32 0, .int .i32 0, .int .i32 192, .int .i32 224, .int .i32 240] := by
  obtain ⟨xs, n, _, hx, hl, hlen, hf⟩ := DataW.trod_array Tryd.underlying87 h
  rw [cmar_all] at hl
  rw [cI32] at hf
  match cs, hl, xs, hlen with
  | [c0, c1, c2, c3, c4], _, [x0, x1, x2, x3, x4], _ =>
    obtain ⟨d0, p0⟩ := x0
    obtain ⟨d1, p1⟩ := x1
    obtain ⟨d2, p2⟩ := x2
    obtain ⟨d3, p3⟩ := x3
    obtain ⟨d4, p4⟩ := x4
    have h0 := hf 0 (by decide)
    have h1 := hf 1 (by decide)
    have h2 := hf 2 (by decide)
    have h3 := hf 3 (by decide)
    have h4 := hf 4 (by decide)
    simp only [Rows.laid_mummer_runes_marks, Prod.mk.injEq, List.map_cons, List.map_nil, DataW.agg.injEq, List.cons.injEq, and_true] at hx
    obtain ⟨⟨rfl, rfl, rfl, rfl, rfl⟩, _⟩ := hx
    have g0 := mar_elem h0
    have g1 := mar_elem h1
    have g2 := mar_elem h2
    have g3 := mar_elem h3
    have g4 := mar_elem h4
    simp at g0 g1 g2 g3 g4
    obtain rfl := g0
    obtain rfl := g1
    obtain rfl := g2
    obtain rfl := g3
    obtain rfl := g4
    rfl
theorem block_of {W : World} {g : Nat} {cs : Array Value} {name : String} (hg : Tryd.prog.globalNamed name = some g) (hv : W.var? Tryd.prog name = some cs) : ∃ t fr, W.heap[g]? = some (.cells cs t fr) := by
  unfold World.var? at hv
  rw [hg] at hv
  simp only [Option.bind_some] at hv
  cases hb : W.heap[g]? with
  | none => rw [hb] at hv; cases hv
  | some o =>
    rw [hb] at hv
    cases o with
    | cells c t fr =>
      have := Option.some.inj hv
      subst this
      exact ⟨t, fr, rfl⟩
    | _ => cases hv
set_option maxRecDepth 100000 in
/-- What the list gives. -/
theorem tabs_of {W : World} (h : laidMetH Tryd.prog Rows.spansOrderRow.laid W) : PTabs W := by
  rw [MakeChecks.laidMetH_plain _ _ _ (by kernel_rfl)] at h
  obtain ⟨ps', ⟨g1, t1, cs1, f1, p1, q1, hg1, ht1, hv1, hd1, _, _⟩, _, _⟩ := h
  obtain rfl := Option.some.inj (gMar.symm.trans hg1)
  obtain rfl := Option.some.inj (tMar.symm.trans ht1)
  obtain ⟨t', fr', hb1⟩ := block_of gMar hv1
  have e1 : cs1 = #[.int .i32 0, .int .i32 0, .int .i32 192, .int .i32 224, .int .i32 240] := Array.toList_inj.1 (mar_all hd1)
  subst e1
  exact ⟨⟨t', fr', hb1⟩, (Array.getElem?_eq_some_iff.1 hb1).1⟩

/-- A slice of spans that came in. -/
def SpArg (W : World) (v : Value) (l : List Sp) : Prop := ∃ a n c, v = .slice a n c ∧ n = l.length ∧ n ≤ c ∧ SpsAt W (.slice a n c) l
theorem cSp : Tryd.prog.cellsOf 25 = 2 := by kernel_rfl
theorem cInt : Tryd.prog.cellsOf 3 = 1 := by kernel_rfl
set_option maxRecDepth 100000 in
theorem sp_cells {H : Type} {enc : TypeId × Value → H} {w : World} {base : Nat} {sp : Nat → Bool} {held : Bool} {fuel : Nat} {cs : List Value} {x : DataW H × List MemPlace}
    (h : DataW.trod enc Tryd.prog w base sp held fuel 25 cs = some x) : ∃ a b, cs = [.int .i64 a, .int .i64 b] := by
  obtain ⟨y0, y1, n, hx, hl, h0, h1⟩ := trod_struct2 Tryd.underlying25 h
  rw [cSp] at hl
  match cs, hl with
  | [c0, c1], _ =>
    simp only [cInt] at h0 h1
    obtain ⟨a, e0, _, _⟩ := DataW.trod_int Tryd.underlying3 h0
    obtain ⟨b, e1, _, _⟩ := DataW.trod_int Tryd.underlying3 h1
    simp at e0 e1
    exact ⟨a, b, by rw [e0, e1]⟩
set_option maxRecDepth 100000 in
theorem open_span {H : Type} {enc : TypeId × Value → H} {W : World} {base : Nat} {v : Value} {d : DataW H} {p : List MemPlace}
    (hval : Value.okWide Tryd.prog W .any base 25 v) (h : DataW.Trod enc Tryd.prog W 0 (fun _ => true) true 25 v d p) :
    ∃ s : Sp, v = .agg #[.int .i64 s.1, .int .i64 s.2] := by
  obtain ⟨cs, rfl, hsz⟩ := okWide_struct Tryd.underlying25 hval
  obtain ⟨fuel, hf⟩ := h
  obtain ⟨a, b, e⟩ := sp_cells hf
  refine ⟨(a, b), ?_⟩
  congr 1
  exact Array.toList_inj.1 e
set_option maxRecDepth 100000 in
theorem open_spans {H : Type} {enc : TypeId × Value → H} {W : World} {base : Nat} {v : Value} {d : DataW H} {p : List MemPlace}
    (hval : Value.okWide Tryd.prog W .any base 22 v) (h : DataW.Trod enc Tryd.prog W 0 (fun _ => true) true 22 v d p) :
    ∃ l : List Sp, SpArg W v l := by
  obtain ⟨fuel, hf⟩ := h
  obtain ⟨a0, n0, c0, rfl⟩ := okWide_slice Tryd.underlying22 hval
  rcases open_slice_pairs Tryd.underlying22 Tryd.underlying25 cSp rfl rfl cInt cInt hf with ⟨hcs, _⟩ | ⟨a, len, cap, m, n, V0, V1, D0, D1, P0, P1, hcs, _, hl, hm, hmm, _, hcell⟩
  · simp [Value.cells] at hcs
    obtain ⟨rfl, rfl, rfl⟩ := hcs
    exact ⟨[], _, _, _, rfl, rfl, Nat.le_refl _, .inl ⟨_, _, rfl, rfl⟩⟩
  · simp [Value.cells] at hcs
    obtain ⟨rfl, rfl, rfl⟩ := hcs
    have hnm : n0 ≤ m := by rw [hmm]; simp; exact hl
    have hv : ∀ i, i < n0 → ∃ s : Sp, W.cell? (a.add (i * 2)) = some (.int .i64 s.1) ∧ W.cell? (a.add (i * 2 + 1)) = some (.int .i64 s.2) := by
      intro i hi
      obtain ⟨q0, q1, t0, t1⟩ := hcell i (by omega)
      obtain ⟨x, e0, _, _⟩ := DataW.trod_int Tryd.underlying3 t0
      obtain ⟨y, e1, _, _⟩ := DataW.trod_int Tryd.underlying3 t1
      simp at e0 e1
      exact ⟨(x, y), by rw [q0, e0], by rw [q1, e1]⟩
    obtain ⟨F, hF⟩ := choose_lt hv
    refine ⟨(List.range n0).map F, _, _, _, rfl, by simp, hl, ?_⟩
    by_cases h0 : n0 = 0
    · subst h0; exact .inl ⟨_, _, rfl, rfl⟩
    · obtain ⟨b, off, spot⟩ := a
      have hspot : spot = none := by simpa [Addr.add] using World.cell?_spot (hF 0 (by omega)).1
      subst hspot
      have hlen : n0 = ((List.range n0).map F).length := by simp
      refine .inr ⟨b, off, c0, by rw [← hlen], World.block_lt_of_cell? W ⟨b, off, none⟩ (by have := (hF 0 (by omega)).1; simpa [Addr.add] using this), fun j u hj => ?_⟩
      have hjl : j < n0 * 2 := by
        have := (List.getElem?_eq_some_iff.1 hj).1
        rw [scs_len, ← hlen] at this; exact this
      have hs : ((List.range n0).map F)[j / 2]? = some (F (j / 2)) := by
        rw [List.getElem?_map, List.getElem?_range (by omega)]; rfl
      have hat := scs_at _ hs
      obtain ⟨f0, f1⟩ := hF (j / 2) (by omega)
      rw [Go.WideShapes.add_plain] at f0 f1
      by_cases hpar : j % 2 = 0
      · have e : j / 2 * 2 = j := by omega
        rw [e] at hat f0
        rw [hat.1] at hj
        rw [f0, hj]
      · have e : j / 2 * 2 + 1 = j := by omega
        rw [e] at hat f1
        rw [hat.2] at hj
        rw [f1, hj]
end Go.Proofs.YtbajikkjkiacnaaDoor
