/- What the rows' list gives; a world for the witness. -/
import Derived.Test.YtnajkkbcfebegaaDoorCards
import Derived.Test.YtnajkkbcfebegaaDoorTie
import Derived.ProofKit
import Derived.LaidMore
import Derived.OpenShut
import Derived.Stop.LaidErr
import Derived.Stop.Texts
import Derived.Lib.LaidTab
import Derived.Deep.DeepHandedRow
import Derived.Test.YtnajkkbcfebegaaDoorLaw1
namespace Go.Proofs.YtnajkkbcfebegaaDoor
open Go.ChangeShapes Go.WideShapes Go.ChangeAt Go.RowKit

set_option maxRecDepth 100000 in
theorem door_met (os : Os) (args : Array Value) : laidMetH Tryd.prog Rows.wordsNamesRow.laid ((World.doorLaid Tryd.prog 2000 os).forCall (fun _ _ => 0) ⟨#[], args, []⟩).memory :=
  laidMetH_of_parts3 (fuel := 8) (laidMet_of_run' 8 (by kernel_rfl) (by kernel_rfl)) (by kernel_rfl) (by kernel_rfl)

theorem own : ownKnob Tryd.prog.godebug = none := by kernel_rfl
theorem gEsc : Tryd.prog.globalNamed "mummer/words.escapes" = some 0 := by kernel_rfl
theorem gRng : Tryd.prog.globalNamed "strconv.ErrRange" = some 2 := by kernel_rfl
theorem gPow : Tryd.prog.globalNamed "internal/strconv.uint64pow10" = some 3 := by kernel_rfl
theorem tEsc : (Tryd.prog.globals[0]?).map (·.type) = some 80 := by kernel_rfl
theorem tRng : (Tryd.prog.globals[2]?).map (·.type) = some 46 := by kernel_rfl
theorem tPow : (Tryd.prog.globals[3]?).map (·.type) = some 115 := by kernel_rfl
theorem cEsc : Tryd.prog.cellsOf 79 = 2 := by kernel_rfl
theorem cEscs : Tryd.prog.cellsOf 80 = 10 := by kernel_rfl
theorem cByte : Tryd.prog.cellsOf 5 = 1 := by kernel_rfl
theorem cU64 : Tryd.prog.cellsOf 94 = 1 := by kernel_rfl
theorem cPow : Tryd.prog.cellsOf 115 = 20 := by kernel_rfl
theorem cStr : Tryd.prog.cellsOf 9 = 1 := by kernel_rfl
theorem cErrS : Tryd.prog.cellsOf 123 = 1 := by kernel_rfl
theorem star : "*" ++ "errors.errorString" = "*errors.errorString" := by decide
theorem rowErr (u : TypeId) (h : Tryd.prog.typeName? 3 u = some "*errors.errorString") : u = 121 :=
  typeName_ptr_named (nm := "errors.errorString") (by rw [star]; kernel_rfl) (by kernel_rfl) (by decide) u (by rw [star]; exact h)

theorem list_two {α : Type} {l : List α} (h : l.length = 2) : ∃ a b, l = [a, b] := by
  match l, h with
  | [a, b], _ => exact ⟨a, b, rfl⟩
theorem esc_elem {H : Type} {enc : TypeId × Value → H} {w : World} {base : Nat} {sp : Nat → Bool} {held : Bool} {fuel : Nat} {cs : List Value} {a b : Int} {p : List MemPlace}
    (h : DataW.trod enc Tryd.prog w base sp held fuel 79 cs = some (.agg [.lit (.int .u8 a), .lit (.int .u8 b)], p)) : cs = [.int .u8 a, .int .u8 b] := by
  obtain ⟨y0, y1, n, hx, hl, h0, h1⟩ := trod_struct2 Tryd.underlying79 h
  rw [cEsc] at hl
  obtain ⟨c0, c1, rfl⟩ := list_two hl
  obtain ⟨k0, e0, f0, _⟩ := DataW.trod_int Tryd.underlying5 h0
  obtain ⟨k1, e1, f1, _⟩ := DataW.trod_int Tryd.underlying5 h1
  clear h h0 h1
  subst f0 f1
  have e0' : c0 = .int .u8 k0 := by rw [cByte] at e0; simpa using e0
  have e1' : c1 = .int .u8 k1 := by rw [cByte] at e1; simpa using e1
  simp only [Prod.mk.injEq, DataW.agg.injEq, List.cons.injEq, DataW.lit.injEq, Lit.int.injEq, true_and, and_true] at hx
  rw [e0', e1', hx.1.1, hx.1.2]
theorem esc_all {H : Type} {enc : TypeId × Value → H} {w : World} {base : Nat} {sp : Nat → Bool} {held : Bool} {fuel : Nat} {cs : List Value} {p : List MemPlace}
    (h : DataW.trod enc Tryd.prog w base sp held fuel 80 cs = some (Rows.laid_mummer_words_escapes, p)) : cs = escCells.toList := by
  obtain ⟨xs, n, _, hx, hl, hlen, hf⟩ := DataW.trod_array Tryd.underlying80 h
  rw [cEscs] at hl
  rw [cEsc] at hf
  match cs, hl, xs, hlen with
  | [c0, c1, c2, c3, c4, c5, c6, c7, c8, c9], _, [x0, x1, x2, x3, x4], _ =>
    obtain ⟨d0, p0⟩ := x0
    obtain ⟨d1, p1⟩ := x1
    obtain ⟨d2, p2⟩ := x2
    obtain ⟨d3, p3⟩ := x3
    obtain ⟨d4, p4⟩ := x4
    have h0 := hf 0 (by decide)
    have h1 := hf 1 (by decide)
    have h2 := hf 2 (by decide)
    have h3 := hf 3 (by decide)
    have h4 := hf 4 (by decide)
    simp only [Rows.laid_mummer_words_escapes, Prod.mk.injEq, List.map_cons, List.map_nil, DataW.agg.injEq, List.cons.injEq, and_true] at hx
    obtain ⟨⟨rfl, rfl, rfl, rfl, rfl⟩, _⟩ := hx
    have g0 := esc_elem h0
    have g1 := esc_elem h1
    have g2 := esc_elem h2
    have g3 := esc_elem h3
    have g4 := esc_elem h4
    simp at g0 g1 g2 g3 g4
    obtain ⟨rfl, rfl⟩ := g0
    obtain ⟨rfl, rfl⟩ := g1
    obtain ⟨rfl, rfl⟩ := g2
    obtain ⟨rfl, rfl⟩ := g3
    obtain ⟨rfl, rfl⟩ := g4
    rfl

/-- What the list gives. -/
theorem tabs_of {W : World} (h : laidMetH Tryd.prog Rows.wordsNamesRow.laid W) : Tabs W := by
  rw [MakeChecks.laidMetH_plain _ _ _ (by kernel_rfl)] at h
  have h2 := h.tail.tail
  have hp : PowIs W := Lib.tabIs_of_head gPow tPow Tryd.underlying115 Tryd.underlying94 cU64 cPow h2
  have h3 := h2.tail
  obtain ⟨a, sm, hv, _, _, _⟩ := laid_sentinel h3 gRng tRng Tryd.underlying46 rowErr Tryd.underlying121 Tryd.underlying123 rfl rfl Tryd.underlying9 cErrS cStr
  have h5 := h3.tail.tail
  obtain ⟨ps, ⟨g0, t0, cs0, f0, p0, q0, hg0, ht0, hv0, hd0, _, _⟩, _, _⟩ := h5
  obtain rfl := Option.some.inj (gEsc.symm.trans hg0)
  obtain rfl := Option.some.inj (tEsc.symm.trans ht0)
  have hcs := esc_all hd0
  have hesc : EscTab W := by
    unfold World.var? at hv0
    rw [gEsc] at hv0
    simp only [Option.bind_some] at hv0
    cases hb : W.heap[0]? with
    | none => rw [hb] at hv0; cases hv0
    | some o =>
      rw [hb] at hv0
      cases o with
      | cells c t fr =>
        have := Option.some.inj hv0
        subst this
        have e : c = escCells := Array.toList_inj.1 hcs
        subst e
        exact ⟨t, fr, hb⟩
      | _ => cases hv0
  refine ⟨hesc, hp, ⟨_, _, hv⟩, ?_, ?_⟩
  · obtain ⟨t, fr, hb⟩ := hesc; exact (Array.getElem?_eq_some_iff.1 hb).1
  · exact World.block_lt_of_cell? W ⟨3, 0, none⟩ (hp.cell gPow 0 (by decide))
theorem tabs_rng {W : World} (h : RangeIs W) : 2 < W.heap.size := by
  obtain ⟨tp, p, h⟩ := h
  exact World.block_lt_of_cell? W ⟨2, 0, none⟩ (u := .iface tp p) (by have := World.var?_cell gRng h 0; simpa using this)
theorem ties_of {W : World} (h : laidMetH Tryd.prog Rows.wordsNamesRow.laid W) : Ties W := by
  have T := tabs_of h
  intro w' hb
  exact ⟨esc_below T.esc hb T.he, pow_below T.pow hb T.hp, range_below T.rng hb (tabs_rng T.rng), Nat.lt_of_lt_of_le T.he hb.size, Nat.lt_of_lt_of_le T.hp hb.size⟩
end Go.Proofs.YtnajkkbcfebegaaDoor
