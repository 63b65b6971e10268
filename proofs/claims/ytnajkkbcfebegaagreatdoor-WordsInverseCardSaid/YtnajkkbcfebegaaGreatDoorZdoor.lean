/- What the rows' list gives at the great seat; a world for the witness. -/
import Derived.Test.YtnajkkbcfebegaaGreatDoorCards
import Derived.Test.YtnajkkbcfebegaaGreatDoorTie
import Derived.ProofKit
import Derived.LaidMore
import Derived.OpenShut
import Derived.Stop.LaidErr
import Derived.Stop.Texts
import Derived.Lib.LaidTab
import Derived.Deep.DeepHandedRow
import Derived.Test.YtnajkkbcfebegaaGreatDoorLaw1
import Derived.Test.YtnajkkbcfebegaaGreatDoorPlF
import Derived.Test.YtnajkkbcfebegaaGreatDoorShelfM
import Derived.Lay
import Derived.SevenTiedAt
import Derived.Stop.Joined
namespace Go.Proofs.YtnajkkbcfebegaaGreatDoor
open Go.ChangeShapes Go.WideShapes Go.ChangeAt Go.RowKit

set_option maxRecDepth 100000 in
theorem door_met (os : Os) (args : Array Value) : laidMetH Tryz.prog Rows.wordsListsRow.laid ((World.laidAll Tryz.prog os Rows.wordsListsRow.laid).forCall (fun _ _ => 0) ⟨#[], args, []⟩).memory := by
  rw [MakeChecks.laidMetH_plain _ _ _ (by kernel_rfl)]; exact laidMet_laidAll _ (by kernel_rfl) (by kernel_rfl)
theorem max_of {W : World} (h : W.ShapedOpen Tryz.prog) : MaxIs W := Tryz.laysM146.s1_3 W h

theorem own : ownKnob Tryz.prog.godebug = none := by kernel_rfl
theorem gEsc : Tryz.prog.globalNamed "mummer/words.escapes" = some 0 := by kernel_rfl
theorem gRng : Tryz.prog.globalNamed "strconv.ErrRange" = some 2 := by kernel_rfl
theorem gPow : Tryz.prog.globalNamed "internal/strconv.uint64pow10" = some 3 := by kernel_rfl
theorem tEsc : (Tryz.prog.globals[0]?).map (·.type) = some 96 := by kernel_rfl
theorem tRng : (Tryz.prog.globals[2]?).map (·.type) = some 69 := by kernel_rfl
theorem tPow : (Tryz.prog.globals[3]?).map (·.type) = some 137 := by kernel_rfl
theorem cEsc : Tryz.prog.cellsOf 95 = 2 := by kernel_rfl
theorem cEscs : Tryz.prog.cellsOf 96 = 10 := by kernel_rfl
theorem cByte : Tryz.prog.cellsOf 5 = 1 := by kernel_rfl
theorem cU64 : Tryz.prog.cellsOf 107 = 1 := by kernel_rfl
theorem cPow : Tryz.prog.cellsOf 137 = 20 := by kernel_rfl
theorem cStr : Tryz.prog.cellsOf 9 = 1 := by kernel_rfl
theorem cErrS : Tryz.prog.cellsOf 152 = 1 := by kernel_rfl
theorem star : "*" ++ "errors.errorString" = "*errors.errorString" := by decide
theorem rowErr (u : TypeId) (h : Tryz.prog.typeName? 3 u = some "*errors.errorString") : u = 150 :=
  typeName_ptr_named (nm := "errors.errorString") (by rw [star]; kernel_rfl) (by kernel_rfl) (by decide) u (by rw [star]; exact h)

theorem list_two {α : Type} {l : List α} (h : l.length = 2) : ∃ a b, l = [a, b] := by
  match l, h with
  | [a, b], _ => exact ⟨a, b, rfl⟩
theorem esc_elem {H : Type} {enc : TypeId × Value → H} {w : World} {base : Nat} {sp : Nat → Bool} {held : Bool} {fuel : Nat} {cs : List Value} {a b : Int} {p : List MemPlace}
    (h : DataW.trod enc Tryz.prog w base sp held fuel 95 cs = some (.agg [.lit (.int .u8 a), .lit (.int .u8 b)], p)) : cs = [.int .u8 a, .int .u8 b] := by
  obtain ⟨y0, y1, n, hx, hl, h0, h1⟩ := trod_struct2 Tryz.underlying95 h
  rw [cEsc] at hl
  obtain ⟨c0, c1, rfl⟩ := list_two hl
  obtain ⟨k0, e0, f0, _⟩ := DataW.trod_int Tryz.underlying5 h0
  obtain ⟨k1, e1, f1, _⟩ := DataW.trod_int Tryz.underlying5 h1
  clear h h0 h1
  subst f0 f1
  have e0' : c0 = .int .u8 k0 := by rw [cByte] at e0; simpa using e0
  have e1' : c1 = .int .u8 k1 := by rw [cByte] at e1; simpa using e1
  simp only [Prod.mk.injEq, DataW.agg.injEq, List.cons.injEq, DataW.lit.injEq, Lit.int.injEq, true_and, and_true] at hx
  rw [e0', e1', hx.1.1, hx.1.2]
theorem esc_all {H : Type} {enc : TypeId × Value → H} {w : World} {base : Nat} {sp : Nat → Bool} {held : Bool} {fuel : Nat} {cs : List Value} {p : List MemPlace}
    (h : DataW.trod enc Tryz.prog w base sp held fuel 96 cs = some (Rows.laid_mummer_words_escapes, p)) : cs = escCells.toList := by
  obtain ⟨xs, n, _, hx, hl, hlen, hf⟩ := DataW.trod_array Tryz.underlying96 h
  rw [cEscs] at hl
  rw [cEsc] at hf
  match cs, hl, xs, hlen with
  | [c0, c1, c2, c3, c4, c5, c6, c7, c8, c9], _, [x0, x1, x2, x3, x4], _ =>
    obtain ⟨d0, p0⟩ := x0
    obtain ⟨d1, p1⟩ := x1
    obtain ⟨d2, p2⟩ := x2
    obtain ⟨d3, p3⟩ := x3
    obtain ⟨d4, p4⟩ := x4
    have h0 := hf 0 (by decide)
    have h1 := hf 1 (by decide)
    have h2 := hf 2 (by decide)
    have h3 := hf 3 (by decide)
    have h4 := hf 4 (by decide)
    simp only [Rows.laid_mummer_words_escapes, Prod.mk.injEq, List.map_cons, List.map_nil, DataW.agg.injEq, List.cons.injEq, and_true] at hx
    obtain ⟨⟨rfl, rfl, rfl, rfl, rfl⟩, _⟩ := hx
    have g0 := esc_elem h0
    have g1 := esc_elem h1
    have g2 := esc_elem h2
    have g3 := esc_elem h3
    have g4 := esc_elem h4
    simp at g0 g1 g2 g3 g4
    obtain ⟨rfl, rfl⟩ := g0
    obtain ⟨rfl, rfl⟩ := g1
    obtain ⟨rfl, rfl⟩ := g2
    obtain ⟨rfl, rfl⟩ := g3
    obtain ⟨rfl, rfl⟩ := g4
    rfl

/-- What the list gives. -/
theorem tabs_of {W : World} (h : laidMetH Tryz.prog Rows.wordsListsRow.laid W) : Tabs W := by
  rw [MakeChecks.laidMetH_plain _ _ _ (by kernel_rfl)] at h
  have h2 := h.tail.tail
  have hp : PowIs W := Lib.tabIs_of_head gPow tPow Tryz.underlying137 Tryz.underlying107 cU64 cPow h2
  have h3 := h2.tail.tail
  obtain ⟨a, sm, hv, _, _, _⟩ := laid_sentinel h3 gRng tRng Tryz.underlying69 rowErr Tryz.underlying150 Tryz.underlying152 rfl rfl Tryz.underlying9 cErrS cStr
  have h5 := h3.tail.tail
  obtain ⟨ps, ⟨g0, t0, cs0, f0, p0, q0, hg0, ht0, hv0, hd0, _, _⟩, _, _⟩ := h5
  obtain rfl := Option.some.inj (gEsc.symm.trans hg0)
  obtain rfl := Option.some.inj (tEsc.symm.trans ht0)
  have hcs := esc_all hd0
  have hesc : EscTab W := by
    unfold World.var? at hv0
    rw [gEsc] at hv0
    simp only [Option.bind_some] at hv0
    cases hb : W.heap[0]? with
    | none => rw [hb] at hv0; cases hv0
    | some o =>
      rw [hb] at hv0
      cases o with
      | cells c t fr =>
        have := Option.some.inj hv0
        subst this
        have e : c = escCells := Array.toList_inj.1 hcs
        subst e
        exact ⟨t, fr, hb⟩
      | _ => cases hv0
  refine ⟨hesc, hp, ⟨_, _, hv⟩, ?_, ?_⟩
  · obtain ⟨t, fr, hb⟩ := hesc; exact (Array.getElem?_eq_some_iff.1 hb).1
  · exact World.block_lt_of_cell? W ⟨3, 0, none⟩ (hp.cell gPow 0 (by decide))
theorem tabs_rng {W : World} (h : RangeIs W) : 2 < W.heap.size := by
  obtain ⟨tp, p, h⟩ := h
  exact World.block_lt_of_cell? W ⟨2, 0, none⟩ (u := .iface tp p) (by have := World.var?_cell gRng h 0; simpa using this)
theorem ties_of {W : World} (h : laidMetH Tryz.prog Rows.wordsListsRow.laid W) : Ties W := by
  have T := tabs_of h
  intro w' hb
  exact ⟨esc_below T.esc hb T.he, pow_below T.pow hb T.hp, range_below T.rng hb (tabs_rng T.rng), Nat.lt_of_lt_of_le T.he hb.size, Nat.lt_of_lt_of_le T.hp hb.size⟩
end Go.Proofs.YtnajkkbcfebegaaGreatDoor
