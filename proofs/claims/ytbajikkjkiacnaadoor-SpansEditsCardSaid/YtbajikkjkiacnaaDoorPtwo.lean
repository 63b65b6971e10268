/- Layer 3: two spans in an array that came in. -/
import Derived.Test.YtbajikkjkiacnaaDoorPcover
namespace Go.Proofs.YtbajikkjkiacnaaDoor
open Go.ChangeShapes Go.WideShapes Go.ChangeAt Go.RowKit Go.Deep

set_option maxRecDepth 100000 in
theorem open_two {H : Type} {enc : TypeId × Value → H} {W : World} {base : Nat} {v : Value} {d : DataW H} {p : List MemPlace}
    (hval : Value.okWide Tryd.prog W .any base 59 v) (h : DataW.Trod enc Tryd.prog W 0 (fun _ => true) true 59 v d p) :
    ∃ s : Sp × Sp, v = .agg #[.int .i64 s.1.1, .int .i64 s.1.2, .int .i64 s.2.1, .int .i64 s.2.2] := by
  obtain ⟨cs, rfl⟩ : ∃ cs, v = .agg cs := by
    simp only [Value.okWide, Tryd.underlying59] at hval
    obtain ⟨cs, h1, _⟩ := hval
    exact ⟨cs, h1⟩
  obtain ⟨fuel, hf⟩ := h
  obtain ⟨xs, n, _, _, hl, hlen, hg⟩ := DataW.trod_array Tryd.underlying59 hf
  have hc : Tryd.prog.cellsOf 59 = 4 := by kernel_rfl
  obtain ⟨l⟩ := cs
  have hl6 : l.length = 4 := by rw [hc] at hl; simpa [Value.cells] using hl
  match l, hl6, xs, hlen with
  | [c0, c1, c2, c3], _, [x0, x1], _ =>
    have g0 := hg 0 (by decide)
    have g1 := hg 1 (by decide)
    simp only [Value.cells] at g0 g1
    obtain ⟨a0, a1, e0⟩ := sp_cells g0
    obtain ⟨b0, b1, e1⟩ := sp_cells g1
    rw [cSp] at e0 e1
    simp at e0 e1
    obtain ⟨rfl, rfl⟩ := e0
    obtain ⟨rfl, rfl⟩ := e1
    exact ⟨((a0, a1), (b0, b1)), rfl⟩
end Go.Proofs.YtbajikkjkiacnaaDoor
