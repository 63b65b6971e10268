/- LexerLexes: the reference's first. -/
import Derived.Test.YtemoeohchhpilaaDoorLxb
import Derived.Test.YtemoeohchhpilaaDoorLk
import Derived.WalkMore
namespace Go.Proofs.YtemoeohchhpilaaDoor
open Go.RowKit Go.PlainAid

theorem cls_lo0 : ∀ n : Fin 128, clsS (ub (UInt8.ofNat n.val)) ≠ 0 := by decide +kernel
theorem cls_ne0 {L : List UInt8} (h0 : (dec L).2.2 = 0) : clsL L ≠ 0 := by
  rw [clsL_in h0]
  obtain ⟨c, t, h1, h2⟩ := dec_head h0
  rcases h2 with ⟨h2, h3⟩ | ⟨_, h2, h3⟩
  · rw [h3]
    have hn : c.toNat < 128 := by unfold ub at h2; omega
    have H := cls_lo0 ⟨c.toNat, hn⟩
    have e : UInt8.ofNat c.toNat = c := by simp
    simp only [e] at H
    exact H
  · rcases cls_hi h3 h2 with h4 | h4 <;> omega
theorem wd_le (L : List UInt8) : (dec L).2.1 ≤ L.length := by
  by_cases h0 : (dec L).2.2 = 0
  · exact (dec_wd h0).2.1
  · rw [wd_no h0]; omega
/-- The four boxes of first: two of results, a span and a token. -/
structure F4 (w W : World) (P : Nat) (sf st k f t n : Int) (x : List UInt8) : Prop where
  a : W.heap[w.heap.size]? = some (.cells #[.int .i64 0, .int .i64 0, .int .i64 0, .int .i64 0, .string ⟨#[]⟩] 33 (0, 0))
  b : W.heap[w.heap.size + 1]? = some (.cells #[.int .i64 0, .int .i64 0] 27 (0, 0))
  s : W.heap[P]? = some (.cells #[.int .i64 sf, .int .i64 st] 27 (0, 0))
  k : W.heap[P + 1]? = some (.cells #[.int .i64 k, .int .i64 f, .int .i64 t, .int .i64 n, .string (str x)] 33 (0, 0))
  p : w.heap.size + 1 < P
  o : Below w.heap.size w W
section
variable {w W : World} {P : Nat} {sf st k f t n : Int} {x : List UInt8}
theorem F4.k0 (h : F4 w W P sf st k f t n x) (y : Int) : F4 w (W.setCell ⟨P + 1, 0, none⟩ (.int .i64 y)) P sf st y f t n x := by
  have := h.p
  exact ⟨(setCell_other (by omega)).trans h.a, (setCell_other (by omega)).trans h.b, (setCell_other (by omega)).trans h.s, by simp [World.setCell, Array.getElem?_modify, h.k], h.p, h.o.setCell (by show w.heap.size ≤ P + 1; omega) _⟩
theorem F4.k1 (h : F4 w W P sf st k f t n x) (y : Int) : F4 w (W.setCell ⟨P + 1, 1, none⟩ (.int .i64 y)) P sf st k y t n x := by
  have := h.p
  exact ⟨(setCell_other (by omega)).trans h.a, (setCell_other (by omega)).trans h.b, (setCell_other (by omega)).trans h.s, by simp [World.setCell, Array.getElem?_modify, h.k], h.p, h.o.setCell (by show w.heap.size ≤ P + 1; omega) _⟩
theorem F4.k2 (h : F4 w W P sf st k f t n x) (y : Int) : F4 w (W.setCell ⟨P + 1, 2, none⟩ (.int .i64 y)) P sf st k f y n x := by
  have := h.p
  exact ⟨(setCell_other (by omega)).trans h.a, (setCell_other (by omega)).trans h.b, (setCell_other (by omega)).trans h.s, by simp [World.setCell, Array.getElem?_modify, h.k], h.p, h.o.setCell (by show w.heap.size ≤ P + 1; omega) _⟩
theorem F4.k3 (h : F4 w W P sf st k f t n x) (y : Int) : F4 w (W.setCell ⟨P + 1, 3, none⟩ (.int .i64 y)) P sf st k f t y x := by
  have := h.p
  exact ⟨(setCell_other (by omega)).trans h.a, (setCell_other (by omega)).trans h.b, (setCell_other (by omega)).trans h.s, by simp [World.setCell, Array.getElem?_modify, h.k], h.p, h.o.setCell (by show w.heap.size ≤ P + 1; omega) _⟩
theorem F4.k4 (h : F4 w W P sf st k f t n x) (y : List UInt8) : F4 w (W.setCell ⟨P + 1, 4, none⟩ (.string (str y))) P sf st k f t n y := by
  have := h.p
  exact ⟨(setCell_other (by omega)).trans h.a, (setCell_other (by omega)).trans h.b, (setCell_other (by omega)).trans h.s, by simp [World.setCell, Array.getElem?_modify, h.k], h.p, h.o.setCell (by show w.heap.size ≤ P + 1; omega) _⟩
theorem F4.s1 (h : F4 w W P sf st k f t n x) (y : Int) : F4 w (W.setCell ⟨P, 1, none⟩ (.int .i64 y)) P sf y k f t n x := by
  have := h.p
  exact ⟨(setCell_other (by omega)).trans h.a, (setCell_other (by omega)).trans h.b, by simp [World.setCell, Array.getElem?_modify, h.s], (setCell_other (by omega)).trans h.k, h.p, h.o.setCell (by show w.heap.size ≤ P; omega) _⟩
theorem F4.drew (h : F4 w W P sf st k f t n x) : F4 w W.drew P sf st k f t n x := ⟨h.a, h.b, h.s, h.k, h.p, h.o.drew⟩
theorem F4.on {W2 : World} (h : F4 w W P sf st k f t n x) (hb : Below W.heap.size W W2) : F4 w W2 P sf st k f t n x := by
  have := h.p
  have h1 := (Array.getElem?_eq_some_iff.1 h.a).1
  have h2 := (Array.getElem?_eq_some_iff.1 h.b).1
  have h3 := (Array.getElem?_eq_some_iff.1 h.s).1
  have h4 := (Array.getElem?_eq_some_iff.1 h.k).1
  exact ⟨(hb.block _ h1).trans h.a, (hb.block _ h2).trans h.b, (hb.block _ h3).trans h.s, (hb.block _ h4).trans h.k, h.p, h.o.trans (hb.mono (by omega))⟩
/-- What a walk wants of the boxes. -/
theorem F4.facts (h : F4 w W P sf st k f t n x) :
    ((W.cell? ⟨w.heap.size, 0, none⟩ = some (.int .i64 0) ∧ W.cell? ⟨w.heap.size, 1, none⟩ = some (.int .i64 0) ∧ W.cell? ⟨w.heap.size, 2, none⟩ = some (.int .i64 0) ∧ W.cell? ⟨w.heap.size, 3, none⟩ = some (.int .i64 0) ∧ W.cell? ⟨w.heap.size, 4, none⟩ = some (.string ⟨#[]⟩)) ∧
      (W.frozen? ⟨w.heap.size, 0, none⟩ = false ∧ W.frozen? ⟨w.heap.size, 1, none⟩ = false ∧ W.frozen? ⟨w.heap.size, 2, none⟩ = false ∧ W.frozen? ⟨w.heap.size, 3, none⟩ = false ∧ W.frozen? ⟨w.heap.size, 4, none⟩ = false)) ∧
    (W.cell? ⟨w.heap.size + 1, 0, none⟩ = some (.int .i64 0) ∧ W.cell? ⟨w.heap.size + 1, 1, none⟩ = some (.int .i64 0) ∧ W.frozen? ⟨w.heap.size + 1, 0, none⟩ = false ∧ W.frozen? ⟨w.heap.size + 1, 1, none⟩ = false) ∧
    (W.cell? ⟨P, 0, none⟩ = some (.int .i64 sf) ∧ W.cell? ⟨P, 1, none⟩ = some (.int .i64 st) ∧ W.frozen? ⟨P, 0, none⟩ = false ∧ W.frozen? ⟨P, 1, none⟩ = false) ∧
    ((W.cell? ⟨P + 1, 0, none⟩ = some (.int .i64 k) ∧ W.cell? ⟨P + 1, 1, none⟩ = some (.int .i64 f) ∧ W.cell? ⟨P + 1, 2, none⟩ = some (.int .i64 t) ∧ W.cell? ⟨P + 1, 3, none⟩ = some (.int .i64 n) ∧ W.cell? ⟨P + 1, 4, none⟩ = some (.string (str x))) ∧
      (W.frozen? ⟨P + 1, 0, none⟩ = false ∧ W.frozen? ⟨P + 1, 1, none⟩ = false ∧ W.frozen? ⟨P + 1, 2, none⟩ = false ∧ W.frozen? ⟨P + 1, 3, none⟩ = false ∧ W.frozen? ⟨P + 1, 4, none⟩ = false)) :=
  ⟨box5_facts h.a, box2_all h.b, box2_all h.s, box5_facts h.k⟩
end
theorem F4.nes {w W : World} {P : Nat} {sf st k f t n : Int} {x : List UInt8} (h : F4 w W P sf st k f t n x) :
    w.heap.size ≠ w.heap.size + 1 ∧ w.heap.size + 1 ≠ w.heap.size ∧ w.heap.size ≠ P ∧ P ≠ w.heap.size ∧ w.heap.size ≠ P + 1 ∧ P + 1 ≠ w.heap.size ∧
    w.heap.size + 1 ≠ P ∧ P ≠ w.heap.size + 1 ∧ w.heap.size + 1 ≠ P + 1 ∧ P + 1 ≠ w.heap.size + 1 ∧ P ≠ P + 1 ∧ P + 1 ≠ P := by
  have := h.p; omega
theorem two_newF {W : World} {P : Nat} (hP : W.heap.size = P) (x y : Array Value) (t u : TypeId) : ((W.alloc (.cells x t)).alloc (.cells y u)).heap[P]? = some (.cells x t (0, 0)) ∧ ((W.alloc (.cells x t)).alloc (.cells y u)).heap[P + 1]? = some (.cells y u (0, 0)) ∧ Below P W ((W.alloc (.cells x t)).alloc (.cells y u)) := by
  subst hP
  refine ⟨(Below.heap_alloc _ _ _ (by simp only [World.size_alloc]; omega)).trans (World.alloc_heap_new _ _), ?_, (below_b1 _ _).alloc (by simp only [World.size_alloc]; omega) _⟩
  have := World.alloc_heap_new (W.alloc (.cells x t)) (.cells y u); rwa [World.size_alloc] at this
theorem results_boxTSd {fn : Func} {p q t : Tmp} (h : fn.results = #[.cell p 33, .cell q 27, .tmp t]) (tmps : Array Value) (W : World) (n m : Nat) (x0 x1 x2 x3 x4 y0 y1 : Value) (tt tu : TypeId)
    (hp : tmps.getD p undef = .pointer (some ⟨n, 0, none⟩)) (hq : tmps.getD q undef = .pointer (some ⟨m, 0, none⟩)) (b : W.heap[n]? = some (.cells #[x0, x1, x2, x3, x4] tt (0, 0))) (b2 : W.heap[m]? = some (.cells #[y0, y1] tu (0, 0))) :
    (results fn tmps).run Tryd.prog W.drew = .ok (.tuple #[.agg #[x0, x1, x2, x3, x4], .agg #[y0, y1], tmps.getD t undef]) W.drew :=
  results_boxTS h tmps W.drew n m x0 x1 x2 x3 x4 y0 y1 tt tu hp hq b b2
theorem word_case (x : List UInt8) : (intB x = true ∧ (intE x).2 = 0 ∧ wordT x = (5, (intE x).1, [], 0)) ∨ (intB x = true ∧ (intE x).2 = 7 ∧ wordT x = (0, 0, [], 7)) ∨ (intB x = false ∧ 24 < x.length ∧ wordT x = (0, 0, [], 3)) ∨ (intB x = false ∧ x.length ≤ 24 ∧ wordT x = (7, 0, x, 0)) := by
  cases hb : intB x
  · have e := intE_no hb
    by_cases h : 24 < x.length
    · right; right; left; exact ⟨rfl, h, by unfold wordT; rw [e, if_neg (by decide), if_neg (by decide), if_pos h]⟩
    · right; right; right; exact ⟨rfl, by omega, by unfold wordT; rw [e, if_neg (by decide), if_neg (by decide), if_neg h]⟩
  · by_cases hf : fits (numI x)
    · have e : intE x = (numI x, 0) := by unfold intE; rw [if_pos hb, if_pos hf]
      left; exact ⟨rfl, by rw [e], by unfold wordT; rw [e, if_pos rfl]⟩
    · have e : intE x = (0, 7) := by unfold intE; rw [if_pos hb, if_neg hf]
      right; left; exact ⟨rfl, by rw [e], by unfold wordT; rw [e, if_neg (by decide), if_pos rfl]⟩
end Go.Proofs.YtemoeohchhpilaaDoor
