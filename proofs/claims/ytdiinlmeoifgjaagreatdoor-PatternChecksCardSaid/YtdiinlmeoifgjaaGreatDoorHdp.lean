/- Arguments of the laws of layer 12: identifiers and variables that came in. -/
import Derived.Test.YtdiinlmeoifgjaaGreatDoorHdo
namespace Go.Proofs.YtdiinlmeoifgjaaGreatDoor
open Go.ChangeShapes Go.WideShapes Go.ChangeAt Go.RowKit Go.Deep

instance : Inhabited Pid := ⟨([], [])⟩
instance : Inhabited Pw := ⟨(([], []), 0)⟩
theorem cPi : Tryz.prog.cellsOf 40 = 2 := by kernel_rfl
theorem cPw : Tryz.prog.cellsOf 45 = 3 := by kernel_rfl
set_option maxRecDepth 100000 in
theorem pid_cells {H : Type} {enc : TypeId × Value → H} {w : World} {base : Nat} {sp : Nat → Bool} {held : Bool} {fuel : Nat} {cs : List Value} {x : DataW H × List MemPlace}
    (h : DataW.trod enc Tryz.prog w base sp held fuel 40 cs = some x) : ∃ s : Pid, cs = pidC s := by
  obtain ⟨y0, y1, n, hx, hl, h0, h1⟩ := trod_struct2 Tryz.underlying40 h
  rw [cPi] at hl
  match cs, hl with
  | [c0, c1], _ =>
    simp only [cStr] at h0 h1
    obtain ⟨x0, e0, _, _⟩ := DataW.trod_string Tryz.underlying9 h0
    obtain ⟨x1, e1, _, _⟩ := DataW.trod_string Tryz.underlying9 h1
    simp at e0 e1
    subst e0 e1
    refine ⟨(x0.data.toList, x1.data.toList), ?_⟩
    unfold pidC; rw [str_data, str_data]
set_option maxRecDepth 100000 in
theorem pw_cells {H : Type} {enc : TypeId × Value → H} {w : World} {base : Nat} {sp : Nat → Bool} {held : Bool} {fuel : Nat} {cs : List Value} {x : DataW H × List MemPlace}
    (h : DataW.trod enc Tryz.prog w base sp held fuel 45 cs = some x) : ∃ s : Pw, cs = pwC s := by
  obtain ⟨y0, y1, n, hx, hl, h0, h1⟩ := trod_struct2 Tryz.underlying45 h
  rw [cPw] at hl
  match cs, hl with
  | [c0, c1, c2], _ =>
    simp only [cPi, cIntX] at h0 h1
    obtain ⟨s, hs⟩ := pid_cells h0
    obtain ⟨x1, e1, _, _⟩ := DataW.trod_int Tryz.underlying3 h1
    simp [pidC] at hs e1
    obtain ⟨rfl, rfl⟩ := hs
    subst e1
    exact ⟨(s, x1), rfl⟩
set_option maxRecDepth 100000 in
theorem open_pid {H : Type} {enc : TypeId × Value → H} {W : World} {base : Nat} {v : Value} {d : DataW H} {p : List MemPlace}
    (hval : Value.okWide Tryz.prog W .any base 40 v) (h : DataW.Trod enc Tryz.prog W 0 (fun _ => true) true 40 v d p) :
    ∃ s : Pid, v = .agg #[.string (str s.1), .string (str s.2)] := by
  obtain ⟨cs, rfl, hsz⟩ := okWide_struct Tryz.underlying40 hval
  obtain ⟨fuel, hf⟩ := h
  obtain ⟨s, hs⟩ := pid_cells hf
  obtain ⟨l⟩ := cs
  refine ⟨s, ?_⟩
  have : l = pidC s := by simpa [Value.cells] using hs
  rw [this]; rfl
theorem wcs_len (l : List Pw) : (wcs l).length = l.length * 3 := by
  induction l with
  | nil => rfl
  | cons x l ih => show ((pwC x) ++ wcs l).length = _; rw [List.length_append, ih]; simp only [List.length_cons]; show 3 + _ = _; omega
set_option maxRecDepth 100000 in
/-- A slice of nodes that came in. -/
theorem open_vars {H : Type} {enc : TypeId × Value → H} {W : World} {base : Nat} {v : Value} {d : DataW H} {p : List MemPlace}
    (hval : Value.okWide Tryz.prog W .any base 30 v) (h : DataW.Trod enc Tryz.prog W 0 (fun _ => true) true 30 v d p) :
    ∃ l : List Pw, WsAt W v l := by
  obtain ⟨fuel, hf⟩ := h
  obtain ⟨a0, n0, c0, rfl⟩ := okWide_slice Tryz.underlying30 hval
  rcases open_slice Tryz.underlying30 hf with ⟨hcs, _⟩ | ⟨a, len, cap, m, n, D, Pl, hcs, _, hl, hm, hmm, _, hx⟩
  · simp [Value.cells] at hcs
    obtain ⟨rfl, rfl, rfl⟩ := hcs
    exact ⟨[], ws_nil _ _ _⟩
  · simp [Value.cells] at hcs
    obtain ⟨rfl, rfl, rfl⟩ := hcs
    have hnm : n0 ≤ m := by rw [hmm]; simp; exact hl
    have hv : ∀ i, i < n0 → ∃ s : Pw, ∀ (j : Nat) (u : Value), (pwC s)[j]? = some u → W.cell? ((a.add (i * 3)).add j) = some u := by
      intro i hi
      obtain ⟨cs', h1, h2⟩ := hx i (by omega)
      rw [cPw] at h1
      obtain ⟨_, hlen, hcell⟩ := World.cells?_some h1
      obtain ⟨s, hs⟩ := pw_cells h2
      subst hs
      exact ⟨s, fun j u hj => (hcell j (by have := (List.getElem?_eq_some_iff.1 hj).1; omega)).trans hj⟩
    obtain ⟨F, hF⟩ := choose_lt hv
    refine ⟨(List.range n0).map F, ?_⟩
    · have hlen : n0 = ((List.range n0).map F).length := by simp
      refine ⟨_, n0, c0, rfl, hlen, hl, ?_⟩
      by_cases h0 : n0 = 0
      · left; subst h0; rfl
      · right
        obtain ⟨b, off, spot⟩ := a
        have hc0 := hF 0 (by omega) 0 _ rfl
        have hspot : spot = none := by simpa [Addr.add] using World.cell?_spot hc0
        subst hspot
        refine ⟨b, off, rfl, World.block_lt_of_cell? W ⟨b, off, none⟩ (by simpa [Addr.add] using hc0), fun j u hj => ?_⟩
        have hjl : j < n0 * 3 := by
          have := (List.getElem?_eq_some_iff.1 hj).1
          rw [wcs_len, ← hlen] at this; exact this
        have hs : ((List.range n0).map F)[j / 3]? = some (F (j / 3)) := by
          rw [List.getElem?_map, List.getElem?_range (by omega)]; rfl
        have h8 : j % 3 < (pwC (F (j / 3))).length := by show j % 3 < 3; omega
        have hat := wcs_at _ hs (j % 3) _ (List.getElem?_eq_getElem h8)
        rw [show j / 3 * 3 + j % 3 = j by omega] at hat
        have hu := Option.some.inj (hat.symm.trans hj)
        have hc := hF (j / 3) (by omega) (j % 3) _ (List.getElem?_eq_getElem h8)
        rw [hu, Go.WideShapes.add_plain, Go.WideShapes.add_plain, Nat.add_assoc, show j / 3 * 3 + j % 3 = j by omega] at hc
        exact hc
set_option maxRecDepth 100000 in
/-- A slice of nodes that came in. -/
theorem open_ids {H : Type} {enc : TypeId × Value → H} {W : World} {base : Nat} {v : Value} {d : DataW H} {p : List MemPlace}
    (hval : Value.okWide Tryz.prog W .any base 23 v) (h : DataW.Trod enc Tryz.prog W 0 (fun _ => true) true 23 v d p) :
    ∃ l : List Pid, PsAt W v l := by
  obtain ⟨fuel, hf⟩ := h
  obtain ⟨a0, n0, c0, rfl⟩ := okWide_slice Tryz.underlying23 hval
  rcases open_slice Tryz.underlying23 hf with ⟨hcs, _⟩ | ⟨a, len, cap, m, n, D, Pl, hcs, _, hl, hm, hmm, _, hx⟩
  · simp [Value.cells] at hcs
    obtain ⟨rfl, rfl, rfl⟩ := hcs
    exact ⟨[], ps_nil _ _ _⟩
  · simp [Value.cells] at hcs
    obtain ⟨rfl, rfl, rfl⟩ := hcs
    have hnm : n0 ≤ m := by rw [hmm]; simp; exact hl
    have hv : ∀ i, i < n0 → ∃ s : Pid, ∀ (j : Nat) (u : Value), (pidC s)[j]? = some u → W.cell? ((a.add (i * 2)).add j) = some u := by
      intro i hi
      obtain ⟨cs', h1, h2⟩ := hx i (by omega)
      rw [cPi] at h1
      obtain ⟨_, hlen, hcell⟩ := World.cells?_some h1
      obtain ⟨s, hs⟩ := pid_cells h2
      subst hs
      exact ⟨s, fun j u hj => (hcell j (by have := (List.getElem?_eq_some_iff.1 hj).1; omega)).trans hj⟩
    obtain ⟨F, hF⟩ := choose_lt hv
    refine ⟨(List.range n0).map F, ?_⟩
    · have hlen : n0 = ((List.range n0).map F).length := by simp
      refine ⟨_, n0, c0, rfl, hlen, hl, ?_⟩
      by_cases h0 : n0 = 0
      · left; subst h0; rfl
      · right
        obtain ⟨b, off, spot⟩ := a
        have hc0 := hF 0 (by omega) 0 _ rfl
        have hspot : spot = none := by simpa [Addr.add] using World.cell?_spot hc0
        subst hspot
        refine ⟨b, off, rfl, World.block_lt_of_cell? W ⟨b, off, none⟩ (by simpa [Addr.add] using hc0), fun j u hj => ?_⟩
        have hjl : j < n0 * 2 := by
          have := (List.getElem?_eq_some_iff.1 hj).1
          rw [pcs_len, ← hlen] at this; exact this
        have hs : ((List.range n0).map F)[j / 2]? = some (F (j / 2)) := by
          rw [List.getElem?_map, List.getElem?_range (by omega)]; rfl
        have h8 : j % 2 < (pidC (F (j / 2))).length := by show j % 2 < 2; omega
        have hat := pcs_at _ hs (j % 2) _ (List.getElem?_eq_getElem h8)
        rw [show j / 2 * 2 + j % 2 = j by omega] at hat
        have hu := Option.some.inj (hat.symm.trans hj)
        have hc := hF (j / 2) (by omega) (j % 2) _ (List.getElem?_eq_getElem h8)
        rw [hu, Go.WideShapes.add_plain, Go.WideShapes.add_plain, Nat.add_assoc, show j / 2 * 2 + j % 2 = j by omega] at hc
        exact hc
end Go.Proofs.YtdiinlmeoifgjaaGreatDoor
