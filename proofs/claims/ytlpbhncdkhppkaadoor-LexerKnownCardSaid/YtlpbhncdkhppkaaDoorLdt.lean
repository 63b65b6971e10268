/- A slice of tokens that came in. -/
import Derived.Test.YtlpbhncdkhppkaaDoorLdoor
import Derived.Test.YtlpbhncdkhppkaaDoorLo
namespace Go.Proofs.YtlpbhncdkhppkaaDoor
open Go.ChangeShapes Go.WideShapes Go.ChangeAt Go.RowKit Go.Deep

theorem tcs_len5 (l : List Tok) : (tcs l).length = l.length * 5 := tcs_len l
set_option maxRecDepth 100000 in
theorem open_toks {H : Type} {enc : TypeId × Value → H} {W : World} {base : Nat} {v : Value} {d : DataW H} {p : List MemPlace}
    (hval : Value.okWide Tryd.prog W .any base 25 v) (h : DataW.Trod enc Tryd.prog W 0 (fun _ => true) true 25 v d p) :
    ∃ l : List Tok, TksAt W v l ∧ (∀ a n c, v = .slice a n c → n ≤ c) ∧ ∀ t ∈ l, fits t.2.2.2.1 := by
  obtain ⟨fuel, hf⟩ := h
  obtain ⟨a0, n0, c0, rfl⟩ := okWide_slice Tryd.underlying25 hval
  rcases open_slice Tryd.underlying25 hf with ⟨hcs, _⟩ | ⟨a, len, cap, m, n, D, Pl, hcs, _, hl, hm, hmm, _, hx⟩
  · simp [Value.cells] at hcs
    obtain ⟨rfl, rfl, rfl⟩ := hcs
    exact ⟨[], .inl ⟨_, _, rfl, rfl⟩, fun a n c e => by cases e; exact Nat.le_refl _, fun x hx => by cases hx⟩
  · simp [Value.cells] at hcs
    obtain ⟨rfl, rfl, rfl⟩ := hcs
    have hnm : n0 ≤ m := by rw [hmm]; simp; exact hl
    have hcap : ∀ a' n c, Value.slice (some a) n0 c0 = .slice a' n c → n ≤ c := fun a' n c e => by cases e; exact hl
    have hv : ∀ i, i < n0 → ∃ s : Tok, W.cell? (a.add (i * 5)) = some (.int .i64 s.1) ∧ W.cell? (a.add (i * 5 + 1)) = some (.int .i64 s.2.1) ∧ W.cell? (a.add (i * 5 + 2)) = some (.int .i64 s.2.2.1) ∧ W.cell? (a.add (i * 5 + 3)) = some (.int .i64 s.2.2.2.1) ∧ W.cell? (a.add (i * 5 + 4)) = some (.string (str s.2.2.2.2)) ∧ fits s.2.2.2.1 := by
      intro i hi
      obtain ⟨cs', h1, h2⟩ := hx i (by omega)
      rw [cTk] at h1
      obtain ⟨_, hlen, hcell⟩ := World.cells?_some h1
      obtain ⟨s, hs, hfit⟩ := tok_cells h2
      subst hs
      have q0 := hcell 0 (by omega)
      have q1 := hcell 1 (by omega)
      have q2 := hcell 2 (by omega)
      have q3 := hcell 3 (by omega)
      have q4 := hcell 4 (by omega)
      rw [add_add] at q0 q1 q2 q3 q4
      refine ⟨s, ?_, ?_, ?_, ?_, ?_, hfit⟩
      · simpa [tokC] using q0
      · simpa [tokC] using q1
      · simpa [tokC] using q2
      · simpa [tokC] using q3
      · simpa [tokC] using q4
    obtain ⟨F, hF⟩ := choose_lt hv
    refine ⟨(List.range n0).map F, ?_, hcap, ?_⟩
    · by_cases h0 : n0 = 0
      · subst h0; exact .inl ⟨_, _, rfl, rfl⟩
      · obtain ⟨b, off, spot⟩ := a
        have hspot : spot = none := by simpa [Addr.add] using World.cell?_spot (hF 0 (by omega)).1
        subst hspot
        have hlen : n0 = ((List.range n0).map F).length := by simp
        refine .inr ⟨b, off, c0, by rw [← hlen], World.block_lt_of_cell? W ⟨b, off, none⟩ (by have := (hF 0 (by omega)).1; simpa [Addr.add] using this), fun j u hj => ?_⟩
        have hjl : j < n0 * 5 := by
          have := (List.getElem?_eq_some_iff.1 hj).1
          rw [tcs_len, ← hlen] at this; exact this
        have hs : ((List.range n0).map F)[j / 5]? = some (F (j / 5)) := by
          rw [List.getElem?_map, List.getElem?_range (by omega)]; rfl
        have hat := tcs_at _ hs
        obtain ⟨f0, f1, f2, f3, f4, _⟩ := hF (j / 5) (by omega)
        rw [Go.WideShapes.add_plain] at f0 f1 f2 f3 f4
        have hpar : j = j / 5 * 5 ∨ j = j / 5 * 5 + 1 ∨ j = j / 5 * 5 + 2 ∨ j = j / 5 * 5 + 3 ∨ j = j / 5 * 5 + 4 := by omega
        rcases hpar with e | e | e | e | e
        · rw [← e] at hat f0; rw [hat.1] at hj; rw [f0, hj]
        · rw [← e] at hat f1; rw [hat.2.1] at hj; rw [f1, hj]
        · rw [← e] at hat f2; rw [hat.2.2.1] at hj; rw [f2, hj]
        · rw [← e] at hat f3; rw [hat.2.2.2.1] at hj; rw [f3, hj]
        · rw [← e] at hat f4; rw [hat.2.2.2.2] at hj; rw [f4, hj]
    · intro x hxm
      rw [List.mem_map] at hxm
      obtain ⟨i, hi, rfl⟩ := hxm
      exact (hF i (List.mem_range.1 hi)).2.2.2.2.2
end Go.Proofs.YtlpbhncdkhppkaaDoor
