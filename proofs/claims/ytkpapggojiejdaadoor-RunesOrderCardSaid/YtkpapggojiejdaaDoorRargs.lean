/- The arguments of the laws of layer 2, opened. -/
import Derived.Test.YtkpapggojiejdaaDoorRdoor
import Derived.ChangeSlices
import Derived.Test.YtkpapggojiejdaaDoorRconv
import Derived.OpenShut
namespace Go.Proofs.YtkpapggojiejdaaDoor
open Go.ChangeShapes Go.WideShapes Go.ChangeAt Go.RowKit

theorem laidOut : laidOutB Tryd.prog = true := by kernel_rfl
theorem open_ints_row {H : Type} {enc : TypeId × Value → H} {W : World} {base : Nat} {t e : TypeId} {k : IntKind} {v : Value} {d : DataW H} {p : List MemPlace} (ht : Tryd.prog.underlying t = some (.slice e)) (he : Tryd.prog.underlying e = some (.int k)) (hc : Tryd.prog.cellsOf e = 1)
    (hval : Value.okWide Tryd.prog W .any base t v) (h : DataW.Trod enc Tryd.prog W 0 (fun _ => true) true t v d p) :
    ∃ zs : List Int, RowAt W v (zs.map (Value.int k)) ∧ zs.length ≤ maxLen ∧ ∀ n ∈ zs, (Lit.int k n).wf = true := by
  obtain ⟨fuel, hf⟩ := h
  obtain ⟨a0, n0, c0, rfl⟩ := okWide_slice ht hval
  rcases open_ints ht he hc hf with ⟨hcs, hx⟩ | ⟨a, len, cap, zs, hcs, _, hl, hm, hz, hx, hcell, hwz⟩
  · simp [Value.cells] at hcs
    obtain ⟨rfl, rfl, rfl⟩ := hcs
    exact ⟨[], .inl ⟨_, _, rfl, rfl⟩, Nat.zero_le _, fun n hn => by cases hn⟩
  · simp [Value.cells] at hcs
    obtain ⟨rfl, rfl, rfl⟩ := hcs
    have hzl : zs.length = c0 := by simpa using hz
    refine ⟨zs.take n0, ?_, by rw [List.length_take]; omega, fun n hn => hwz n (List.mem_of_mem_take hn)⟩
    by_cases h0 : n0 = 0
    · subst h0; exact .inl ⟨_, _, rfl, rfl⟩
    · obtain ⟨b, off, rfl, hc2⟩ := ints_at hcell (by omega)
      have hlen : n0 = ((zs.take n0).map (Value.int k)).length := by rw [List.length_map, List.length_take]; omega
      refine .inr ⟨b, off, n0, c0, rfl, hlen, World.block_lt_of_cell? W ⟨b, off + 0, none⟩ (hc2 0 (by omega)), fun j u hj => ?_⟩
      have hjn : j < n0 := by
        have := (List.getElem?_eq_some_iff.1 hj).1
        omega
      rw [hc2 j (by omega), ← hj, List.getElem?_map, List.getElem?_take, if_pos hjn, List.getElem?_eq_getElem (by omega), List.getD_eq_getElem?_getD, List.getElem?_eq_getElem (by omega)]
      rfl
theorem open_bytes {H : Type} {enc : TypeId × Value → H} {W : World} {base : Nat} {v : Value} {d : DataW H} {p : List MemPlace}
    (hval : Value.okWide Tryd.prog W .any base 22 v) (h : DataW.Trod enc Tryd.prog W 0 (fun _ => true) true 22 v d p) :
    ∃ l : List UInt8, BytesAt W v l ∧ l.length ≤ maxLen := by
  obtain ⟨zs, h1, h2, h3⟩ := open_ints_row Tryd.underlying22 Tryd.underlying5 (by kernel_rfl) hval h
  refine ⟨zs.map u8, ?_, by simpa using h2⟩
  unfold BytesAt
  have e : (zs.map u8).map bc = zs.map (Value.int .u8) := by
    rw [List.map_map]
    refine List.map_congr_left fun n hn => ?_
    have hb := bounds_u8 (h3 n hn)
    exact (bc_u8 (by omega) rfl).symm
  rw [e]; exact h1
theorem open_runes {H : Type} {enc : TypeId × Value → H} {W : World} {base : Nat} {v : Value} {d : DataW H} {p : List MemPlace}
    (hval : Value.okWide Tryd.prog W .any base 32 v) (h : DataW.Trod enc Tryd.prog W 0 (fun _ => true) true 32 v d p) :
    ∃ l : List Int, RunesAt W v l ∧ l.length ≤ maxLen := by
  obtain ⟨zs, h1, h2, _⟩ := open_ints_row Tryd.underlying32 Tryd.underlying21 (by kernel_rfl) hval h
  exact ⟨zs, h1, h2⟩
/-- The same, with the address that the argument has. -/
theorem open_ints_arg {H : Type} {enc : TypeId × Value → H} {W : World} {base : Nat} {t e : TypeId} {k : IntKind} {v : Value} {d : DataW H} {p : List MemPlace} (ht : Tryd.prog.underlying t = some (.slice e)) (he : Tryd.prog.underlying e = some (.int k)) (hc : Tryd.prog.cellsOf e = 1)
    (hval : Value.okWide Tryd.prog W .any base t v) (h : DataW.Trod enc Tryd.prog W 0 (fun _ => true) true t v d p) :
    ∃ zs : List Int, ArgAt W v (zs.map (Value.int k)) ∧ ∀ n ∈ zs, (Lit.int k n).wf = true := by
  obtain ⟨fuel, hf⟩ := h
  obtain ⟨a0, n0, c0, rfl⟩ := okWide_slice ht hval
  rcases open_ints ht he hc hf with ⟨hcs, hx⟩ | ⟨a, len, cap, zs, hcs, _, hl, hm, hz, hx, hcell, hwz⟩
  · simp [Value.cells] at hcs
    obtain ⟨rfl, rfl, rfl⟩ := hcs
    exact ⟨[], ⟨_, _, _, rfl, rfl, Nat.le_refl _, .inl ⟨rfl, rfl, rfl⟩⟩, fun n hn => by cases hn⟩
  · simp [Value.cells] at hcs
    obtain ⟨rfl, rfl, rfl⟩ := hcs
    have hzl : zs.length = c0 := by simpa using hz
    refine ⟨zs.take n0, ⟨_, _, _, rfl, by rw [List.length_map, List.length_take]; omega, hl, .inr ⟨a, c0, rfl, fun j u hj => ?_⟩⟩, fun n hn => hwz n (List.mem_of_mem_take hn)⟩
    have hjn : j < n0 := by
      have := (List.getElem?_eq_some_iff.1 hj).1
      rw [List.length_map, List.length_take] at this; omega
    rw [hcell j (by omega), ← hj, List.getElem?_map, List.getElem?_take, if_pos hjn, List.getElem?_eq_getElem (by omega), List.getD_eq_getElem?_getD, List.getElem?_eq_getElem (by omega)]
    rfl
theorem open_bytes_arg {H : Type} {enc : TypeId × Value → H} {W : World} {base : Nat} {v : Value} {d : DataW H} {p : List MemPlace}
    (hval : Value.okWide Tryd.prog W .any base 22 v) (h : DataW.Trod enc Tryd.prog W 0 (fun _ => true) true 22 v d p) :
    ∃ l : List UInt8, ArgAt W v (l.map bc) := by
  obtain ⟨zs, h1, h3⟩ := open_ints_arg Tryd.underlying22 Tryd.underlying5 (by kernel_rfl) hval h
  refine ⟨zs.map u8, ?_⟩
  have e : (zs.map u8).map bc = zs.map (Value.int .u8) := by
    rw [List.map_map]
    refine List.map_congr_left fun n hn => ?_
    have hb := bounds_u8 (h3 n hn)
    exact (bc_u8 (by omega) rfl).symm
  rw [e]; exact h1
theorem open_runes_arg {H : Type} {enc : TypeId × Value → H} {W : World} {base : Nat} {v : Value} {d : DataW H} {p : List MemPlace}
    (hval : Value.okWide Tryd.prog W .any base 32 v) (h : DataW.Trod enc Tryd.prog W 0 (fun _ => true) true 32 v d p) :
    ∃ l : List Int, ArgAt W v (l.map (Value.int .i32)) := by
  obtain ⟨zs, h1, _⟩ := open_ints_arg Tryd.underlying32 Tryd.underlying21 (by kernel_rfl) hval h
  exact ⟨zs, h1⟩
end Go.Proofs.YtkpapggojiejdaaDoor
