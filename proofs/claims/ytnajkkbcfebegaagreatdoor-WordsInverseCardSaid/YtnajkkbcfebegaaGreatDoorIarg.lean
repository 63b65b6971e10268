/- Slices of numbers that came in, opened. -/
import Derived.Test.YtnajkkbcfebegaaGreatDoorZdoor
import Derived.Test.YtnajkkbcfebegaaGreatDoorLawLs
import Derived.ChangeSlices
import Derived.OpenShut
import Derived.Carry
namespace Go.Proofs.YtnajkkbcfebegaaGreatDoor
open Go.ChangeShapes Go.WideShapes Go.ChangeAt Go.RowKit

theorem laidOut : laidOutB Tryz.prog = true := by kernel_rfl
set_option maxRecDepth 100000 in
theorem open_nums_arg {H : Type} {enc : TypeId × Value → H} {W : World} {base : Nat} {v : Value} {d : DataW H} {p : List MemPlace}
    (hval : Value.okWide Tryz.prog W .any base 22 v) (h : DataW.Trod enc Tryz.prog W 0 (fun _ => true) true 22 v d p) :
    ∃ zs : List Int, IntsArg W v zs ∧ (∀ n ∈ zs, i64r n) ∧ zs.length ≤ maxLen := by
  obtain ⟨fuel, hf⟩ := h
  obtain ⟨a0, n0, c0, rfl⟩ := okWide_slice Tryz.underlying22 hval
  rcases open_ints Tryz.underlying22 Tryz.underlying3 (by kernel_rfl) hf with ⟨hcs, hx⟩ | ⟨a, len, cap, zs, hcs, _, hl, hm, hz, hx, hcell, hwz⟩
  · simp [Value.cells] at hcs
    obtain ⟨rfl, rfl, rfl⟩ := hcs
    exact ⟨[], .inl ⟨_, _, rfl, rfl⟩, (fun n hn => by cases hn), Nat.zero_le _⟩
  · simp [Value.cells] at hcs
    obtain ⟨rfl, rfl, rfl⟩ := hcs
    have hzl : zs.length = c0 := by simpa using hz
    refine ⟨zs.take n0, ?_, fun n hn => ?_, by rw [List.length_take]; omega⟩
    · by_cases h0 : n0 = 0
      · subst h0; exact .inl ⟨_, _, rfl, rfl⟩
      · obtain ⟨b, off, rfl, hc2⟩ := ints_at hcell (by omega)
        have hlen : n0 = (zs.take n0).length := by rw [List.length_take]; omega
        refine .inr (.inr ⟨b, off, c0, by rw [← hlen], World.block_lt_of_cell? W ⟨b, off + 0, none⟩ (hc2 0 (by omega)), fun j u hj => ?_⟩)
        have hjn : j < n0 := by
          have := (List.getElem?_eq_some_iff.1 hj).1
          omega
        rw [List.getElem?_take, if_pos hjn, List.getElem?_eq_getElem (by omega)] at hj
        rw [hc2 j (by omega), List.getD_eq_getElem?_getD, List.getElem?_eq_getElem (by omega)]
        rw [← Option.some.inj hj]; rfl
    · have := bounds_i64 (hwz n (List.mem_of_mem_take hn))
      exact this
end Go.Proofs.YtnajkkbcfebegaaGreatDoor
