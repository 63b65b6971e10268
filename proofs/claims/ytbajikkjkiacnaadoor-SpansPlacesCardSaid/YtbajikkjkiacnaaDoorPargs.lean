/- Layer 3: bytes that came in, opened. -/
import Derived.Test.YtbajikkjkiacnaaDoorPconv
import Derived.ChangeSlices
import Derived.OpenShut
namespace Go.Proofs.YtbajikkjkiacnaaDoor
open Go.ChangeShapes Go.WideShapes Go.ChangeAt Go.RowKit

/-- The same, with the address that the argument has. -/
theorem open_ints_arg {H : Type} {enc : TypeId × Value → H} {W : World} {base : Nat} {t e : TypeId} {k : IntKind} {v : Value} {d : DataW H} {p : List MemPlace} (ht : Tryd.prog.underlying t = some (.slice e)) (he : Tryd.prog.underlying e = some (.int k)) (hc : Tryd.prog.cellsOf e = 1)
    (hval : Value.okWide Tryd.prog W .any base t v) (h : DataW.Trod enc Tryd.prog W 0 (fun _ => true) true t v d p) :
    ∃ zs : List Int, ArgAt W v (zs.map (Value.int k)) ∧ ∀ n ∈ zs, (Lit.int k n).wf = true := by
  obtain ⟨fuel, hf⟩ := h
  obtain ⟨a0, n0, c0, rfl⟩ := okWide_slice ht hval
  rcases open_ints ht he hc hf with ⟨hcs, hx⟩ | ⟨a, len, cap, zs, hcs, _, hl, hm, hz, hx, hcell, hwz⟩
  · simp [Value.cells] at hcs
    obtain ⟨rfl, rfl, rfl⟩ := hcs
    exact ⟨[], ⟨_, _, _, rfl, rfl, Nat.le_refl _, .inl ⟨rfl, rfl, rfl⟩⟩, fun n hn => by cases hn⟩
  · simp [Value.cells] at hcs
    obtain ⟨rfl, rfl, rfl⟩ := hcs
    have hzl : zs.length = c0 := by simpa using hz
    refine ⟨zs.take n0, ⟨_, _, _, rfl, by rw [List.length_map, List.length_take]; omega, hl, .inr ⟨a, c0, rfl, fun j u hj => ?_⟩⟩, fun n hn => hwz n (List.mem_of_mem_take hn)⟩
    have hjn : j < n0 := by
      have := (List.getElem?_eq_some_iff.1 hj).1
      rw [List.length_map, List.length_take] at this; omega
    rw [hcell j (by omega), ← hj, List.getElem?_map, List.getElem?_take, if_pos hjn, List.getElem?_eq_getElem (by omega), List.getD_eq_getElem?_getD, List.getElem?_eq_getElem (by omega)]
    rfl
theorem open_bytes_arg {H : Type} {enc : TypeId × Value → H} {W : World} {base : Nat} {v : Value} {d : DataW H} {p : List MemPlace}
    (hval : Value.okWide Tryd.prog W .any base 43 v) (h : DataW.Trod enc Tryd.prog W 0 (fun _ => true) true 43 v d p) :
    ∃ l : List UInt8, ArgAt W v (l.map bc) := by
  obtain ⟨zs, h1, h3⟩ := open_ints_arg Tryd.underlying43 Tryd.underlying5 (by kernel_rfl) hval h
  refine ⟨zs.map u8, ?_⟩
  have e : (zs.map u8).map bc = zs.map (Value.int .u8) := by
    rw [List.map_map]
    refine List.map_congr_left fun n hn => ?_
    have hb := bounds_u8 (h3 n hn)
    exact (bc_u8 (by omega) rfl).symm
  rw [e]; exact h1
/-- An argument of bytes, written out. -/
def ByArg (W : World) (v : Value) (l : List UInt8) : Prop := ∃ a n c, v = .slice a n c ∧ n = l.length ∧ n ≤ c ∧ BytesAt W (.slice a n c) l
theorem open_bytes3 {H : Type} {enc : TypeId × Value → H} {W : World} {base : Nat} {v : Value} {d : DataW H} {p : List MemPlace}
    (hval : Value.okWide Tryd.prog W .any base 43 v) (h : DataW.Trod enc Tryd.prog W 0 (fun _ => true) true 43 v d p) :
    ∃ l : List UInt8, ByArg W v l := by
  obtain ⟨l, a, n, c, rfl, hn, hc, hs⟩ := open_bytes_arg hval h
  exact ⟨l, a, n, c, rfl, by simpa using hn, hc, hs.row hn⟩
end Go.Proofs.YtbajikkjkiacnaaDoor
