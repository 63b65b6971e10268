/- Slices of numbers that came in, opened; the law's ints. -/
import Derived.Test.YtchnmbfeaaialaaDoorSdoor
import Derived.Test.YtchnmbfeaaialaaDoorSrm
import Derived.ChangeSlices
import Derived.OpenShut
import Derived.Carry
namespace Go.Proofs.YtchnmbfeaaialaaDoor
open Go.ChangeShapes Go.WideShapes Go.ChangeAt Go.RowKit Go.PlainAid

set_option maxRecDepth 100000 in
theorem open_nums_arg {H : Type} {enc : TypeId × Value → H} {W : World} {base : Nat} {v : Value} {d : DataW H} {p : List MemPlace}
    (hval : Value.okWide Tryd.prog W .any base 22 v) (h : DataW.Trod enc Tryd.prog W 0 (fun _ => true) true 22 v d p) :
    ∃ zs : List Int, NumAt W v zs := by
  obtain ⟨fuel, hf⟩ := h
  obtain ⟨a0, n0, c0, rfl⟩ := okWide_slice Tryd.underlying22 hval
  rcases open_ints Tryd.underlying22 Tryd.underlying3 (by kernel_rfl) hf with ⟨hcs, hx⟩ | ⟨a, len, cap, zs, hcs, _, hl, hm, hz, hx, hcell, hwz⟩
  · simp [Value.cells] at hcs
    obtain ⟨rfl, rfl, rfl⟩ := hcs
    exact ⟨[], _, _, _, rfl, rfl, Nat.le_refl _, .inl rfl⟩
  · simp [Value.cells] at hcs
    obtain ⟨rfl, rfl, rfl⟩ := hcs
    have hzl : zs.length = c0 := by simpa using hz
    have hlen : n0 = (zs.take n0).length := by rw [List.length_take]; omega
    refine ⟨zs.take n0, _, _, _, rfl, hlen, by omega, ?_⟩
    by_cases h0 : n0 = 0
    · subst h0; exact .inl rfl
    · obtain ⟨b, off, rfl, hc2⟩ := ints_at hcell (by omega)
      refine .inr ⟨b, off, rfl, World.block_lt_of_cell? W ⟨b, off + 0, none⟩ (hc2 0 (by omega)), fun j u hj => ?_⟩
      have hjn : j < n0 := by
        have := (List.getElem?_eq_some_iff.1 hj).1
        omega
      rw [List.getElem?_take, if_pos hjn, List.getElem?_eq_getElem (by omega)] at hj
      rw [hc2 j (by omega), List.getD_eq_getElem?_getD, List.getElem?_eq_getElem (by omega)]
      rw [← Option.some.inj hj]; rfl
set_option maxRecDepth 100000 in
set_option maxHeartbeats 3200000 in
theorem ints_any (v1 v2 : Value) (l : List Nat) (w : World) (h1 : NatAt w v1 l) (h2 : NatAt w v2 l) (hl : l.length ≤ 1000000) :
    Calls Tryd.prog 17 #[v1, v2] w fun e w' => e = .returned (.bool true) ∧ Below w.heap.size w w' := by
  obtain ⟨a1, n, c1, rfl, hn, _, hm1⟩ := h1
  obtain ⟨a2, n2, c2, rfl, hn2, _, hm2⟩ := h2
  obtain rfl : n2 = n := by omega
  have HM1 := Lib.hid hm1
  have HM2 := Lib.hid hm2
  have HN := Lib.hid hn
  have hnb : n2 ≤ 1000000 := by omega
  clear hm1 hm2 hn hn2 hl
  go_enter Tryd.func17, Tryd.ntmps17
  go_wp2_with fail
  go_loopw [5] (fun x5 wr => ∃ (k : Nat), x5 = .int .i64 (k : Int) ∧ k ≤ n2 ∧ (∀ p : Addr, p.block < w.heap.size → wr.cell? p = w.cell? p) ∧ Below w.heap.size w wr) (fun x5 _ => n2 - (intOf x5).toNat)
  case atStart => exact ⟨0, rfl, Nat.zero_le _, fun p _ => rfl, Below.refl _ _⟩
  case round =>
    obtain ⟨k, rfl, hk, hcl, hbel⟩ := hrel
    have HCl := Lib.hid hcl
    clear hcl
    by_cases hlt : k < n2
    · obtain ⟨x, hxk⟩ : ∃ x, l[k]? = some x := ⟨_, List.getElem?_eq_getElem (by rw [← HN.out]; exact hlt)⟩
      rcases HM1.out with hl0 | ⟨g1, o1, rfl, hg1, hcell1⟩
      · rw [hl0] at hxk; cases hxk
      rcases HM2.out with hl0 | ⟨g2, o2, rfl, hg2, hcell2⟩
      · rw [hl0] at hxk; cases hxk
      have c1 := (HCl.out ⟨g1, o1 + k, none⟩ hg1).trans (hcell1 k x hxk)
      have c2 := (HCl.out ⟨g2, o2 + k, none⟩ hg2).trans (hcell2 k x hxk)
      have hd : decide ((k : Int) < (n2 : Int)) = true := decide_eq_true (by omega)
      have hk0 : (0 : Int) ≤ (k : Int) := Int.natCast_nonneg _
      have hk1 : (k : Int) < (n2 : Int) := by omega
      clear hxk hcell1 hcell2
      go_wp2_with fail
      go_quiet (fail)
      go_wp2
      -- MARK1
      exact ⟨⟨k + 1, by go_num, by omega, fun p hp => HCl.out p hp, ⟨hbel.os, hbel.tape, hbel.output, hbel.size, hbel.block⟩⟩, by simp [intOf]; omega⟩
    · obtain rfl : k = n2 := by omega
      have hd : decide ((k : Int) < (k : Int)) = false := decide_eq_false (Int.lt_irrefl _)
      go_wp2_with fail
      go_ret
      exact ⟨rfl, hbel⟩
-- MARK9
end Go.Proofs.YtchnmbfeaaialaaDoor
