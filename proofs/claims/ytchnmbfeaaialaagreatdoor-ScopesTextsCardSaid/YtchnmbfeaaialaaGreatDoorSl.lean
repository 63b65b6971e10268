/- scopes.setOf; mergeOne, mergeTwo, and the functions that are made of them. -/
import Derived.Test.YtchnmbfeaaialaaGreatDoorSk
namespace Go.Proofs.YtchnmbfeaaialaaGreatDoor
open Go.RowKit Go.PlainAid

/-- The slice value v holds the scopes l. -/
def NatAt (w : World) (v : Value) (l : List Nat) : Prop :=
  ∃ a n c, v = .slice a n c ∧ n = l.length ∧ n ≤ c ∧ (l = [] ∨ ∃ g off, a = some ⟨g, off, none⟩ ∧ g < w.heap.size ∧ ∀ (j x : Nat), l[j]? = some x → w.cell? ⟨g, off + j, none⟩ = some (.int .i64 (x : Int)))
theorem NatAt.below {B : Nat} {w w' : World} {v : Value} {l : List Nat} (h : NatAt w v l) (hb : Below B w w') (hB : w.heap.size ≤ B) : NatAt w' v l := by
  obtain ⟨a, n, c, e, hn, hc, h⟩ := h
  refine ⟨a, n, c, e, hn, hc, h.imp id ?_⟩
  rintro ⟨g, off, rfl, hg, hcell⟩
  exact ⟨g, off, rfl, Nat.lt_of_lt_of_le hg hb.size, fun j u hj => (hb.cell (p := ⟨g, off + j, none⟩) (by show g < B; omega)).trans (hcell j u hj)⟩
theorem hi_conv {x : Nat} (h : x < 65536) : ((hiB x).toNat : Int) = (x : Int) / 256 ∧ ((loB x).toNat : Int) = (x : Int) % 256 := by
  rw [hi_nat h, lo_nat]; omega
set_option maxRecDepth 100000 in
set_option maxHeartbeats 3200000 in
theorem setOf_any (v : Value) (l : List Nat) (w : World) (h : NatAt w v l) (hx : ∀ x ∈ l, x < 65536) (hl : l.length ≤ 100000) :
    Calls Tryz.prog 26 #[v] w fun e w' => e = .returned (.string (str (setL l))) ∧ Below w.heap.size w w' := by
  obtain ⟨a, n, c, rfl, hn, hc, hm⟩ := h
  have HM := Lib.hid hm
  have HN := Lib.hid hn
  have HX := Lib.hid hx
  have hnb : n ≤ 100000 := by omega
  clear hm hn hx hl
  obtain ⟨i0, hi, hj0, hj1, hj2⟩ := info_parts2 infoU8
  go_enter Tryz.func26, Tryz.ntmps26
  go_wp2
  go_loopw [3, 8] (fun x3 x8 wr => ∃ (k : Nat), x8 = .int .i64 (k : Int) ∧ k ≤ n ∧ wr.ownsRow w.heap.size 5 1 x3 (2 * k) ((setL (l.take k)).map bc) ∧ Below w.heap.size w wr) (fun _ x8 _ => n - (intOf x8).toNat)
  case atStart => exact ⟨0, rfl, Nat.zero_le _, ⟨rfl, .inl ⟨rfl, rfl⟩⟩, Below.refl _ _⟩
  case round =>
    obtain ⟨k, rfl, hk, hown, hbel⟩ := hrel
    have HO := Lib.hid hown
    have HB := Lib.hid hbel
    obtain ⟨va, vc, rfl⟩ := own_len hown
    clear hown hbel
    by_cases hlt : k < n
    · obtain ⟨x, hxk⟩ : ∃ x, l[k]? = some x := ⟨_, List.getElem?_eq_getElem (by rw [← HN.out]; exact hlt)⟩
      have hx64 := HX.out x (List.mem_of_getElem? hxk)
      rcases HM.out with hl0 | ⟨g, off, rfl, hg, hcell⟩
      · rw [hl0] at hxk; cases hxk
      have c0 := (HB.out.cell (p := ⟨g, off + k, none⟩) hg).trans (hcell k x hxk)
      have HT : Hid ((setL (l.take (k + 1))).map bc = (setL (l.take k)).map bc ++ [bc (hiB x), bc (loB x)]) := Lib.hid (by rw [← take_snocN hxk, setL_app, List.map_append]; rfl)
      have hk0 : (0 : Int) ≤ (k : Int) := Int.natCast_nonneg _
      have hk1 : (k : Int) < (n : Int) := by omega
      obtain ⟨hh, hlo⟩ := hi_conv hx64
      clear hxk hcell
      have hbs := HB.out.size
      have e8 : bc (hiB x) = .int .u8 ((x : Int) / 256) := by unfold bc; rw [hh]
      have e9 : bc (loB x) = .int .u8 ((x : Int) % 256) := by unfold bc; rw [hlo]
      rw [e8, e9] at HT
      clear e8 e9 hh hlo
      go_wp2_with (at_builtin; refine wpList_append_own _ rfl _ _ 65 rfl w.heap.size 5 i0 (.int .u8 0) 1 1 Tryz.underlying65 hi hj0 hj1 hj2 rfl (by decide) _ _ _ rfl (HO.out.alloc _) ⟨wr.heap.size, 0, none⟩ 2 2 [.int .u8 ((x : Int) / 256), .int .u8 ((x : Int) % 256)] rfl rfl (new_cells2 wr _ _ _ _ rfl) (one_ints rfl) (by unfold maxLen; omega) (by omega) (by rw [World.size_alloc]; omega) ?_; intro v' w3 hown' hgrow _; obtain ⟨b3, cb3, rfl⟩ := own_len hown'; have HB3 : Below w.heap.size w w3 := (HB.out.alloc hbs _).grown hgrow (by rw [World.size_alloc]; omega) (fun q hq => (HO.out.lt q hq).1))
      exact ⟨⟨k + 1, by go_num, by omega, by rw [HT.out]; exact hown', HB3⟩, by simp [intOf]; omega⟩
    · obtain rfl : k = n := by omega
      have HE : Hid (l.take k = l) := Lib.hid (List.take_of_length_le (by rw [HN.out]; exact Nat.le_refl _))
      have hcv := conv_own Tryz.underlying65 Tryz.underlying5 HO.out 9 Tryz.underlying9
      rw [HE.out] at hcv
      have hd0 : decide ((k : Int) < (k : Int)) = false := decide_eq_false (Int.lt_irrefl _)
      go_wp2
      go_ret
      exact ⟨rfl, HB.out⟩
-- MARK8
end Go.Proofs.YtchnmbfeaaialaaGreatDoor
