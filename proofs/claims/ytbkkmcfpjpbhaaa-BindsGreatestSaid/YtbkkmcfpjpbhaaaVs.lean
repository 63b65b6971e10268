/- The reference of layer 11: Ints, SameTable, asked, candidates, Candidates, Of. -/
import Derived.Test.YtbkkmcfpjpbhaaaVr
namespace Go.Proofs.Ytbkkmcfpjpbhaaa
open Go.RowKit Go.PlainAid

theorem take_moreV {α : Type} {l m : List α} {k : Nat} {x : α} (h : l.take k = m.take k) (h1 : l[k]? = some x) (h2 : m[k]? = some x) : l.take (k + 1) = m.take (k + 1) := by
  rw [List.take_add_one, List.take_add_one, h, h1, h2]
set_option maxRecDepth 50000 in
set_option maxHeartbeats 1600000 in
theorem rInts_any (v v' : Value) (l m : List Nat) (w : World) (h : NatAt w v l) (h' : NatAt w v' m) (hl : l.length ≤ 1000000) :
    Calls Try.prog 21 #[v, v'] w fun e w' => e = .returned (.bool (decide (l = m))) ∧ Below w.heap.size w w' := by
  have HA := Lib.hid (fun W (hW : Below w.heap.size w W) => h.below hW (Nat.le_refl _))
  have HA' := Lib.hid (fun W (hW : Below w.heap.size w W) => h'.below hW (Nat.le_refl _))
  obtain ⟨a, c, rfl, hc⟩ := h.slice
  obtain ⟨a', c', rfl, hc'⟩ := h'.slice
  clear h h'
  by_cases hn : l.length = m.length
  · obtain ⟨n, hln⟩ : ∃ n, l.length = n := ⟨_, rfl⟩
    have hmn : m.length = n := hn ▸ hln
    have HL := Lib.hid hln
    have HM := Lib.hid hmn
    rw [hln] at hl HA hc
    rw [hmn] at HA' hc'
    rw [hln, hmn]
    clear hn hln hmn
    go_enter Try.func21, Try.ntmps21
    go_wp2_with fail
    go_loopw [5] (fun x5 wr => ∃ k : Nat, x5 = .int .i64 k ∧ k ≤ n ∧ Hid (l.take k = m.take k) ∧ Below w.heap.size w wr) (fun x5 _ => n - (intOf x5).toNat)
    case atStart => exact ⟨0, rfl, Nat.zero_le _, Lib.hid (by rw [List.take_zero, List.take_zero]), Below.refl _ _⟩
    case round =>
      obtain ⟨k, rfl, hk, HT, hbr⟩ := hrel
      by_cases hlt : k < n
      · obtain ⟨x, hx⟩ : ∃ x, l[k]? = some x := ⟨_, List.getElem?_eq_getElem (by rw [HL.out]; exact hlt)⟩
        obtain ⟨y, hy⟩ : ∃ y, m[k]? = some y := ⟨_, List.getElem?_eq_getElem (by rw [HM.out]; exact hlt)⟩
        obtain ⟨g1, o1, rfl, hg1, d1⟩ := (HA.out wr hbr).nth hx
        obtain ⟨g2, o2, rfl, hg2, d2⟩ := (HA'.out wr hbr).nth hy
        have hk0 : (0 : Int) ≤ (k : Int) := Int.natCast_nonneg _
        have hk1 : (k : Int) < (n : Int) := by omega
        by_cases hxy : x = y
        · subst hxy
          have HT2 := Lib.hid (take_moreV HT.out hx hy)
          clear hx hy
          go_wp2_with fail
          go_quiet (fail)
          go_wp2_with fail
          exact ⟨⟨k + 1, by go_num, by omega, HT2, ⟨hbr.os, hbr.tape, hbr.output, hbr.size, hbr.block⟩⟩, by simp [intOf]; omega⟩
        · have hne : ((x : Int) != (y : Int)) = true := bne_iff_ne.2 (by omega)
          have HD : Hid (decide (l = m) = false) := Lib.hid (decide_eq_false (fun e => by rw [e, hy] at hx; exact hxy (Option.some.inj hx).symm))
          clear hx hy hxy
          go_wp2_with fail
          go_quiet (fail)
          go_wp2_with fail
          go_ret
          exact ⟨ret_bool (by rw [HD.out]), ⟨hbr.os, hbr.tape, hbr.output, hbr.size, hbr.block⟩⟩
      · obtain rfl : k = n := by omega
        have HD : Hid (decide (l = m) = true) := Lib.hid (decide_eq_true (by
          have := HT.out
          rwa [List.take_of_length_le (Nat.le_of_eq HL.out), List.take_of_length_le (Nat.le_of_eq HM.out)] at this))
        go_wp2_with fail
        go_ret
        exact ⟨ret_bool (by rw [HD.out]), hbr⟩
  · have HD : Hid (decide (l = m) = false) := Lib.hid (decide_eq_false (fun e => hn (by rw [e])))
    have hne : ((l.length : Int) != (m.length : Int)) = true := bne_iff_ne.2 (by omega)
    clear hn
    go_enter Try.func21, Try.ntmps21
    go_wp2_with fail
    go_ret
    exact ⟨ret_bool (by rw [HD.out]), Below.refl _ _⟩
theorem bd_ne (x y : Bd) (W : World) : (binOp .neq 24 (bdA x) (bdA y)).run Try.prog W = .ok (.bool (!decide (x = y))) W := by
  obtain ⟨x0, x1, x2, x3⟩ := x
  obtain ⟨y0, y1, y2, y3⟩ := y
  have h0 : ((str x0).toList = (str y0).toList) ↔ x0 = y0 := by rw [← beq_iff_eq, str_beqV, decide_eq_true_iff]
  have h1 : ((str x1).toList = (str y1).toList) ↔ x1 = y1 := by rw [← beq_iff_eq, str_beqV, decide_eq_true_iff]
  unfold bdA bdC
  simp [go_sem, h0, h1]
  by_cases e0 : x0 = y0 <;> by_cases e1 : x1 = y1 <;> by_cases e2 : x2 = y2 <;> by_cases e3 : x3 = y3 <;> simp [e0, e1, e2, e3]
set_option maxRecDepth 50000 in
set_option maxHeartbeats 3200000 in
theorem rSameT_any (v v' : Value) (l m : List Bd) (w : World) (h : BsAt w v l) (h' : BsAt w v' m) (hl : l.length ≤ 1000000) :
    Calls Try.prog 16 #[v, v'] w fun e w' => e = .returned (.bool (decide (l = m))) ∧ Below w.heap.size w w' := by
  have HA := Lib.hid (fun W (hW : Below w.heap.size w W) => h.below hW (Nat.le_refl _))
  have HA' := Lib.hid (fun W (hW : Below w.heap.size w W) => h'.below hW (Nat.le_refl _))
  obtain ⟨a, c, rfl, hc⟩ := h.slice
  obtain ⟨a', c', rfl, hc'⟩ := h'.slice
  clear h h'
  by_cases hn : l.length = m.length
  · obtain ⟨n, hln⟩ : ∃ n, l.length = n := ⟨_, rfl⟩
    have hmn : m.length = n := hn ▸ hln
    have HL := Lib.hid hln
    have HM := Lib.hid hmn
    rw [hln] at hl HA hc
    rw [hmn] at HA' hc'
    rw [hln, hmn]
    clear hn hln hmn
    go_enter Try.func16, Try.ntmps16
    go_wp2_with fail
    go_loopw [5] (fun x5 wr => ∃ k : Nat, x5 = .int .i64 k ∧ k ≤ n ∧ Hid (l.take k = m.take k) ∧ Below w.heap.size w wr) (fun x5 _ => n - (intOf x5).toNat)
    case atStart => exact ⟨0, rfl, Nat.zero_le _, Lib.hid (by rw [List.take_zero, List.take_zero]), Below.refl _ _⟩
    case round =>
      obtain ⟨k, rfl, hk, HT, hbr⟩ := hrel
      by_cases hlt : k < n
      · obtain ⟨x, hx⟩ : ∃ x, l[k]? = some x := ⟨_, List.getElem?_eq_getElem (by rw [HL.out]; exact hlt)⟩
        obtain ⟨y, hy⟩ : ∃ y, m[k]? = some y := ⟨_, List.getElem?_eq_getElem (by rw [HM.out]; exact hlt)⟩
        obtain ⟨g1, o1, rfl, hg1, d0, d1, d2, d3⟩ := (HA.out wr hbr).node hx
        obtain ⟨g2, o2, rfl, hg2, b0, b1, b2, b3⟩ := (HA'.out wr hbr).node hy
        have hk0 : (0 : Int) ≤ (k : Int) := Int.natCast_nonneg _
        have hk1 : (k : Int) < (n : Int) := by omega
        have hne := bd_ne x y
        rw [bdA_eq, bdA_eq] at hne
        by_cases hxy : x = y
        · rw [decide_eq_true hxy] at hne
          have HT2 := Lib.hid (take_moreV HT.out (x := y) (by rw [← hxy]; exact hx) hy)
          obtain ⟨x0, x1, x2, x3⟩ := x
          obtain ⟨y0, y1, y2, y3⟩ := y
          simp only at d0 d1 d2 d3 b0 b1 b2 b3 hne
          simp only [Bool.not_true] at hne
          obtain ⟨X0, hX0⟩ : ∃ S, str x0 = S := ⟨_, rfl⟩
          obtain ⟨X1, hX1⟩ : ∃ S, str x1 = S := ⟨_, rfl⟩
          obtain ⟨Y0, hY0⟩ : ∃ S, str y0 = S := ⟨_, rfl⟩
          obtain ⟨Y1, hY1⟩ : ∃ S, str y1 = S := ⟨_, rfl⟩
          rw [hX0] at d0 hne
          rw [hX1] at d1 hne
          rw [hY0] at b0 hne
          rw [hY1] at b1 hne
          clear hx hy hxy hX0 hX1 hY0 hY1
          go_wp2_with fail
          go_quiet (fail)
          go_wp2_with fail
          exact ⟨⟨k + 1, by go_num, by omega, HT2, ⟨hbr.os, hbr.tape, hbr.output, hbr.size, hbr.block⟩⟩, by simp [intOf]; omega⟩
        · rw [decide_eq_false hxy] at hne
          have HD : Hid (decide (l = m) = false) := Lib.hid (decide_eq_false (fun e => by rw [e, hy] at hx; exact hxy (Option.some.inj hx).symm))
          obtain ⟨x0, x1, x2, x3⟩ := x
          obtain ⟨y0, y1, y2, y3⟩ := y
          simp only at d0 d1 d2 d3 b0 b1 b2 b3 hne
          simp only [Bool.not_false] at hne
          obtain ⟨X0, hX0⟩ : ∃ S, str x0 = S := ⟨_, rfl⟩
          obtain ⟨X1, hX1⟩ : ∃ S, str x1 = S := ⟨_, rfl⟩
          obtain ⟨Y0, hY0⟩ : ∃ S, str y0 = S := ⟨_, rfl⟩
          obtain ⟨Y1, hY1⟩ : ∃ S, str y1 = S := ⟨_, rfl⟩
          rw [hX0] at d0 hne
          rw [hX1] at d1 hne
          rw [hY0] at b0 hne
          rw [hY1] at b1 hne
          clear hx hy hxy hX0 hX1 hY0 hY1
          go_wp2_with fail
          go_quiet (fail)
          go_wp2_with fail
          go_ret
          exact ⟨ret_bool (by rw [HD.out]), ⟨hbr.os, hbr.tape, hbr.output, hbr.size, hbr.block⟩⟩
      · obtain rfl : k = n := by omega
        have HD : Hid (decide (l = m) = true) := Lib.hid (decide_eq_true (by
          have := HT.out
          rwa [List.take_of_length_le (Nat.le_of_eq HL.out), List.take_of_length_le (Nat.le_of_eq HM.out)] at this))
        go_wp2_with fail
        go_ret
        exact ⟨ret_bool (by rw [HD.out]), hbr⟩
  · have HD : Hid (decide (l = m) = false) := Lib.hid (decide_eq_false (fun e => hn (by rw [e])))
    have hne : ((l.length : Int) != (m.length : Int)) = true := bne_iff_ne.2 (by omega)
    clear hn
    go_enter Try.func16, Try.ntmps16
    go_wp2_with fail
    go_ret
    exact ⟨ret_bool (by rw [HD.out]), Below.refl _ _⟩
-- MARK9
end Go.Proofs.Ytbkkmcfpjpbhaaa
