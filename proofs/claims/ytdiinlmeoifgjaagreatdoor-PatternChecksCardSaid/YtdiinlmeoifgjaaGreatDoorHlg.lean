/- The laws of layer 12: what is not looked at (Large, wide). -/
import Derived.Test.YtdiinlmeoifgjaaGreatDoorHdp
namespace Go.Proofs.YtdiinlmeoifgjaaGreatDoor
open Go.RowKit Go.PlainAid

/-- What a law looks at: if it is not left out, then P. -/
def BigR (P : Prop) (w : World) (e : Ending) (w' : World) : Prop := ∃ b, e = .returned (.bool b) ∧ (b = false → P) ∧ Below w.heap.size w w'
theorem str_szH (l : List UInt8) : (str l).size = l.length := by simp [str, ByteArray.size]
set_option maxRecDepth 50000 in
set_option maxHeartbeats 3200000 in
theorem Large_any (v : Value) (l : List Sx) (w : World) (h : XsAt w v l) :
    Calls Tryz.prog 4 #[v] w (BigR (l.length ≤ 120 ∧ ∀ x ∈ l, x.s.length ≤ 50 ∧ x.p.length ≤ 100) w) := by
  have H1 := Lib.hid (fun W (hW : Below w.heap.size w W) => h.below hW (Nat.le_refl _))
  obtain ⟨va, vc, rfl, _⟩ := h.slice
  obtain ⟨n, hn⟩ : ∃ n, l.length = n := ⟨_, rfl⟩
  have HN := Lib.hid hn
  rw [hn] at H1 ⊢
  clear h hn
  go_enter Tryz.func4, Tryz.ntmps4
  go_wp2_with fail
  go_loopw [3] (fun x3 wr => ∃ k : Nat, x3 = .int .i64 (k : Int) ∧ k ≤ n ∧ k ≤ 130 ∧ Hid (∀ j < k, ∀ y, l[j]? = some y → y.s.length ≤ 50 ∧ y.p.length ≤ 100) ∧ Below w.heap.size w wr) (fun x3 _ => 130 - (intOf x3).toNat)
  case atStart => exact ⟨0, rfl, Nat.zero_le _, Nat.zero_le _, Lib.hid (fun j hj => absurd hj (Nat.not_lt_zero _)), Below.refl _ _⟩
  case round =>
    obtain ⟨k, rfl, hk, hk', HE, hb⟩ := hrel
    have hk0 : (0 : Int) ≤ (k : Int) := Int.natCast_nonneg _
    by_cases hlt1 : k < n
    · have hd1 : decide ((k : Int) < (n : Int)) = true := decide_eq_true (by omega)
      have hk1 : (k : Int) < (n : Int) := by omega
      by_cases hlt2 : k < 130
      · have hd2 : decide ((k : Int) < (130 : Int)) = true := decide_eq_true (by omega)
        obtain ⟨x, hx⟩ : ∃ x, l[k]? = some x := ⟨_, List.getElem?_eq_getElem (by rw [HN.out]; exact hlt1)⟩
        obtain ⟨g1, o1, rfl, hg1, c0, c1, c2, c3, c4, c5, c6, c7⟩ := (H1.out wr hb).node hx
        have HX := Lib.hid hx
        obtain ⟨X0, hX0⟩ : ∃ S, str x.s = S := ⟨_, rfl⟩
        obtain ⟨X1, hX1⟩ : ∃ S, str x.p = S := ⟨_, rfl⟩
        rw [hX0] at c3
        rw [hX1] at c4
        obtain ⟨z1, hz1⟩ : ∃ z, decide ((50 : Int) < (X0.size : Int)) = z := ⟨_, rfl⟩
        obtain ⟨z2, hz2⟩ : ∃ z, decide ((100 : Int) < (X1.size : Int)) = z := ⟨_, rfl⟩
        have HZ1 : Hid (z1 = false → x.s.length ≤ 50) := Lib.hid fun e => by
          rw [e, decide_eq_false_iff_not, ← hX0, str_szH] at hz1; omega
        have HZ2 : Hid (z2 = false → x.p.length ≤ 100) := Lib.hid fun e => by
          rw [e, decide_eq_false_iff_not, ← hX1, str_szH] at hz2; omega
        clear hx hX0 hX1 c0 c1 c2 c5 c6 c7
        cases z1
        · cases z2
          · have HE2 : Hid (∀ j < k + 1, ∀ y, l[j]? = some y → y.s.length ≤ 50 ∧ y.p.length ≤ 100) := Lib.hid (fun j hj y hy => by
              rcases Nat.lt_succ_iff_lt_or_eq.1 hj with h | rfl
              · exact HE.out j h y hy
              · rw [HX.out] at hy
                obtain rfl := Option.some.inj hy
                exact ⟨HZ1.out rfl, HZ2.out rfl⟩)
            go_wp2_with fail
            -- MARK1
            exact ⟨⟨k + 1, by go_num, by omega, by omega, HE2, hb⟩, by simp [intOf]; omega⟩
          · go_wp2_with fail
            go_ret
            exact ⟨true, rfl, fun e => (by cases e), hb⟩
        · go_wp2_with fail
          go_ret
          exact ⟨true, rfl, fun e => (by cases e), hb⟩
      · have hd2 : decide ((k : Int) < (130 : Int)) = false := decide_eq_false (by omega)
        have hd3 : decide ((120 : Int) < (n : Int)) = true := decide_eq_true (by omega)
        go_wp2_with fail
        go_ret
        exact ⟨true, rfl, fun e => (by cases e), hb⟩
    · obtain rfl : k = n := by omega
      have hd1 : decide ((k : Int) < (k : Int)) = false := decide_eq_false (by omega)
      obtain ⟨z, hz⟩ : ∃ z, decide ((120 : Int) < (k : Int)) = z := ⟨_, rfl⟩
      have HZ : Hid (z = false → k ≤ 120 ∧ ∀ x ∈ l, x.s.length ≤ 50 ∧ x.p.length ≤ 100) := Lib.hid fun e => by
        rw [e, decide_eq_false_iff_not] at hz
        refine ⟨by omega, fun x hx => ?_⟩
        obtain ⟨j, hj, rfl⟩ := List.getElem_of_mem hx
        exact HE.out j (by rw [← HN.out]; exact hj) _ (List.getElem?_eq_getElem hj)
      go_wp2_with fail
      go_ret
      exact ⟨z, rfl, HZ.out, hb⟩
set_option maxRecDepth 50000 in
set_option maxHeartbeats 3200000 in
theorem wide_any (v : Value) (l : List Pid) (w : World) (h : PsAt w v l) :
    Calls Tryz.prog 5 #[v] w (BigR (l.length ≤ 30 ∧ ∀ x ∈ l, x.1.length ≤ 50 ∧ x.2.length ≤ 100) w) := by
  have H1 := Lib.hid (fun W (hW : Below w.heap.size w W) => h.below hW (Nat.le_refl _))
  obtain ⟨va, vc, rfl, _⟩ := h.slice
  obtain ⟨n, hn⟩ : ∃ n, l.length = n := ⟨_, rfl⟩
  have HN := Lib.hid hn
  rw [hn] at H1 ⊢
  clear h hn
  go_enter Tryz.func5, Tryz.ntmps5
  go_wp2_with fail
  go_loopw [3] (fun x3 wr => ∃ k : Nat, x3 = .int .i64 (k : Int) ∧ k ≤ n ∧ k ≤ 40 ∧ Hid (∀ j < k, ∀ y, l[j]? = some y → y.1.length ≤ 50 ∧ y.2.length ≤ 100) ∧ Below w.heap.size w wr) (fun x3 _ => 40 - (intOf x3).toNat)
  case atStart => exact ⟨0, rfl, Nat.zero_le _, Nat.zero_le _, Lib.hid (fun j hj => absurd hj (Nat.not_lt_zero _)), Below.refl _ _⟩
  case round =>
    obtain ⟨k, rfl, hk, hk', HE, hb⟩ := hrel
    have hk0 : (0 : Int) ≤ (k : Int) := Int.natCast_nonneg _
    by_cases hlt1 : k < n
    · have hd1 : decide ((k : Int) < (n : Int)) = true := decide_eq_true (by omega)
      have hk1 : (k : Int) < (n : Int) := by omega
      by_cases hlt2 : k < 40
      · have hd2 : decide ((k : Int) < (40 : Int)) = true := decide_eq_true (by omega)
        obtain ⟨x, hx⟩ : ∃ x, l[k]? = some x := ⟨_, List.getElem?_eq_getElem (by rw [HN.out]; exact hlt1)⟩
        obtain ⟨g1, o1, rfl, hg1, c3, c4⟩ := (H1.out wr hb).node hx
        have HX := Lib.hid hx
        obtain ⟨X0, hX0⟩ : ∃ S, str x.1 = S := ⟨_, rfl⟩
        obtain ⟨X1, hX1⟩ : ∃ S, str x.2 = S := ⟨_, rfl⟩
        rw [hX0] at c3
        rw [hX1] at c4
        obtain ⟨z1, hz1⟩ : ∃ z, decide ((50 : Int) < (X0.size : Int)) = z := ⟨_, rfl⟩
        obtain ⟨z2, hz2⟩ : ∃ z, decide ((100 : Int) < (X1.size : Int)) = z := ⟨_, rfl⟩
        have HZ1 : Hid (z1 = false → x.1.length ≤ 50) := Lib.hid fun e => by
          rw [e, decide_eq_false_iff_not, ← hX0, str_szH] at hz1; omega
        have HZ2 : Hid (z2 = false → x.2.length ≤ 100) := Lib.hid fun e => by
          rw [e, decide_eq_false_iff_not, ← hX1, str_szH] at hz2; omega
        clear hx hX0 hX1
        cases z1
        · cases z2
          · have HE2 : Hid (∀ j < k + 1, ∀ y, l[j]? = some y → y.1.length ≤ 50 ∧ y.2.length ≤ 100) := Lib.hid (fun j hj y hy => by
              rcases Nat.lt_succ_iff_lt_or_eq.1 hj with h | rfl
              · exact HE.out j h y hy
              · rw [HX.out] at hy
                obtain rfl := Option.some.inj hy
                exact ⟨HZ1.out rfl, HZ2.out rfl⟩)
            go_wp2_with fail
            -- MARK2
            exact ⟨⟨k + 1, by go_num, by omega, by omega, HE2, hb⟩, by simp [intOf]; omega⟩
          · go_wp2_with fail
            go_ret
            exact ⟨true, rfl, fun e => (by cases e), hb⟩
        · go_wp2_with fail
          go_ret
          exact ⟨true, rfl, fun e => (by cases e), hb⟩
      · have hd2 : decide ((k : Int) < (40 : Int)) = false := decide_eq_false (by omega)
        have hd3 : decide ((30 : Int) < (n : Int)) = true := decide_eq_true (by omega)
        go_wp2_with fail
        go_ret
        exact ⟨true, rfl, fun e => (by cases e), hb⟩
    · obtain rfl : k = n := by omega
      have hd1 : decide ((k : Int) < (k : Int)) = false := decide_eq_false (by omega)
      obtain ⟨z, hz⟩ : ∃ z, decide ((30 : Int) < (k : Int)) = z := ⟨_, rfl⟩
      have HZ : Hid (z = false → k ≤ 30 ∧ ∀ x ∈ l, x.1.length ≤ 50 ∧ x.2.length ≤ 100) := Lib.hid fun e => by
        rw [e, decide_eq_false_iff_not] at hz
        refine ⟨by omega, fun x hx => ?_⟩
        obtain ⟨j, hj, rfl⟩ := List.getElem_of_mem hx
        exact HE.out j (by rw [← HN.out]; exact hj) _ (List.getElem?_eq_getElem hj)
      go_wp2_with fail
      go_ret
      exact ⟨z, rfl, HZ.out, hb⟩
-- MARK9
end Go.Proofs.YtdiinlmeoifgjaaGreatDoor
