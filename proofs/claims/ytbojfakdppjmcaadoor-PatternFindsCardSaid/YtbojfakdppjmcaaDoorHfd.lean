/- Patterns: Find, and the reference's. -/
import Derived.Test.YtbojfakdppjmcaaDoorHu
namespace Go.Proofs.YtbojfakdppjmcaaDoor
open Go.RowKit Go.PlainAid

/-- What Find gives. -/
def fndV (l : List Pw) (q : Pid) : Value := match l.findIdx? (fun x => decide (x.1 = q)) with
  | some k => .tuple #[.int .i64 (k : Int), .int .i64 0]
  | none => .tuple #[.int .i64 0, .int .i64 4]
theorem fnd_some {l : List Pw} {q : Pid} {k : Nat} {x : Pw} (hx : l[k]? = some x) (he : x.1 = q) (hn : ∀ j < k, ∀ y, l[j]? = some y → y.1 ≠ q) : fndV l q = .tuple #[.int .i64 (k : Int), .int .i64 0] := by
  have h : l.findIdx? (fun x => decide (x.1 = q)) = some k := by
    rw [List.findIdx?_eq_some_iff_getElem]
    obtain ⟨hk, e⟩ := List.getElem?_eq_some_iff.1 hx
    refine ⟨hk, by rw [e]; exact decide_eq_true he, fun j hj => ?_⟩
    rw [decide_eq_true_iff]
    exact hn j hj _ (List.getElem?_eq_getElem (by omega))
  unfold fndV; rw [h]
theorem fnd_none {l : List Pw} {q : Pid} (hn : ∀ j < l.length, ∀ y, l[j]? = some y → y.1 ≠ q) : fndV l q = .tuple #[.int .i64 0, .int .i64 4] := by
  have h : l.findIdx? (fun x => decide (x.1 = q)) = none := by
    rw [List.findIdx?_eq_none_iff]
    intro x hx
    obtain ⟨j, hj, rfl⟩ := List.getElem_of_mem hx
    exact decide_eq_false (hn j hj _ (List.getElem?_eq_getElem hj))
  unfold fndV; rw [h]
set_option maxRecDepth 50000 in
set_option maxHeartbeats 3200000 in
theorem Find_any (v : Value) (l : List Pw) (q1 q2 : List UInt8) (w : World) (h : WsAt w v l) (hl : l.length ≤ 100000) :
    Calls Tryd.prog 14 #[v, .agg #[.string (str q1), .string (str q2)]] w fun e w' => e = .returned (fndV l (q1, q2)) ∧ Below w.heap.size w w' := by
  have hb0 := below_b1 w (.cells #[.string (str q1), .string (str q2)] 32)
  have hbx := World.alloc_heap_new w (.cells #[.string (str q1), .string (str q2)] 32)
  obtain ⟨W1, hW1⟩ : ∃ W1, w.alloc (.cells #[.string (str q1), .string (str q2)] 32) = W1 := ⟨_, rfl⟩
  have hsz : W1.heap.size = w.heap.size + 1 := by rw [← hW1, World.size_alloc]
  have HBx : Hid (∀ W, Below W1.heap.size W1 W → W.cell? ⟨w.heap.size, 0, none⟩ = some (.string (str q1)) ∧ W.cell? ⟨w.heap.size, 1, none⟩ = some (.string (str q2))) := Lib.hid fun W hW => by
    have h := (hW.block w.heap.size (by rw [hsz]; omega)).trans (hW1 ▸ hbx)
    exact ⟨by simp [World.cell?, h], by simp [World.cell?, h]⟩
  rw [hW1] at hb0
  have H1 := Lib.hid (fun W (hW : Below W1.heap.size W1 W) => h.below (below_step hb0 hW) (Nat.le_refl _))
  obtain ⟨va, vc, rfl, _⟩ := h.slice
  obtain ⟨n, hn⟩ : ∃ n, l.length = n := ⟨_, rfl⟩
  have HN := Lib.hid hn
  rw [hn] at hl H1 ⊢
  obtain ⟨Q1, hQ1⟩ : ∃ S, str q1 = S := ⟨_, rfl⟩
  obtain ⟨Q2, hQ2⟩ : ∃ S, str q2 = S := ⟨_, rfl⟩
  have HQ1 := Lib.hid hQ1
  have HQ2 := Lib.hid hQ2
  obtain ⟨R, hR⟩ : ∃ R, fndV l (q1, q2) = R := ⟨_, rfl⟩
  have HR := Lib.hid hR
  rw [hR]
  rw [hQ1, hQ2] at HBx hW1 ⊢
  clear h hn hbx hQ1 hQ2 hR
  go_enter Tryd.func14, Tryd.ntmps14
  go_wp2_with fail
  clear hW1
  -- MARK1
  go_loopw [10] (fun x10 wr => ∃ k : Nat, x10 = .int .i64 (k : Int) ∧ k ≤ n ∧ Hid (∀ j < k, ∀ y, l[j]? = some y → y.1 ≠ (q1, q2)) ∧ Below W1.heap.size W1 wr) (fun x10 _ => n - (intOf x10).toNat)
  case atStart => exact ⟨0, rfl, Nat.zero_le _, Lib.hid (fun j hj => absurd hj (Nat.not_lt_zero _)), Below.refl _ _⟩
  case round =>
    obtain ⟨k, rfl, hk, HE, hb⟩ := hrel
    have hk0 : (0 : Int) ≤ (k : Int) := Int.natCast_nonneg _
    obtain ⟨b0, b1⟩ := HBx.out wr hb
    by_cases hlt1 : k < n
    · have hd1 : decide ((k : Int) < (n : Int)) = true := decide_eq_true (by omega)
      have hk1 : (k : Int) < (n : Int) := by omega
      obtain ⟨x, hx⟩ : ∃ x, l[k]? = some x := ⟨_, List.getElem?_eq_getElem (by rw [HN.out]; exact hlt1)⟩
      obtain ⟨g1, o1, rfl, hg1, c0, c1, c2⟩ := (H1.out wr hb).node hx
      obtain ⟨⟨x1, x2⟩, x3⟩ := x
      simp only at c0 c1 c2
      have hq := pid_eq x1 x2 q1 q2
      obtain ⟨bq, hbq⟩ : ∃ bq, decide (((x1, x2) : Pid) = (q1, q2)) = bq := ⟨_, rfl⟩
      have HQ : Hid (((x1, x2) : Pid) = (q1, q2) ↔ bq = true) := Lib.hid (by rw [← hbq, decide_eq_true_iff])
      rw [hbq, HQ1.out, HQ2.out] at hq
      have HX := Lib.hid hx
      obtain ⟨X0, hX0⟩ : ∃ S, str x1 = S := ⟨_, rfl⟩
      obtain ⟨X1, hX1⟩ : ∃ S, str x2 = S := ⟨_, rfl⟩
      rw [hX0] at c0 hq
      rw [hX1] at c1 hq
      obtain ⟨d0, d1⟩ := HBx.out (wr.alloc (.cells #[.string X0, .string X1, .int .i64 x3] 34)) (hb.alloc hb.size _)
      have hbA := hb.alloc hb.size (.cells #[.string X0, .string X1, .int .i64 x3] 34)
      clear hx hbq hX0 hX1
      cases bq
      · have HE2 : Hid (∀ j < k + 1, ∀ y, l[j]? = some y → y.1 ≠ (q1, q2)) := Lib.hid (fun j hj y hy => by
          rcases Nat.lt_succ_iff_lt_or_eq.1 hj with h | rfl
          · exact HE.out j h y hy
          · rw [HX.out] at hy
            obtain rfl := Option.some.inj hy
            exact fun e => by have := HQ.out.1 e; cases this)
        go_wp2_with fail
        -- MARK2
        exact ⟨⟨k + 1, by go_num, by omega, HE2, hbA⟩, by simp [intOf]; omega⟩
      · have HD := Lib.hid (HR.out.symm.trans (fnd_some HX.out (HQ.out.2 rfl) HE.out))
        go_wp2_with fail
        go_ret2
        exact ⟨congrArg Ending.returned HD.out.symm, below_step hb0 hbA⟩
    · obtain rfl : k = n := by omega
      have hd1 : decide ((k : Int) < (k : Int)) = false := decide_eq_false (by omega)
      have HD := Lib.hid (HR.out.symm.trans (fnd_none (by rw [HN.out]; exact HE.out)))
      go_wp2_with fail
      go_ret2
      exact ⟨congrArg Ending.returned HD.out.symm, below_step hb0 hb⟩
set_option maxRecDepth 50000 in
set_option maxHeartbeats 3200000 in
theorem rFind_any (v : Value) (l : List Pw) (q1 q2 : List UInt8) (w : World) (h : WsAt w v l) (hl : l.length ≤ 100000) :
    Calls Tryd.prog 15 #[v, .agg #[.string (str q1), .string (str q2)]] w fun e w' => e = .returned (fndV l (q1, q2)) ∧ Below w.heap.size w w' := by
  have hb0 := below_b1 w (.cells #[.string (str q1), .string (str q2)] 32)
  have hbx := World.alloc_heap_new w (.cells #[.string (str q1), .string (str q2)] 32)
  obtain ⟨W1, hW1⟩ : ∃ W1, w.alloc (.cells #[.string (str q1), .string (str q2)] 32) = W1 := ⟨_, rfl⟩
  have hsz : W1.heap.size = w.heap.size + 1 := by rw [← hW1, World.size_alloc]
  have HBx : Hid (∀ W, Below W1.heap.size W1 W → W.cell? ⟨w.heap.size, 0, none⟩ = some (.string (str q1)) ∧ W.cell? ⟨w.heap.size, 1, none⟩ = some (.string (str q2))) := Lib.hid fun W hW => by
    have h := (hW.block w.heap.size (by rw [hsz]; omega)).trans (hW1 ▸ hbx)
    exact ⟨by simp [World.cell?, h], by simp [World.cell?, h]⟩
  rw [hW1] at hb0
  have H1 := Lib.hid (fun W (hW : Below W1.heap.size W1 W) => h.below (below_step hb0 hW) (Nat.le_refl _))
  obtain ⟨va, vc, rfl, _⟩ := h.slice
  obtain ⟨n, hn⟩ : ∃ n, l.length = n := ⟨_, rfl⟩
  have HN := Lib.hid hn
  rw [hn] at hl H1 ⊢
  obtain ⟨Q1, hQ1⟩ : ∃ S, str q1 = S := ⟨_, rfl⟩
  obtain ⟨Q2, hQ2⟩ : ∃ S, str q2 = S := ⟨_, rfl⟩
  have HQ1 := Lib.hid hQ1
  have HQ2 := Lib.hid hQ2
  obtain ⟨R, hR⟩ : ∃ R, fndV l (q1, q2) = R := ⟨_, rfl⟩
  have HR := Lib.hid hR
  rw [hR]
  rw [hQ1, hQ2] at HBx hW1 ⊢
  clear h hn hbx hQ1 hQ2 hR
  go_enter Tryd.func15, Tryd.ntmps15
  go_wp2_with fail
  clear hW1
  -- MARK1
  go_loopw [6] (fun x6 wr => ∃ k : Nat, x6 = .int .i64 (k : Int) ∧ k ≤ n ∧ Hid (∀ j < k, ∀ y, l[j]? = some y → y.1 ≠ (q1, q2)) ∧ Below W1.heap.size W1 wr) (fun x6 _ => n - (intOf x6).toNat)
  case atStart => exact ⟨0, rfl, Nat.zero_le _, Lib.hid (fun j hj => absurd hj (Nat.not_lt_zero _)), Below.refl _ _⟩
  case round =>
    obtain ⟨k, rfl, hk, HE, hb⟩ := hrel
    have hk0 : (0 : Int) ≤ (k : Int) := Int.natCast_nonneg _
    obtain ⟨b0, b1⟩ := HBx.out wr hb
    by_cases hlt1 : k < n
    · have hd1 : decide ((k : Int) < (n : Int)) = true := decide_eq_true (by omega)
      have hk1 : (k : Int) < (n : Int) := by omega
      obtain ⟨x, hx⟩ : ∃ x, l[k]? = some x := ⟨_, List.getElem?_eq_getElem (by rw [HN.out]; exact hlt1)⟩
      obtain ⟨g1, o1, rfl, hg1, c0, c1, c2⟩ := (H1.out wr hb).node hx
      obtain ⟨⟨x1, x2⟩, x3⟩ := x
      simp only at c0 c1 c2
      have hq := pid_eq x1 x2 q1 q2
      obtain ⟨bq, hbq⟩ : ∃ bq, decide (((x1, x2) : Pid) = (q1, q2)) = bq := ⟨_, rfl⟩
      have HQ : Hid (((x1, x2) : Pid) = (q1, q2) ↔ bq = true) := Lib.hid (by rw [← hbq, decide_eq_true_iff])
      rw [hbq, HQ1.out, HQ2.out] at hq
      have HX := Lib.hid hx
      obtain ⟨X0, hX0⟩ : ∃ S, str x1 = S := ⟨_, rfl⟩
      obtain ⟨X1, hX1⟩ : ∃ S, str x2 = S := ⟨_, rfl⟩
      rw [hX0] at c0 hq
      rw [hX1] at c1 hq
      clear hx hbq hX0 hX1
      cases bq
      · have HE2 : Hid (∀ j < k + 1, ∀ y, l[j]? = some y → y.1 ≠ (q1, q2)) := Lib.hid (fun j hj y hy => by
          rcases Nat.lt_succ_iff_lt_or_eq.1 hj with h | rfl
          · exact HE.out j h y hy
          · rw [HX.out] at hy
            obtain rfl := Option.some.inj hy
            exact fun e => by have := HQ.out.1 e; cases this)
        go_wp2_with fail
        go_quiet (fail)
        go_wp2_with fail
        exact ⟨⟨k + 1, by go_num, by omega, HE2, ⟨hb.os, hb.tape, hb.output, hb.size, hb.block⟩⟩, by simp [intOf]; omega⟩
      · have HD := Lib.hid (HR.out.symm.trans (fnd_some HX.out (HQ.out.2 rfl) HE.out))
        go_wp2_with fail
        go_quiet (fail)
        go_wp2_with fail
        go_ret2
        exact ⟨congrArg Ending.returned HD.out.symm, below_step hb0 ⟨hb.os, hb.tape, hb.output, hb.size, hb.block⟩⟩
    · obtain rfl : k = n := by omega
      have hd1 : decide ((k : Int) < (k : Int)) = false := decide_eq_false (by omega)
      have HD := Lib.hid (HR.out.symm.trans (fnd_none (by rw [HN.out]; exact HE.out)))
      go_wp2_with fail
      go_ret2
      exact ⟨congrArg Ending.returned HD.out.symm, below_step hb0 hb⟩
-- MARK9
end Go.Proofs.YtbojfakdppjmcaaDoor
