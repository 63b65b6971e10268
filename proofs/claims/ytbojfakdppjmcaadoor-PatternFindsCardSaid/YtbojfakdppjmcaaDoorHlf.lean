/- The law PatternFinds. -/
import Derived.Test.YtbojfakdppjmcaaDoorHfd
import Derived.Test.YtbojfakdppjmcaaDoorHdp
namespace Go.Proofs.YtbojfakdppjmcaaDoor
open Go.RowKit Go.PlainAid

theorem fndV_two (l : List Pw) (q : Pid) : ∃ a b : Int, fndV l q = .tuple #[.int .i64 a, .int .i64 b] := by
  unfold fndV; split
  · exact ⟨_, _, rfl⟩
  · exact ⟨_, _, rfl⟩
set_option maxRecDepth 50000 in
set_option maxHeartbeats 3200000 in
theorem lawFi_any (v : Value) (l : List Pw) (q1 q2 : List UInt8) (w : World) (h : WsAt w v l) (T : STabs w) :
    Calls Tryd.prog 4 #[v, .agg #[.string (str q1), .string (str q2)]] w fun e w' => e = .returned (.bool true) ∧ Below w.heap.size w w' := by
  have hb0 := below_b1 w (.cells #[.string (str q1), .string (str q2)] 32)
  have hbx := World.alloc_heap_new w (.cells #[.string (str q1), .string (str q2)] 32)
  obtain ⟨W1, hW1⟩ : ∃ W1, w.alloc (.cells #[.string (str q1), .string (str q2)] 32) = W1 := ⟨_, rfl⟩
  have hsz : W1.heap.size = w.heap.size + 1 := by rw [← hW1, World.size_alloc]
  have HBx : Hid (∀ W, Below W1.heap.size W1 W → W.cell? ⟨w.heap.size, 0, none⟩ = some (.string (str q1)) ∧ W.cell? ⟨w.heap.size, 1, none⟩ = some (.string (str q2))) := Lib.hid fun W hW => by
    have h := (hW.block w.heap.size (by rw [hsz]; omega)).trans (hW1 ▸ hbx)
    exact ⟨by simp [World.cell?, h], by simp [World.cell?, h]⟩
  rw [hW1] at hb0
  have H1 := Lib.hid (fun W (hW : Below W1.heap.size W1 W) => h.below (below_step hb0 hW) (Nat.le_refl _))
  have HS := Lib.hid (fun W (hW : Below W1.heap.size W1 W) => shown_any W (T.below (below_step hb0 hW)))
  obtain ⟨fa, fb, hf⟩ := fndV_two l (q1, q2)
  have C1 := Lib.hid (fun W (hW : Below W1.heap.size W1 W) (hl : l.length ≤ 100000) => hf ▸ Find_any v l q1 q2 W (H1.out W hW) hl)
  have C2 := Lib.hid (fun W (hW : Below W1.heap.size W1 W) (hl : l.length ≤ 100000) => hf ▸ rFind_any v l q1 q2 W (H1.out W hW) hl)
  obtain ⟨va, vc, rfl, _⟩ := h.slice
  obtain ⟨n, hn⟩ : ∃ n, l.length = n := ⟨_, rfl⟩
  have HN := Lib.hid hn
  rw [hn] at H1 C1 C2 ⊢
  obtain ⟨Q1, hQ1⟩ : ∃ S, str q1 = S := ⟨_, rfl⟩
  obtain ⟨Q2, hQ2⟩ : ∃ S, str q2 = S := ⟨_, rfl⟩
  rw [hQ1, hQ2] at HBx hW1 C1 C2 ⊢
  obtain ⟨z1, hz1⟩ : ∃ z, decide ((50 : Int) < (Q1.size : Int)) = z := ⟨_, rfl⟩
  obtain ⟨z2, hz2⟩ : ∃ z, decide ((100 : Int) < (Q2.size : Int)) = z := ⟨_, rfl⟩
  obtain ⟨b0, b1⟩ := HBx.out _ (Below.refl _ _)
  clear h hn hbx hQ1 hQ2 hf T
  go_enter Tryd.func4, Tryd.ntmps4
  by_cases hm : 60 < n
  · have hd : decide ((60 : Int) < (n : Int)) = true := decide_eq_true (by omega)
    go_wp2_with fail
    refine (HS.out W1 (Below.refl _ _)).mono ?_
    rintro e w1 ⟨rfl, hb⟩
    clear hW1
    go_wp2_with fail
    go_ret
    exact ⟨rfl, below_step hb0 hb⟩
  have hd : decide ((60 : Int) < (n : Int)) = false := decide_eq_false (by omega)
  cases z1
  case true =>
    go_wp2_with fail
    refine (HS.out W1 (Below.refl _ _)).mono ?_
    rintro e w1 ⟨rfl, hb⟩
    clear hW1
    go_wp2_with fail
    go_ret
    exact ⟨rfl, below_step hb0 hb⟩
  cases z2
  case true =>
    go_wp2_with fail
    refine (HS.out W1 (Below.refl _ _)).mono ?_
    rintro e w1 ⟨rfl, hb⟩
    clear hW1
    go_wp2_with fail
    go_ret
    exact ⟨rfl, below_step hb0 hb⟩
  have C1 := Lib.hid (fun W hW => C1.out W hW (by omega))
  have C2 := Lib.hid (fun W hW => C2.out W hW (by omega))
  go_wp2_with fail
  -- MARK1
  clear hW1 hz1 hz2 hd b0 b1
  go_loopw [5] (fun x5 wr => ∃ k : Nat, x5 = .int .i64 (k : Int) ∧ k ≤ n ∧ Below W1.heap.size W1 wr) (fun x5 _ => n - (intOf x5).toNat)
  case atStart => exact ⟨0, rfl, Nat.zero_le _, Below.refl _ _⟩
  case round =>
    obtain ⟨k, rfl, hk, hb⟩ := hrel
    have hk0 : (0 : Int) ≤ (k : Int) := Int.natCast_nonneg _
    by_cases hlt1 : k < n
    · have hd1 : decide ((k : Int) < (n : Int)) = true := decide_eq_true (by omega)
      have hk1 : (k : Int) < (n : Int) := by omega
      obtain ⟨x, hx⟩ : ∃ x, l[k]? = some x := ⟨_, List.getElem?_eq_getElem (by rw [HN.out]; exact hlt1)⟩
      obtain ⟨g1, o1, rfl, hg1, c0, c1, c2⟩ := (H1.out wr hb).node hx
      obtain ⟨X0, hX0⟩ : ∃ S, str x.1.1 = S := ⟨_, rfl⟩
      obtain ⟨X1, hX1⟩ : ∃ S, str x.1.2 = S := ⟨_, rfl⟩
      rw [hX0] at c0
      rw [hX1] at c1
      obtain ⟨z1, hz1⟩ : ∃ z, decide ((50 : Int) < (X0.size : Int)) = z := ⟨_, rfl⟩
      obtain ⟨z2, hz2⟩ : ∃ z, decide ((100 : Int) < (X1.size : Int)) = z := ⟨_, rfl⟩
      clear hx hX0 hX1 c2
      cases z1
      · cases z2
        · go_wp2_with fail
          exact ⟨⟨k + 1, by go_num, by omega, hb⟩, by simp [intOf]; omega⟩
        · go_wp2_with fail
          refine (HS.out wr hb).mono ?_
          rintro e w1 ⟨rfl, hb1⟩
          go_wp2_with fail
          go_ret
          exact ⟨rfl, below_step (below_step hb0 hb) hb1⟩
      · go_wp2_with fail
        refine (HS.out wr hb).mono ?_
        rintro e w1 ⟨rfl, hb1⟩
        go_wp2_with fail
        go_ret
        exact ⟨rfl, below_step (below_step hb0 hb) hb1⟩
    · obtain rfl : k = n := by omega
      have hd1 : decide ((k : Int) < (k : Int)) = false := decide_eq_false (by omega)
      obtain ⟨b0, b1⟩ := HBx.out wr hb
      go_wp2_with fail
      -- MARK2
      refine (C1.out wr hb).mono ?_
      rintro e w1 ⟨rfl, hb1⟩
      have hw1 := below_step hb hb1
      obtain ⟨d0, d1⟩ := HBx.out w1 hw1
      go_wp2_with fail
      refine (C2.out w1 hw1).mono ?_
      rintro e w2 ⟨rfl, hb2⟩
      have hw2 := below_step hw1 hb2
      have e1 : ((fa : Int) == fa) = true := beq_self_eq_true _
      have e2 : ((fb : Int) == fb) = true := beq_self_eq_true _
      go_wp2_with fail
      refine (HS.out w2 hw2).mono ?_
      rintro e w3 ⟨rfl, hb3⟩
      go_wp2_with fail
      go_ret
      exact ⟨rfl, below_step (below_step hb0 hw2) hb3⟩
-- MARK9
end Go.Proofs.YtbojfakdppjmcaaDoor
