/- The law's own functions: set, sub, Example, awake. -/
import Derived.Test.YtbkkmcfpjpbhaaaVy
namespace Go.Proofs.Ytbkkmcfpjpbhaaa
open Go.RowKit Go.PlainAid

set_option maxRecDepth 50000 in
theorem lawSub_any (A B : List UInt8) (w : World) (hA : A.length ≤ 100000) (hB : B.length ≤ 100000) :
    Calls Try.prog 26 #[.string (str A), .string (str B)] w fun e w' => e = .returned (.bool (subB A B)) ∧ Below w.heap.size w w' := by
  have C := Lib.hid (rSub_any A B w hA hB)
  unfold subB
  obtain ⟨⟨b, er⟩, hr⟩ : ∃ r, subS A B = r := ⟨_, rfl⟩
  rw [hr] at C ⊢
  obtain ⟨S, hS⟩ : ∃ S, str A = S := ⟨_, rfl⟩
  obtain ⟨T, hT⟩ : ∃ T, str B = T := ⟨_, rfl⟩
  rw [hS, hT] at C ⊢
  clear hr hS hT
  go_enter Try.func26, Try.ntmps26
  go_wp2_with fail
  refine C.out.mono ?_
  rintro e w1 ⟨rfl, hb1⟩
  go_wp2_with fail
  go_ret
  exact ⟨rfl, hb1⟩
theorem of_asc {l : List Nat} (hl : asc l) (h : ∀ n ∈ l, n < 65536) (h2 : l.length ≤ 10000) : ofS (l.map fun n : Nat => (n : Int)) = (setL l, 0) := by
  obtain ⟨e1, e2⟩ := of_ids hl h
  unfold ofS; rw [e1, e2, if_neg (by simp), if_neg (by omega)]
theorem num_new (w : World) (l : List Nat) (n : Nat) (hn : l.length = n) (A : Array Value) (hA : A.toList = intC (l.map fun n : Nat => (n : Int))) (N : Nat) (hN : w.heap.size = N) (h9 : n ≤ 1000) : NumAt (w.alloc (.cells A 3)) (.slice (some ⟨N, 0, none⟩) n n) (l.map fun n : Nat => (n : Int)) := by
  subst hN
  have hs : A.size = n * 1 := by
    have := congrArg List.length hA
    unfold intC at this
    simpa [hn] using this
  have := World.ownsRow_lit (base := w.heap.size) (e := 3) (size := 1) w A n (Nat.le_refl _) (by unfold maxLen; omega) hs
  rw [hA] at this
  exact num_own this (by simpa using hn)
set_option maxRecDepth 50000 in
theorem set_any (v : Value) (l : List Nat) (w : World) (h : NumAt w v (l.map fun n : Nat => (n : Int))) (hl : asc l) (h6 : ∀ n ∈ l, n < 65536) (h2 : l.length ≤ 1000) (S : ByteArray) (hS : str (setL l) = S) :
    Calls Try.prog 30 #[v] w fun e w' => e = .returned (.string S) ∧ Below w.heap.size w w' := by
  have C := Lib.hid (rOf_any v _ w h (by rw [List.length_map]; omega))
  rw [of_asc hl h6 (by omega)] at C
  simp only at C
  rw [hS] at C
  obtain ⟨a, n, c, rfl, -, -⟩ := h
  clear hl h6 h2 hS
  go_enter Try.func30, Try.ntmps30
  go_wp2_with fail
  refine C.out.mono ?_
  rintro e w1 ⟨rfl, hb1⟩
  go_wp2_with fail
  go_ret
  exact ⟨rfl, hb1⟩
/-- The table of the examples. -/
def exT : List Bd := [⟨[120], [0, 1], 1, 0⟩, ⟨[120], [0, 1, 0, 2], 1, 1⟩, ⟨[120], [0, 1, 0, 3], 1, 2⟩, ⟨[121], [], 3, 5⟩]
theorem exT_chk : (chkB exT).2 = 0 := by decide +kernel
theorem exT_1 : resE exT [120] [0, 1, 0, 2, 0, 9] = (1, 0) := by decide +kernel
theorem exT_2 : resE exT [120] [0, 1, 0, 2, 0, 3] = (0, 11) := by decide +kernel
theorem exT_3 : resE exT [120] [0, 2] = (0, 10) := by decide +kernel
theorem exT_4 : candE exT [120] [0, 1, 0, 2, 0, 3] = ([0, 1, 2], 0) := by decide +kernel
theorem exT_5 : sameE exT ⟨[120], [0, 1], 0, 0⟩ ⟨[120], [0, 1, 0, 4], 0, 0⟩ = (true, 0) := by decide +kernel
theorem exT_6 : addE exT ⟨[120], [0, 1, 0, 2], 1, 0⟩ = ([], 8) := by decide +kernel
theorem exT_sm : SmB exT := by
  intro x hx
  unfold exT at hx
  simp only [List.mem_cons, List.not_mem_nil, or_false] at hx
  rcases hx with rfl | rfl | rfl | rfl <;> exact ⟨by decide, by decide⟩
set_option maxRecDepth 50000 in
set_option maxHeartbeats 1600000 in
theorem example_any (w : World) : Calls Try.prog 29 #[] w fun e w' => ∃ a c, e = .returned (.slice a 4 c) ∧ BsAt w' (.slice a 4 c) exT ∧ Below w.heap.size w w' := by
  have C1 := Lib.hid (fun W N (hN : W.heap.size = N) => set_any _ [1] _ (num_new W [1] 1 rfl #[.int .i64 1] rfl N hN (by omega)) (by decide) (by decide) (by decide) ⟨#[0, 1]⟩ rfl)
  have C2 := Lib.hid (fun W N (hN : W.heap.size = N) => set_any _ [1, 2] _ (num_new W [1, 2] 2 rfl #[.int .i64 1, .int .i64 2] rfl N hN (by omega)) (by decide) (by decide) (by decide) ⟨#[0, 1, 0, 2]⟩ rfl)
  have C3 := Lib.hid (fun W N (hN : W.heap.size = N) => set_any _ [1, 3] _ (num_new W [1, 3] 2 rfl #[.int .i64 1, .int .i64 3] rfl N hN (by omega)) (by decide) (by decide) (by decide) ⟨#[0, 1, 0, 3]⟩ rfl)
  go_enter Try.func29, Try.ntmps29
  go_wp2_with fail
  refine (C1.out _ _ rfl).mono ?_
  rintro e w1 ⟨rfl, hb1⟩
  have hbw1 : Below w.heap.size w w1 := (below_b1 w _).trans (hb1.mono (below_b1 w _).size)
  go_wp2_with fail
  refine (C2.out _ _ rfl).mono ?_
  rintro e w2 ⟨rfl, hb2⟩
  have hbw2 : Below w.heap.size w w2 := below_step hbw1 ((below_b1 w1 _).trans (hb2.mono (below_b1 w1 _).size))
  go_wp2_with fail
  refine (C3.out _ _ rfl).mono ?_
  rintro e w3 ⟨rfl, hb3⟩
  have hbw3 : Below w.heap.size w w3 := below_step hbw2 ((below_b1 w2 _).trans (hb3.mono (below_b1 w2 _).size))
  go_wp2_with fail
  -- MARK1
  go_ret
  refine ⟨_, _, rfl, ?_, hbw3.alloc hbw3.size _⟩
  exact bs_own (B := w3.heap.size) (World.ownsRow_lit (base := w3.heap.size) (e := 24) (size := 4) w3 _ 4 (Nat.le_refl _) (by unfold maxLen; omega) rfl) rfl
theorem natLit (w : World) (l : List Nat) (n : Nat) (hn : l.length = n) (A : Array Value) (hA : A.toList = natC l) (N : Nat) (hN : w.heap.size = N) (h9 : n ≤ 1000) : NatAt (w.alloc (.cells A 3)) (.slice (some ⟨N, 0, none⟩) n n) l := by
  subst hN
  have hs : A.size = n * 1 := by
    have := congrArg List.length hA
    unfold natC at this
    simpa [hn] using this
  have := World.ownsRow_lit (base := w.heap.size) (e := 3) (size := 1) w A n (Nat.le_refl _) (by unfold maxLen; omega) hs
  rw [hA] at this
  exact nat_own this hn
set_option maxRecDepth 100000 in
set_option maxHeartbeats 6400000 in
theorem awakeB_any (w : World) : Calls Try.prog 11 #[] w fun e w' => e = .returned (.bool true) ∧ Below w.heap.size w w' := by
  have CE := Lib.hid (example_any w)
  have S129 := Lib.hid (fun W N (hN : W.heap.size = N) => set_any _ [1, 2, 9] _ (num_new W [1, 2, 9] 3 rfl #[.int .i64 1, .int .i64 2, .int .i64 9] rfl N hN (by omega)) (by decide) (by decide) (by decide) ⟨#[0, 1, 0, 2, 0, 9]⟩ rfl)
  have S123 := Lib.hid (fun W N (hN : W.heap.size = N) => set_any _ [1, 2, 3] _ (num_new W [1, 2, 3] 3 rfl #[.int .i64 1, .int .i64 2, .int .i64 3] rfl N hN (by omega)) (by decide) (by decide) (by decide) ⟨#[0, 1, 0, 2, 0, 3]⟩ rfl)
  have S2 := Lib.hid (fun W N (hN : W.heap.size = N) => set_any _ [2] _ (num_new W [2] 1 rfl #[.int .i64 2] rfl N hN (by omega)) (by decide) (by decide) (by decide) ⟨#[0, 2]⟩ rfl)
  have S1 := Lib.hid (fun W N (hN : W.heap.size = N) => set_any _ [1] _ (num_new W [1] 1 rfl #[.int .i64 1] rfl N hN (by omega)) (by decide) (by decide) (by decide) ⟨#[0, 1]⟩ rfl)
  have S14 := Lib.hid (fun W N (hN : W.heap.size = N) => set_any _ [1, 4] _ (num_new W [1, 4] 2 rfl #[.int .i64 1, .int .i64 4] rfl N hN (by omega)) (by decide) (by decide) (by decide) ⟨#[0, 1, 0, 4]⟩ rfl)
  have S12 := Lib.hid (fun W N (hN : W.heap.size = N) => set_any _ [1, 2] _ (num_new W [1, 2] 2 rfl #[.int .i64 1, .int .i64 2] rfl N hN (by omega)) (by decide) (by decide) (by decide) ⟨#[0, 1, 0, 2]⟩ rfl)
  have R1 : Hid (∀ W v, BsAt W v exT → Calls Try.prog 19 #[v, .string ⟨#[120]⟩, .string ⟨#[0, 1, 0, 2, 0, 9]⟩] W fun e w' => e = .returned (.tuple #[.int .i64 1, .int .i64 0]) ∧ Below W.heap.size W w') := Lib.hid fun W v h => by
    have := Resolve_any v exT [120] [0, 1, 0, 2, 0, 9] W h exT_sm (by decide)
    rw [exT_1] at this; exact this
  have R2 : Hid (∀ W v, BsAt W v exT → Calls Try.prog 19 #[v, .string ⟨#[120]⟩, .string ⟨#[0, 1, 0, 2, 0, 3]⟩] W fun e w' => e = .returned (.tuple #[.int .i64 0, .int .i64 11]) ∧ Below W.heap.size W w') := Lib.hid fun W v h => by
    have := Resolve_any v exT [120] [0, 1, 0, 2, 0, 3] W h exT_sm (by decide)
    rw [exT_2] at this; exact this
  have R3 : Hid (∀ W v, BsAt W v exT → Calls Try.prog 19 #[v, .string ⟨#[120]⟩, .string ⟨#[0, 2]⟩] W fun e w' => e = .returned (.tuple #[.int .i64 0, .int .i64 10]) ∧ Below W.heap.size W w') := Lib.hid fun W v h => by
    have := Resolve_any v exT [120] [0, 2] W h exT_sm (by decide)
    rw [exT_3] at this; exact this
  have K4 : Hid (∀ W v, BsAt W v exT → Calls Try.prog 17 #[v, .string ⟨#[120]⟩, .string ⟨#[0, 1, 0, 2, 0, 3]⟩] W fun e w' => ∃ v', e = .returned (.tuple #[v', .int .i64 0]) ∧ Hid (NatAt w' v' [0, 1, 2]) ∧ Below W.heap.size W w') := Lib.hid fun W v h => by
    have := Candidates_any v exT [120] [0, 1, 0, 2, 0, 3] W h exT_sm (by decide)
    rw [exT_4] at this
    refine Calls.mono this ?_
    rintro e w' ⟨v', he, ho, hb⟩
    exact ⟨v', he, Lib.hid (nat_own ho.out rfl), hb⟩
  have M5 : Hid (∀ W v, BsAt W v exT → Calls Try.prog 22 #[v, .agg #[.string ⟨#[120]⟩, .string ⟨#[0, 1]⟩, .int .i64 0, .int .i64 0], .agg #[.string ⟨#[120]⟩, .string ⟨#[0, 1, 0, 4]⟩, .int .i64 0, .int .i64 0]] W fun e w' => e = .returned (.tuple #[.bool true, .int .i64 0]) ∧ Below W.heap.size W w') := Lib.hid fun W v h => by
    have := Same_any v exT ⟨[120], [0, 1], 0, 0⟩ ⟨[120], [0, 1, 0, 4], 0, 0⟩ W h exT_sm (by decide) (by decide)
    rw [exT_5] at this; exact this
  have A6 : Hid (∀ W v, BsAt W v exT → Calls Try.prog 14 #[v, .agg #[.string ⟨#[120]⟩, .string ⟨#[0, 1, 0, 2]⟩, .int .i64 1, .int .i64 0]] W fun e w' => ∃ v', e = .returned (.tuple #[v', .int .i64 8]) ∧ Below W.heap.size W w') := Lib.hid fun W v h => by
    have := Add_any v exT ⟨[120], [0, 1, 0, 2], 1, 0⟩ W h exT_sm (by decide) (by decide)
    rw [exT_6] at this
    refine Calls.mono this ?_
    rintro e w' ⟨v', he, ho, hb⟩
    exact ⟨v', he, hb⟩
  have I7 : Hid (∀ W v v2, NatAt W v [0, 1, 2] → NatAt W v2 [0, 1, 2] → Calls Try.prog 21 #[v, v2] W fun e w' => e = .returned (.bool true) ∧ Below W.heap.size W w') := Lib.hid fun W v v2 h h2 => by
    have := rInts_any v v2 [0, 1, 2] [0, 1, 2] W h h2 (by decide)
    rw [decide_eq_true rfl] at this; exact this
  go_enter Try.func11, Try.ntmps11
  go_wp2_with fail
  refine CE.out.mono ?_
  rintro e w1 ⟨a, c, rfl, hT, hb1⟩
  have HT := Lib.hid (fun W (hW : Below w1.heap.size w1 W) => hT.below hW (Nat.le_refl _))
  have hx1 : Below w1.heap.size w1 w1 := Below.refl _ _
  clear hT
  go_wp2_with fail
  refine (S129.out _ _ rfl).mono ?_
  rintro e w2 ⟨rfl, hb2⟩
  have hx2 : Below w1.heap.size w1 w2 := (hx1.alloc hx1.size _).trans (hb2.mono (hx1.alloc hx1.size _).size)
  go_wp2_with fail
  refine (R1.out _ _ (HT.out _ hx2)).mono ?_
  rintro e w3 ⟨rfl, hb3⟩
  have hx3 : Below w1.heap.size w1 w3 := below_step hx2 hb3
  go_wp2_with fail
  refine (S123.out _ _ rfl).mono ?_
  rintro e w4 ⟨rfl, hb4⟩
  have hx4 : Below w1.heap.size w1 w4 := (hx3.alloc hx3.size _).trans (hb4.mono (hx3.alloc hx3.size _).size)
  go_wp2_with fail
  refine (R2.out _ _ (HT.out _ hx4)).mono ?_
  rintro e w5 ⟨rfl, hb5⟩
  have hx5 : Below w1.heap.size w1 w5 := below_step hx4 hb5
  go_wp2_with fail
  refine (S2.out _ _ rfl).mono ?_
  rintro e w6 ⟨rfl, hb6⟩
  have hx6 : Below w1.heap.size w1 w6 := (hx5.alloc hx5.size _).trans (hb6.mono (hx5.alloc hx5.size _).size)
  go_wp2_with fail
  refine (R3.out _ _ (HT.out _ hx6)).mono ?_
  rintro e w7 ⟨rfl, hb7⟩
  have hx7 : Below w1.heap.size w1 w7 := below_step hx6 hb7
  go_wp2_with fail
  refine (S123.out _ _ rfl).mono ?_
  rintro e w8 ⟨rfl, hb8⟩
  have hx8 : Below w1.heap.size w1 w8 := (hx7.alloc hx7.size _).trans (hb8.mono (hx7.alloc hx7.size _).size)
  go_wp2_with fail
  refine (K4.out _ _ (HT.out _ hx8)).mono ?_
  rintro e w9 ⟨v4, rfl, HN4, hb9⟩
  have hx9 : Below w1.heap.size w1 w9 := below_step hx8 hb9
  obtain ⟨a4, c4, rfl, _⟩ := HN4.out.slice
  have HN4b := Lib.hid (fun W (hW : Below w9.heap.size w9 W) => HN4.out.below hW (Nat.le_refl _))
  have hy9 : Below w9.heap.size w9 w9 := Below.refl _ _
  go_wp2_with fail
  refine (S1.out _ _ rfl).mono ?_
  rintro e w10 ⟨rfl, hb10⟩
  have hx10 : Below w1.heap.size w1 w10 := (hx9.alloc hx9.size _).trans (hb10.mono (hx9.alloc hx9.size _).size)
  have hy10 : Below w9.heap.size w9 w10 := (hy9.alloc hy9.size _).trans (hb10.mono (hy9.alloc hy9.size _).size)
  go_wp2_with fail
  refine (S14.out _ _ rfl).mono ?_
  rintro e w11 ⟨rfl, hb11⟩
  have hx11 : Below w1.heap.size w1 w11 := (hx10.alloc hx10.size _).trans (hb11.mono (hx10.alloc hx10.size _).size)
  have hy11 : Below w9.heap.size w9 w11 := (hy10.alloc hy10.size _).trans (hb11.mono (hy10.alloc hy10.size _).size)
  go_wp2_with fail
  refine (M5.out _ _ (HT.out _ hx11)).mono ?_
  rintro e w12 ⟨rfl, hb12⟩
  have hx12 : Below w1.heap.size w1 w12 := below_step hx11 hb12
  have hy12 : Below w9.heap.size w9 w12 := below_step hy11 hb12
  go_wp2_with fail
  refine (S12.out _ _ rfl).mono ?_
  rintro e w13 ⟨rfl, hb13⟩
  have hx13 : Below w1.heap.size w1 w13 := (hx12.alloc hx12.size _).trans (hb13.mono (hx12.alloc hx12.size _).size)
  have hy13 : Below w9.heap.size w9 w13 := (hy12.alloc hy12.size _).trans (hb13.mono (hy12.alloc hy12.size _).size)
  go_wp2_with fail
  refine (A6.out _ _ (HT.out _ hx13)).mono ?_
  rintro e w14 ⟨v6, rfl, hb14⟩
  have hx14 : Below w1.heap.size w1 w14 := below_step hx13 hb14
  have hy14 : Below w9.heap.size w9 w14 := below_step hy13 hb14
  go_wp2_with fail
  -- MARK2
  refine (I7.out _ _ _ ((HN4b.out _ hy14).below (below_b1 _ _) (Nat.le_refl _)) (natLit w14 [0, 1, 2] 3 rfl #[.int .i64 0, .int .i64 1, .int .i64 2] rfl _ rfl (by omega))).mono ?_
  rintro e wz ⟨rfl, hbz⟩
  have hxz : Below w1.heap.size w1 wz := (hx14.alloc hx14.size _).trans (hbz.mono (hx14.alloc hx14.size _).size)
  go_wp2_with fail
  go_ret
  exact ⟨rfl, hb1.trans (hxz.mono hb1.size)⟩
-- MARK9
end Go.Proofs.Ytbkkmcfpjpbhaaa
