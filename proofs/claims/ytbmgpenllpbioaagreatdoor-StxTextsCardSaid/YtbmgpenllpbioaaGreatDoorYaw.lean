/- The law's awake. (Written by tools/gen_yz.py.) -/
import Derived.Test.YtbmgpenllpbioaaGreatDoorYz
import Derived.Deep.RegionHeld3
import Derived.BigQuiet
import Derived.ChangeAlike
namespace Go.Proofs.YtbmgpenllpbioaaGreatDoor
open Go.RowKit Go.PlainAid

theorem ex_two {g : Nat} {w' : World} (h : XsAt w' (.slice (some ⟨g, 0, none⟩) 4 4) exL) : w'.cell? ⟨g, 8, none⟩ = some (.int .i64 3) ∧ w'.cell? ⟨g, 9, none⟩ = some (.int .i64 0) ∧ w'.cell? ⟨g, 10, none⟩ = some (.int .i64 0) ∧ w'.cell? ⟨g, 11, none⟩ = some (.string ⟨#[102]⟩) ∧ w'.cell? ⟨g, 12, none⟩ = some (.string ⟨#[0, 1]⟩) ∧ w'.cell? ⟨g, 13, none⟩ = some (.int .i64 0) ∧ w'.cell? ⟨g, 14, none⟩ = some (.int .i64 0) ∧ w'.cell? ⟨g, 15, none⟩ = some (.int .i64 0) ∧ w'.cell? ⟨g, 16, none⟩ = some (.int .i64 3) ∧ w'.cell? ⟨g, 17, none⟩ = some (.int .i64 0) ∧ w'.cell? ⟨g, 18, none⟩ = some (.int .i64 0) ∧ w'.cell? ⟨g, 19, none⟩ = some (.string ⟨#[120]⟩) ∧ w'.cell? ⟨g, 20, none⟩ = some (.string ⟨#[0, 1, 0, 2]⟩) ∧ w'.cell? ⟨g, 21, none⟩ = some (.int .i64 0) ∧ w'.cell? ⟨g, 22, none⟩ = some (.int .i64 0) ∧ w'.cell? ⟨g, 23, none⟩ = some (.int .i64 0) := by
  obtain ⟨g1, o1, q1, _, p0, p1, p2, p3, p4, p5, p6, p7⟩ := h.node (k := 1) (x := ⟨3, 0, 0, [102], [0, 1], 0, 0, 0⟩) rfl
  obtain ⟨g2, o2, q2, _, r0, r1, r2, r3, r4, r5, r6, r7⟩ := h.node (k := 2) (x := ⟨3, 0, 0, [120], [0, 1, 0, 2], 0, 0, 0⟩) rfl
  cases q1
  cases q2
  exact ⟨p0, p1, p2, p3, p4, p5, p6, p7, r0, r1, r2, r3, r4, r5, r6, r7⟩
set_option maxRecDepth 100000 in
set_option maxHeartbeats 6400000 in
theorem awakeX_any (w : World) (T : XTabs w) : Calls Tryz.prog 11 #[] w fun e w' => e = .returned (.bool true) ∧ Below w.heap.size w w' := by
  have CE := Lib.hid (Example_any w)
  have CK : Hid (∀ v W, Below w.heap.size w W → XsAt W v exL → Calls Tryz.prog 16 #[v, .int .i64 0] W fun e w' => ∃ a c, e = .returned (.tuple #[.slice a 3 c, .int .i64 0]) ∧ NatAt w' (.slice a 3 c) [1, 2, 3] ∧ Below W.heap.size W w') := Lib.hid fun v W hW hx => by
    refine (Kids_any v exL 0 W hx ex_ok.1 ex_ok.2.1 (T.below hW).st).mono ?_
    rw [ex_kid]
    rintro e w' ⟨a, c, rfl, ho, hb⟩
    exact ⟨a, c, rfl, nat_row ho.out rfl, hb⟩
  have CS : Hid (∀ v W, Below w.heap.size w W → XsAt W v exL → Calls Tryz.prog 14 #[v, .int .i64 0] W fun e w' => e = .returned (.tuple #[.int .i64 4, .int .i64 0]) ∧ Below W.heap.size W w') := Lib.hid fun v W hW hx => by
    have := Size_any v exL 0 W hx ex_ok.1 ex_ok.2.1 (T.below hW).st
    rw [ex_size] at this; exact this
  have CA : Hid (∀ v W, Below w.heap.size w W → XsAt W v exL → Calls Tryz.prog 34 #[v, .int .i64 2] W fun e w' => ∃ a c, e = .returned (.tuple #[.slice a 4 c, .int .i64 0]) ∧ XsAt w' (.slice a 4 c) exA ∧ Below W.heap.size W w') := Lib.hid fun v W hW hx =>
    (Add_any 2 v exL W hx ex_ok.1 ex_ok.2.1 (T.below hW).st (by decide)).mono fun e w' h => chgV_at ex_add rfl h
  have CF : Hid (∀ v W, Below w.heap.size w W → XsAt W v exL → Calls Tryz.prog 36 #[v, .int .i64 2] W fun e w' => ∃ a c, e = .returned (.tuple #[.slice a 4 c, .int .i64 0]) ∧ XsAt w' (.slice a 4 c) exF ∧ Below W.heap.size W w') := Lib.hid fun v W hW hx =>
    (Flip_any 2 v exL W hx ex_ok.1 ex_ok.2.1 (T.below hW).st (by decide)).mono fun e w' h => chgV_at ex_flip rfl h
  have CP : Hid (∀ v u W, Below w.heap.size w W → XsAt W v exL → XsAt W u ex7 → Calls Tryz.prog 21 #[v, .int .i64 2, u] W fun e w' => ∃ a c, e = .returned (.tuple #[.slice a 4 c, .int .i64 0]) ∧ XsAt w' (.slice a 4 c) exP ∧ Below W.heap.size W w') := Lib.hid fun v u W hW hx hu =>
    (Put_any v u exL ex7 2 W hx hu ex_ok.1 ex_ok.2.1 ex7_ok.1 ex7_ok.2.1 (T.below hW).st (by decide)).mono fun e w' h => chgV_at ex_put rfl h
  have CPA : Hid (∀ v W, Below w.heap.size w W → XsAt W v exA → Calls Tryz.prog 38 #[v] W fun e w' => e = .returned (.tuple #[.string ⟨#[40, 102, 123, 49, 45, 50, 125, 32, 120, 123, 49, 45, 50, 125, 32, 49, 41]⟩, .int .i64 0]) ∧ Below W.heap.size W w') := Lib.hid fun v W hW hx => by
    have := Print_x v exA W hx exA_ok.1 exA_ok.2.1 exA_ok.2.2 (T.below hW)
    rw [exA_print] at this; exact this
  have CPF : Hid (∀ v W, Below w.heap.size w W → XsAt W v exF → Calls Tryz.prog 38 #[v] W fun e w' => e = .returned (.tuple #[.string ⟨#[40, 102, 123, 49, 45, 50, 125, 32, 120, 123, 49, 125, 32, 49, 41]⟩, .int .i64 0]) ∧ Below W.heap.size W w') := Lib.hid fun v W hW hx => by
    have := Print_x v exF W hx exF_ok.1 exF_ok.2.1 exF_ok.2.2 (T.below hW)
    rw [exF_print] at this; exact this
  have CPP : Hid (∀ v W, Below w.heap.size w W → XsAt W v exP → Calls Tryz.prog 38 #[v] W fun e w' => e = .returned (.tuple #[.string ⟨#[40, 102, 123, 49, 125, 32, 55, 32, 49, 41]⟩, .int .i64 0]) ∧ Below W.heap.size W w') := Lib.hid fun v W hW hx => by
    have := Print_x v exP W hx exP_ok.1 exP_ok.2.1 exP_ok.2.2 (T.below hW)
    rw [exP_print] at this; exact this
  have CC : Hid (∀ v W, Below w.heap.size w W → XsAt W v (exL.take 3) → Calls Tryz.prog 12 #[v] W fun e w' => e = .returned (.tuple #[.int .i64 3, .int .i64 6]) ∧ Below W.heap.size W w') := Lib.hid fun v W hW hx => by
    have := Check_x v (exL.take 3) W hx ex3_ok.1 ex3_ok.2.1 (T.below hW).st
    unfold chkXV at this
    rw [ex3_chk] at this; exact this
  have CI := Lib.hid (fun v u W hv hu => ints_same v u [1, 2, 3] W hv hu (by decide))
  have CSa := Lib.hid (fun W => Same_x (exL.getD 1 ⟨0, 0, 0, [], [], 0, 0, 0⟩) (exL.getD 2 ⟨0, 0, 0, [], [], 0, 0, 0⟩) W)
  rw [ex_same] at CSa
  have CSb : Hid (∀ W, Calls Tryz.prog 42 #[.agg #[.int .i64 3, .int .i64 0, .int .i64 0, .string ⟨#[102]⟩, .string ⟨#[0, 1]⟩, .int .i64 0, .int .i64 0, .int .i64 0], .agg #[.int .i64 3, .int .i64 0, .int .i64 0, .string ⟨#[120]⟩, .string ⟨#[0, 1, 0, 2]⟩, .int .i64 0, .int .i64 0, .int .i64 0]] W fun e w' => e = .returned (.bool false) ∧ Below W.heap.size W w') := Lib.hid fun W => CSa.out W
  have H7 := Lib.hid (fun W : World => xs_lit (w := W) ex7C_eq 1 rfl)
  unfold ex7C at H7
  have HI3 : Hid (∀ W : World, NatAt (W.alloc (.cells #[.int .i64 1, .int .i64 2, .int .i64 3] 3)) (.slice (some ⟨W.heap.size, 0, none⟩) 3 3) [1, 2, 3]) := Lib.hid fun W => by
    refine ⟨_, 3, 3, rfl, rfl, Nat.le_refl _, .inr ⟨W.heap.size, 0, rfl, by simp, fun j x hj => ?_⟩⟩
    have h := World.alloc_heap_new W (.cells #[.int .i64 1, .int .i64 2, .int .i64 3] 3)
    rw [Nat.zero_add]
    simp only [World.cell?, h, Option.isSome_none]
    match j, hj with
    | 0, hj => cases hj; rfl
    | 1, hj => cases hj; rfl
    | 2, hj => cases hj; rfl
    | j + 3, hj => simp at hj
  clear T CSa
  go_enter Tryz.func11, Tryz.ntmps11
  go_wp2_with fail
  refine CE.out.mono ?_
  rintro e w1 ⟨g, rfl, hx1, hb1⟩
  have HX1 := Lib.hid (fun W (hW : Below w1.heap.size w1 W) => hx1.below hW (Nat.le_refl _))
  clear hx1
  go_wp2_with fail
  refine (CK.out _ _ hb1 (HX1.out _ (Below.refl _ _))).mono ?_
  rintro e w2 ⟨a2, c2, rfl, hk2, hb2⟩
  have hB2 := below_step hb1 hb2
  have HK2 := Lib.hid (fun W (hW : Below w2.heap.size w2 W) => hk2.below hW (Nat.le_refl _))
  clear hk2
  go_wp2_with fail
  refine (CS.out _ _ hB2 (HX1.out _ hb2)).mono ?_
  rintro e w3 ⟨rfl, hb3⟩
  have hB3 := below_step hB2 hb3
  have h13 := below_step hb2 hb3
  have h23 := hb3
  go_wp2_with fail
  refine (CA.out _ _ hB3 (HX1.out _ h13)).mono ?_
  rintro e w4 ⟨a4, c4, rfl, hx4, hb4⟩
  have hB4 := below_step hB3 hb4
  have h14 := below_step h13 hb4
  have h24 := below_step h23 hb4
  go_wp2_with fail
  refine (CPA.out _ _ hB4 hx4).mono ?_
  rintro e w5 ⟨rfl, hb5⟩
  have hB5 := below_step hB4 hb5
  have h15 := below_step h14 hb5
  have h25 := below_step h24 hb5
  clear hx4
  go_wp2_with fail
  refine (CF.out _ _ hB5 (HX1.out _ h15)).mono ?_
  rintro e w6 ⟨a6, c6, rfl, hx6, hb6⟩
  have hB6 := below_step hB5 hb6
  have h16 := below_step h15 hb6
  have h26 := below_step h25 hb6
  go_wp2_with fail
  refine (CPF.out _ _ hB6 hx6).mono ?_
  rintro e w7 ⟨rfl, hb7⟩
  have hB7 := below_step hB6 hb7
  have h17 := below_step h16 hb7
  have h27 := below_step h26 hb7
  clear hx6
  have hx7 := H7.out w7
  obtain ⟨W8, hW8⟩ : ∃ W8, W8 = w7.alloc (.cells #[.int .i64 1, .int .i64 0, .int .i64 7, .string ⟨#[]⟩, .string ⟨#[]⟩, .int .i64 0, .int .i64 0, .int .i64 0] 28) := ⟨_, rfl⟩
  rw [← hW8] at hx7
  have hb8 : Below w7.heap.size w7 W8 := by rw [hW8]; exact below_b1 _ _
  have hB8 := below_step hB7 hb8
  have h18 := below_step h17 hb8
  have h28 := below_step h27 hb8
  have HX7 := Lib.hid hx7
  clear hx7
  go_wp2_with fail
  -- MARK1
  rw [← hW8]
  refine (CP.out _ _ _ hB8 (HX1.out _ h18) HX7.out).mono ?_
  rintro e w9 ⟨a9, c9, rfl, hx9, hb9⟩
  have hB9 := below_step hB8 hb9
  have h19 := below_step h18 hb9
  have h29 := below_step h28 hb9
  clear hW8
  go_wp2_with fail
  refine (CPP.out _ _ hB9 hx9).mono ?_
  rintro e w10 ⟨rfl, hb10⟩
  have hB10 := below_step hB9 hb10
  have h110 := below_step h19 hb10
  have h210 := below_step h29 hb10
  clear hx9
  go_wp2_with fail
  -- MARK2
  refine (CC.out _ _ hB10 (xs_take (HX1.out _ h110) (by omega))).mono ?_
  rintro e w11 ⟨rfl, hb11⟩
  have hB11 := below_step hB10 hb11
  have h111 := below_step h110 hb11
  have h211 := below_step h210 hb11
  go_wp2_with fail
  -- MARK3
  have hbk := (h211.alloc h211.size (.cells #[.int .i64 1, .int .i64 2, .int .i64 3] 3)).drew
  have hbl := (h111.alloc h111.size (.cells #[.int .i64 1, .int .i64 2, .int .i64 3] 3)).drew
  have hbm := (hB11.alloc hB11.size (.cells #[.int .i64 1, .int .i64 2, .int .i64 3] 3)).drew
  have CI2 := Lib.hid (CI.out _ _ _ (HK2.out _ hbk) ((HI3.out w11).below (Below.refl _ _).drew (Nat.le_refl _)))
  have HL := Lib.hid hbl
  have HM := Lib.hid hbm
  clear hbk hbl hbm
  simp only [List.append_eq, List.cons_append, List.nil_append]
  have hS0 := h111.drew
  have hS2 := h111.drew.alloc h111.size (.cells #[.int .i64 1, .int .i64 2, .int .i64 3] 3)
  have hS1 := HL.out
  go_region_held3 (fun w' => w'.cell? ⟨g, 8, none⟩ = some (.int .i64 3) ∧ w'.cell? ⟨g, 9, none⟩ = some (.int .i64 0) ∧ w'.cell? ⟨g, 10, none⟩ = some (.int .i64 0) ∧ w'.cell? ⟨g, 11, none⟩ = some (.string ⟨#[102]⟩) ∧ w'.cell? ⟨g, 12, none⟩ = some (.string ⟨#[0, 1]⟩) ∧ w'.cell? ⟨g, 13, none⟩ = some (.int .i64 0) ∧ w'.cell? ⟨g, 14, none⟩ = some (.int .i64 0) ∧ w'.cell? ⟨g, 15, none⟩ = some (.int .i64 0) ∧ w'.cell? ⟨g, 16, none⟩ = some (.int .i64 3) ∧ w'.cell? ⟨g, 17, none⟩ = some (.int .i64 0) ∧ w'.cell? ⟨g, 18, none⟩ = some (.int .i64 0) ∧ w'.cell? ⟨g, 19, none⟩ = some (.string ⟨#[120]⟩) ∧ w'.cell? ⟨g, 20, none⟩ = some (.string ⟨#[0, 1, 0, 2]⟩) ∧ w'.cell? ⟨g, 21, none⟩ = some (.int .i64 0) ∧ w'.cell? ⟨g, 22, none⟩ = some (.int .i64 0) ∧ w'.cell? ⟨g, 23, none⟩ = some (.int .i64 0)) (exact ex_two (HX1.out _ (by assumption))) (first
    | (go_at_call 18; refine CI2.out.mono ?_; rintro e w13 ⟨rfl, hb13⟩; have hS3 := below_step HL.out hb13; have HMM := Lib.hid (below_step HM.out hb13))
    | (go_at_call 42; refine (CSb.out _).mono ?_; rintro e w14 ⟨rfl, hb14⟩; have hS4 := below_step hS3 hb14))
  -- MARK4
  all_goals go_wp2_with fail
  all_goals go_ret
  all_goals exact ⟨rfl, below_step HMM.out hb14⟩
-- MARK9
end Go.Proofs.YtbmgpenllpbioaaGreatDoor
