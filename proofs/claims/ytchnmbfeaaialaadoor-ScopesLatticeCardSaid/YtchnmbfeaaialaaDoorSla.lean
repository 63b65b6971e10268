/- The law ScopesLattice. -/
import Derived.Test.YtchnmbfeaaialaaDoorSw
namespace Go.Proofs.YtchnmbfeaaialaaDoor
open Go.RowKit Go.PlainAid

set_option maxRecDepth 100000 in
set_option maxHeartbeats 6400000 in
theorem lawLa_any (SA SB SC : ByteArray) (w : World) (T : STab w) :
    Calls Tryd.prog 7 #[.string SA, .string SB, .string SC] w fun e w' => e = .returned (.bool true) ∧ Below w.heap.size w w' := by
  have CAw := Lib.hid (fun W (hW : Below w.heap.size w W) => awake_any W (T.below hW))
  clear T
  obtain ⟨A, hA, lA⟩ := str_of SA
  obtain ⟨B, hB, lB⟩ := str_of SB
  obtain ⟨C, hC, lC⟩ := str_of SC
  by_cases h0 : 300 < SA.size
  · have d0 : decide ((300 : Int) < (SA.size : Int)) = true := decide_eq_true (by omega)
    go_enter Tryd.func7, Tryd.ntmps7
    go_wp2_with fail
    refine (CAw.out _ (Below.refl _ _)).mono ?_
    rintro e w9 ⟨rfl, hb9⟩
    go_wp2_with fail
    go_ret
    exact ⟨rfl, hb9⟩
  have d0 : decide ((300 : Int) < (SA.size : Int)) = false := decide_eq_false (by omega)
  by_cases h1 : 300 < SB.size
  · have d1 : decide ((300 : Int) < (SB.size : Int)) = true := decide_eq_true (by omega)
    go_enter Tryd.func7, Tryd.ntmps7
    go_wp2_with fail
    refine (CAw.out _ (Below.refl _ _)).mono ?_
    rintro e w9 ⟨rfl, hb9⟩
    go_wp2_with fail
    go_ret
    exact ⟨rfl, hb9⟩
  have d1 : decide ((300 : Int) < (SB.size : Int)) = false := decide_eq_false (by omega)
  by_cases h2 : 300 < SC.size
  · have d2 : decide ((300 : Int) < (SC.size : Int)) = true := decide_eq_true (by omega)
    go_enter Tryd.func7, Tryd.ntmps7
    go_wp2_with fail
    refine (CAw.out _ (Below.refl _ _)).mono ?_
    rintro e w9 ⟨rfl, hb9⟩
    go_wp2_with fail
    go_ret
    exact ⟨rfl, hb9⟩
  have d2 : decide ((300 : Int) < (SC.size : Int)) = false := decide_eq_false (by omega)
  have K0 := Lib.hid (fun W => check_any A W (by omega))
  rw [hA] at K0
  have K1 := Lib.hid (fun W => check_any B W (by omega))
  rw [hB] at K1
  have K2 := Lib.hid (fun W => check_any C W (by omega))
  rw [hC] at K2
  by_cases g0 : chkE A = 0
  case neg =>
    have n0 : (chkE A != 0) = true := bne_iff_ne.2 g0
    obtain ⟨q0, hq0⟩ : ∃ q, chkE A = q := ⟨_, rfl⟩
    rw [hq0] at n0 K0
    clear g0 hq0
    go_enter Tryd.func7, Tryd.ntmps7
    go_wp2_with fail
    refine (K0.out _).mono ?_
    rintro e w1 ⟨rfl, hb1⟩
    have hB1 := hb1
    go_wp2_with fail
    refine (CAw.out _ hB1).mono ?_
    rintro e w9 ⟨rfl, hb9⟩
    go_wp2_with fail
    go_ret
    exact ⟨rfl, below_step hB1 hb9⟩
  rw [g0] at K0
  by_cases g1 : chkE B = 0
  case neg =>
    have n1 : (chkE B != 0) = true := bne_iff_ne.2 g1
    obtain ⟨q1, hq1⟩ : ∃ q, chkE B = q := ⟨_, rfl⟩
    rw [hq1] at n1 K1
    clear g1 hq1
    go_enter Tryd.func7, Tryd.ntmps7
    go_wp2_with fail
    refine (K0.out _).mono ?_
    rintro e w1 ⟨rfl, hb1⟩
    have hB1 := hb1
    go_wp2_with fail
    refine (K1.out _).mono ?_
    rintro e w2 ⟨rfl, hb2⟩
    have hB2 := below_step hB1 hb2
    go_wp2_with fail
    refine (CAw.out _ hB2).mono ?_
    rintro e w9 ⟨rfl, hb9⟩
    go_wp2_with fail
    go_ret
    exact ⟨rfl, below_step hB2 hb9⟩
  rw [g1] at K1
  by_cases g2 : chkE C = 0
  case neg =>
    have n2 : (chkE C != 0) = true := bne_iff_ne.2 g2
    obtain ⟨q2, hq2⟩ : ∃ q, chkE C = q := ⟨_, rfl⟩
    rw [hq2] at n2 K2
    clear g2 hq2
    go_enter Tryd.func7, Tryd.ntmps7
    go_wp2_with fail
    refine (K0.out _).mono ?_
    rintro e w1 ⟨rfl, hb1⟩
    have hB1 := hb1
    go_wp2_with fail
    refine (K1.out _).mono ?_
    rintro e w2 ⟨rfl, hb2⟩
    have hB2 := below_step hB1 hb2
    go_wp2_with fail
    refine (K2.out _).mono ?_
    rintro e w3 ⟨rfl, hb3⟩
    have hB3 := below_step hB2 hb3
    go_wp2_with fail
    refine (CAw.out _ hB3).mono ?_
    rintro e w9 ⟨rfl, hb9⟩
    go_wp2_with fail
    go_ret
    exact ⟨rfl, below_step hB3 hb9⟩
  rw [g2] at K2
  obtain ⟨a, eA, ha⟩ := set_of g0
  obtain ⟨b, eB, hb⟩ := set_of g1
  obtain ⟨c, eC, hc⟩ := set_of g2
  have fa := few_of eA (by omega)
  have fb := few_of eB (by omega)
  have fc := few_of eC (by omega)
  rw [eA] at hA
  rw [eB] at hB
  rw [eC] at hC
  clear lA lB lC eA eB eC g0 g1 g2 h0 h1 h2
  have sab : SetOf (un a b) := SetOf.mg ha hb (Nat.le_trans (ul a b) (by omega))
  have sbc : SetOf (un b c) := SetOf.mg hb hc (Nat.le_trans (ul b c) (by omega))
  have mab : SetOf (me a b) := SetOf.mg ha hb (Nat.le_trans (ml a b) (by omega))
  have mbc : SetOf (me b c) := SetOf.mg hb hc (Nat.le_trans (ml b c) (by omega))
  have mac : SetOf (me a c) := SetOf.mg ha hc (Nat.le_trans (ml a c) (by omega))
  have lab := ul a b
  have lbc := ul b c
  have kab := ml a b
  have kbc := ml b c
  have kac := ml a c
  have CI := Lib.hid (fun W => idsP_any (setL a) W (by rw [setL_len]; omega))
  unfold IdsV at CI
  have hI : idsS (setL a) = (a, 0) := by unfold idsS; rw [if_neg (by rw [ha.chk]; simp), ha.ids]
  rw [hI] at CI
  have CO : Hid (∀ v W B, W.ownsRow B 3 1 v a.length (natC a) → Calls Tryd.prog 11 #[v] W fun e w' => e = .returned (.tuple #[.string (str (setL a)), .int .i64 0]) ∧ Below W.heap.size W w') := Lib.hid fun v W B ho => by
    have hn : NumAt W v (a.map fun n : Nat => (n : Int)) := num_own (l := a.map fun n : Nat => (n : Int)) (by
      have e : intC (a.map fun n : Nat => (n : Int)) = natC a := by unfold intC natC; rw [List.map_map]; rfl
      rw [e]; exact ho) (by rw [List.length_map])
    have := of_any v _ W hn (by rw [List.length_map]; omega)
    have e : ofS (a.map fun n : Nat => (n : Int)) = (setL a, 0) := by
      obtain ⟨e1, e2⟩ := of_ids ha.up ha.lt
      unfold ofS; rw [e1, e2, if_neg (by simp), if_neg (by omega)]
    rw [e] at this; exact this
  have U1 := Lib.hid (fun W => unionS ha hb (by omega) W)
  have U2 := Lib.hid (fun W => unionS hb ha (by rw [un_comm hb.up ha.up]; omega) W)
  have M1 := Lib.hid (fun W => meetS ha hb (by omega) W)
  have M2 := Lib.hid (fun W => meetS hb ha (by rw [me_comm hb.up ha.up]; omega) W)
  have M3 := Lib.hid (fun W => meetS ha hc (by omega) W)
  have M4 := Lib.hid (fun W => meetS hb hc (by omega) W)
  have M5 := Lib.hid (fun W => meetS mab hc (by have := ml (me a b) c; omega) W)
  have M6 := Lib.hid (fun W => meetS ha mbc (by have := ml a (me b c); omega) W)
  have U3 := Lib.hid (fun W => unionS hb hc (by omega) W)
  have M7 := Lib.hid (fun W => meetS ha sbc (by have := ml a (un b c); omega) W)
  have U4 := Lib.hid (fun W => unionS mab mac (by have := ul (me a b) (me a c); omega) W)
  have U5 := Lib.hid (fun W => unionS ha sbc (by have := ul a (un b c); omega) W)
  have U6 := Lib.hid (fun W => unionS sab hc (by have := ul (un a b) c; omega) W)
  rw [un_comm hb.up ha.up] at U2
  rw [me_comm hb.up ha.up] at M2
  rw [me_assoc ha.up hb.up hc.up] at M5
  rw [me_un ha.up hb.up hc.up] at M7
  rw [un_assoc ha.up hb.up hc.up] at U6
  rw [hA] at CO U1 U2 M1 M2 M3 M6 M7 U5 CI
  rw [hB] at U1 U2 M1 M2 M4 U3
  rw [hC] at M3 M4 M5 U3 U6
  obtain ⟨Sab, e1⟩ : ∃ q, str (setL (un a b)) = q := ⟨_, rfl⟩
  obtain ⟨Sbc, e2⟩ : ∃ q, str (setL (un b c)) = q := ⟨_, rfl⟩
  obtain ⟨Mab, e3⟩ : ∃ q, str (setL (me a b)) = q := ⟨_, rfl⟩
  obtain ⟨Mbc, e4⟩ : ∃ q, str (setL (me b c)) = q := ⟨_, rfl⟩
  obtain ⟨Mac, e5⟩ : ∃ q, str (setL (me a c)) = q := ⟨_, rfl⟩
  obtain ⟨X1, e6⟩ : ∃ q, str (setL (me a (me b c))) = q := ⟨_, rfl⟩
  obtain ⟨X2, e7⟩ : ∃ q, str (setL (un (me a b) (me a c))) = q := ⟨_, rfl⟩
  obtain ⟨X3, e8⟩ : ∃ q, str (setL (un a (un b c))) = q := ⟨_, rfl⟩
  rw [e1] at U1 U2 U6
  rw [e2] at U3 M7 U5
  rw [e3] at M1 M2 M5 U4
  rw [e4] at M4 M6
  rw [e5] at M3 U4
  rw [e6] at M5 M6
  rw [e7] at M7 U4
  rw [e8] at U5 U6
  clear e1 e2 e3 e4 e5 e6 e7 e8 hA hB hC sab sbc mab mbc mac lab lbc kab kbc kac hI ha hb hc fa fb fc
  go_enter Tryd.func7, Tryd.ntmps7
  go_wp2_with fail
  refine (K0.out _).mono ?_
  rintro e w1 ⟨rfl, hb1⟩
  have hB1 := hb1
  go_wp2_with fail
  refine (K1.out _).mono ?_
  rintro e w2 ⟨rfl, hb2⟩
  have hB2 := below_step hB1 hb2
  go_wp2_with fail
  refine (K2.out _).mono ?_
  rintro e w3 ⟨rfl, hb3⟩
  have hB3 := below_step hB2 hb3
  go_wp2_with fail
  refine (CI.out _).mono ?_
  rintro e w4 ⟨v, rfl, ho, hb4⟩
  have hB4 := below_step hB3 hb4
  obtain ⟨va, vn, vc, rfl⟩ := own_slice ho
  have CO1 := Lib.hid (CO.out _ _ _ ho)
  clear ho
  go_wp2_with fail
  refine CO1.out.mono ?_
  rintro e w5 ⟨rfl, hb5⟩
  have hB5 := below_step hB4 hb5
  go_wp2_with fail
  refine (U1.out _).mono ?_
  rintro e w6 ⟨rfl, hb6⟩
  have hB6 := below_step hB5 hb6
  go_wp2_with fail
  refine (U2.out _).mono ?_
  rintro e w7 ⟨rfl, hb7⟩
  have hB7 := below_step hB6 hb7
  go_wp2_with fail
  refine (M1.out _).mono ?_
  rintro e w8 ⟨rfl, hb8⟩
  have hB8 := below_step hB7 hb8
  go_wp2_with fail
  refine (M2.out _).mono ?_
  rintro e w9 ⟨rfl, hb9⟩
  have hB9 := below_step hB8 hb9
  go_wp2_with fail
  refine (M3.out _).mono ?_
  rintro e w10 ⟨rfl, hb10⟩
  have hB10 := below_step hB9 hb10
  go_wp2_with fail
  refine (M4.out _).mono ?_
  rintro e w11 ⟨rfl, hb11⟩
  have hB11 := below_step hB10 hb11
  go_wp2_with fail
  refine (M5.out _).mono ?_
  rintro e w12 ⟨rfl, hb12⟩
  have hB12 := below_step hB11 hb12
  go_wp2_with fail
  refine (M6.out _).mono ?_
  rintro e w13 ⟨rfl, hb13⟩
  have hB13 := below_step hB12 hb13
  go_wp2_with fail
  refine (U3.out _).mono ?_
  rintro e w14 ⟨rfl, hb14⟩
  have hB14 := below_step hB13 hb14
  go_wp2_with fail
  refine (M7.out _).mono ?_
  rintro e w15 ⟨rfl, hb15⟩
  have hB15 := below_step hB14 hb15
  go_wp2_with fail
  refine (U4.out _).mono ?_
  rintro e w16 ⟨rfl, hb16⟩
  have hB16 := below_step hB15 hb16
  go_wp2_with fail
  refine (U5.out _).mono ?_
  rintro e w17 ⟨rfl, hb17⟩
  have hB17 := below_step hB16 hb17
  go_wp2_with fail
  refine (U1.out _).mono ?_
  rintro e w18 ⟨rfl, hb18⟩
  have hB18 := below_step hB17 hb18
  go_wp2_with fail
  refine (U6.out _).mono ?_
  rintro e w19 ⟨rfl, hb19⟩
  have hB19 := below_step hB18 hb19
  go_wp2_with fail
  refine (CAw.out _ hB19).mono ?_
  rintro e wz ⟨rfl, hbz⟩
  go_wp2_with fail
  go_ret
  exact ⟨rfl, below_step hB19 hbz⟩
-- MARK9
end Go.Proofs.YtchnmbfeaaialaaDoor
