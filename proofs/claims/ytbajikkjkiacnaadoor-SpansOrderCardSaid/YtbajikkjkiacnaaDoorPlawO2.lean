/- The law SpansOrder, walked. -/
import Derived.Test.YtbajikkjkiacnaaDoorPlawO
import Derived.Test.YtbajikkjkiacnaaDoorPbox
namespace Go.Proofs.YtbajikkjkiacnaaDoor
open Go.RowKit Go.PlainAid Go.ChangeShapes Go.WideShapes Go.ChangeAt

set_option maxRecDepth 100000 in
set_option maxHeartbeats 25600000 in
theorem lawO_ok (a b c d x y ma mb : Int) (ab ba bc ac inn has isv : Bool) (w : World) (T : PTabs w) (h1 : okS (a, b) = true) (h2 : okS (c, d) = true) (h3 : okS (x, y) = true)
    (hab : beS (a, b) (c, d) = ab) (hba : beS (c, d) (a, b) = ba) (hbc : beS (c, d) (x, y) = bc) (hac : beS (a, b) (x, y) = ac) (hin : wiS (a, b) (c, d) = inn) (hhas : wiS (c, d) (a, b) = has) (hm : meetS (a, b) (c, d) = ((ma, mb), isv, 0))
    (q : Bool) (hq : (a == c && b == d) = q) (hq2 : inn = true → has = q) (h9 : (ab && ba) = false ∧ (a < b → c < d → x < y → ab = true → bc = true → ac = true))
    (cm e1 e2 : Bool) (hcm : decide (ma < mb) = cm) (he1 : (ma == a && mb == b) = e1) (he2 : (ma == c && mb == d) = e2) (hfin : (isv && cm && !e1 && !e2) = (!ab && !ba && !inn && !has)) :
    Calls Tryd.prog 6 #[.agg #[.int .i64 a, .int .i64 b, .int .i64 c, .int .i64 d, .int .i64 x, .int .i64 y]] w fun e w' => e = .returned (.bool true) ∧ Below w.heap.size w w' := by
  have CA : Hid (∀ W, Below w.heap.size w W → Calls Tryd.prog 12 #[] W fun e w' => e = .returned (.bool true) ∧ Below W.heap.size W w') := Lib.hid fun W hb => awake_any W (T.below hb)
  have CB : ∀ p q r s o, okS (p, q) = true → okS (r, s) = true → beS (p, q) (r, s) = o → Hid (∀ W, Calls Tryd.prog 19 #[.agg #[.int .i64 p, .int .i64 q], .agg #[.int .i64 r, .int .i64 s]] W fun e w' => e = .returned (.tuple #[.bool o, .int .i64 0]) ∧ Below W.heap.size W w') := fun p q r s o k1 k2 k3 => Lib.hid fun W => by
    have := Before_any p q r s W
    unfold beforeS at this; rw [k1, k2, if_neg (by simp), k3] at this; exact this
  have CW : ∀ p q r s o, okS (p, q) = true → okS (r, s) = true → wiS (p, q) (r, s) = o → Hid (∀ W, Calls Tryd.prog 17 #[.agg #[.int .i64 p, .int .i64 q], .agg #[.int .i64 r, .int .i64 s]] W fun e w' => e = .returned (.tuple #[.bool o, .int .i64 0]) ∧ Below W.heap.size W w') := fun p q r s o k1 k2 k3 => Lib.hid fun W => by
    have := Within_any p q r s W
    unfold withinS at this; rw [k1, k2, if_neg (by simp), k3] at this; exact this
  have K8 : Hid (∀ W, Calls Tryd.prog 15 #[.agg #[.int .i64 a, .int .i64 b], .agg #[.int .i64 c, .int .i64 d]] W fun e w' => e = .returned (.tuple #[.agg #[.int .i64 ma, .int .i64 mb], .bool isv, .int .i64 0]) ∧ Below W.heap.size W w') := Lib.hid fun W => by
    have := Meet_any a b c d W; rw [hm] at this; exact this
  have haa : beS (a, b) (a, b) = false := by rw [beS_not]; simp
  have K1 := CB a b c d ab h1 h2 hab
  have K2 := CB c d a b ba h2 h1 hba
  have K3 := CB c d x y bc h2 h3 hbc
  have K4 := CB a b x y ac h1 h3 hac
  have K5 := CB a b a b false h1 h1 haa
  have K6 := CW a b c d inn h1 h2 hin
  have K7 := CW c d a b has h2 h1 hhas
  have KV1 : Hid (∀ W, Calls Tryd.prog 37 #[.agg #[.int .i64 a, .int .i64 b]] W fun e w' => e = .returned (.bool true) ∧ Below W.heap.size W w') := Lib.hid fun W => by have := lvalid_any a b W; rw [h1] at this; exact this
  have KV2 : Hid (∀ W, Calls Tryd.prog 37 #[.agg #[.int .i64 c, .int .i64 d]] W fun e w' => e = .returned (.bool true) ∧ Below W.heap.size W w') := Lib.hid fun W => by have := lvalid_any c d W; rw [h2] at this; exact this
  have KV3 : Hid (∀ W, Calls Tryd.prog 37 #[.agg #[.int .i64 x, .int .i64 y]] W fun e w' => e = .returned (.bool true) ∧ Below W.heap.size W w') := Lib.hid fun W => by have := lvalid_any x y W; rw [h3] at this; exact this
  have H9 := Lib.hid h9
  have HQ := Lib.hid hq
  have HQ2 := Lib.hid hq2
  have HCM := Lib.hid hcm
  have HE1 := Lib.hid he1
  have HE2 := Lib.hid he2
  have HFIN := Lib.hid hfin
  obtain ⟨W0, hW0⟩ : ∃ W0, W0 = w.alloc (.cells #[.int .i64 a, .int .i64 b, .int .i64 c, .int .i64 d, .int .i64 x, .int .i64 y] 55) := ⟨_, rfl⟩
  have hw0 : Below w.heap.size w W0 := by subst hW0; exact below_a1 _ _
  have hz0 : W0.heap[w.heap.size]? = some (.cells #[.int .i64 a, .int .i64 b, .int .i64 c, .int .i64 d, .int .i64 x, .int .i64 y] 55 (0, 0)) := by subst hW0; exact six_box _ _ _ _ _ _ _ _
  obtain ⟨f0, f1, f2, f3, f4, f5⟩ := six_facts hz0
  have hs0 : w.heap.size < W0.heap.size := (Array.getElem?_eq_some_iff.1 hz0).1
  have HK : ∀ (p : Addr) (o1 o2 o3 : Obj), p.block = w.heap.size → (((W0.alloc o1).alloc o2).alloc o3).cell? p = W0.cell? p := fun p o1 o2 o3 hp => by
    rw [World.cell?_alloc_lt _ _ _ (by simp only [World.size_alloc]; omega), World.cell?_alloc_lt _ _ _ (by simp only [World.size_alloc]; omega), World.cell?_alloc_lt _ _ _ (by omega)]
  have l0 := fun o1 o2 o3 => (HK ⟨w.heap.size, 0, none⟩ o1 o2 o3 rfl).trans f0
  have l1 := fun o1 o2 o3 => (HK ⟨w.heap.size, 1, none⟩ o1 o2 o3 rfl).trans f1
  have l2 := fun o1 o2 o3 => (HK ⟨w.heap.size, 2, none⟩ o1 o2 o3 rfl).trans f2
  have l3 := fun o1 o2 o3 => (HK ⟨w.heap.size, 3, none⟩ o1 o2 o3 rfl).trans f3
  have l4 := fun o1 o2 o3 => (HK ⟨w.heap.size, 4, none⟩ o1 o2 o3 rfl).trans f4
  have l5 := fun o1 o2 o3 => (HK ⟨w.heap.size, 5, none⟩ o1 o2 o3 rfl).trans f5
  clear HK
  clear T h1 h2 h3 hab hba hbc hac hin hhas hm hq hq2 h9 hcm he1 he2 hfin haa CB CW hz0
  go_enter Tryd.func6, Tryd.ntmps6
  go_upto_region 1 with (fail)
  rw [← hW0]
  clear hW0
  go_cut [3, 4, 5] from 22 to 27 (fun s3 s4 s5 wx => ∃ pa pb pc, s3 = .pointer (some ⟨pa, 0, none⟩) ∧ s4 = .pointer (some ⟨pb, 0, none⟩) ∧ s5 = .pointer (some ⟨pc, 0, none⟩) ∧ wx.heap[pa]? = some (.cells #[.int .i64 a, .int .i64 b] 25 (0, 0)) ∧ wx.heap[pb]? = some (.cells #[.int .i64 c, .int .i64 d] 25 (0, 0)) ∧ wx.heap[pc]? = some (.cells #[.int .i64 x, .int .i64 y] 25 (0, 0)) ∧ Below w.heap.size w wx)
  case first =>
    go_region
    all_goals go_wp2
    all_goals go_meet
    all_goals refine ⟨_, _, _, rfl, rfl, rfl, ?_, ?_, ?_, ?_⟩
    all_goals first
      | exact perm1 _ _ _ _ _
      | exact perm2 _ _ _ _ _
      | exact perm3 _ _ _ _ _
      | exact perm_below hw0 _ _ _
  case rest =>
    obtain ⟨pa, pb, pc, rfl, rfl, rfl, ha, hb, hc, hB⟩ := hcut
    clear f0 f1 f2 f3 f4 f5 hs0 hw0 l0 l1 l2 l3 l4 l5
    have hla := (Array.getElem?_eq_some_iff.1 ha).1
    have hlb := (Array.getElem?_eq_some_iff.1 hb).1
    have hlc := (Array.getElem?_eq_some_iff.1 hc).1
    obtain ⟨wo, hwo⟩ : ∃ q, q = wc := ⟨_, rfl⟩
    subst hwo
    have HX : Hid (∀ W, Below wo.heap.size wo W → W.cell? ⟨pa, 0, none⟩ = some (.int .i64 a) ∧ W.cell? ⟨pa, 1, none⟩ = some (.int .i64 b) ∧ W.cell? ⟨pb, 0, none⟩ = some (.int .i64 c) ∧ W.cell? ⟨pb, 1, none⟩ = some (.int .i64 d) ∧ W.cell? ⟨pc, 0, none⟩ = some (.int .i64 x) ∧ W.cell? ⟨pc, 1, none⟩ = some (.int .i64 y)) := Lib.hid fun W hW => by
      obtain ⟨a0, a1, _, _⟩ := box_facts ((hW.block _ hla).trans ha)
      obtain ⟨b0, b1, _, _⟩ := box_facts ((hW.block _ hlb).trans hb)
      obtain ⟨c0, c1, _, _⟩ := box_facts ((hW.block _ hlc).trans hc)
      exact ⟨a0, a1, b0, b1, c0, c1⟩
    clear ha hb hc hla hlb hlc
    have hC := Below.refl wo.heap.size wo
    obtain ⟨a0, a1, b0, b1, c0, c1⟩ := HX.out _ hC
    go_wp2_with fail
    refine (KV1.out _).mono ?_
    rintro e w1 ⟨rfl, hb1⟩
    have hC := hC.trans (hb1.mono hC.size)
    clear a0 a1 b0 b1 c0 c1 hb1
    obtain ⟨a0, a1, b0, b1, c0, c1⟩ := HX.out _ hC
    go_wp2_with fail
    refine (KV2.out _).mono ?_
    rintro e w2 ⟨rfl, hb2⟩
    have hC := hC.trans (hb2.mono hC.size)
    clear a0 a1 b0 b1 c0 c1 hb2
    obtain ⟨a0, a1, b0, b1, c0, c1⟩ := HX.out _ hC
    go_wp2_with fail
    refine (KV3.out _).mono ?_
    rintro e w3 ⟨rfl, hb3⟩
    have hC := hC.trans (hb3.mono hC.size)
    clear a0 a1 b0 b1 c0 c1 hb3
    obtain ⟨a0, a1, b0, b1, c0, c1⟩ := HX.out _ hC
    go_wp2_with fail
    refine (K1.out _).mono ?_
    rintro e w4 ⟨rfl, hb4⟩
    have hC := hC.trans (hb4.mono hC.size)
    clear a0 a1 b0 b1 c0 c1 hb4
    obtain ⟨a0, a1, b0, b1, c0, c1⟩ := HX.out _ hC
    go_wp2_with fail
    refine (K2.out _).mono ?_
    rintro e w5 ⟨rfl, hb5⟩
    have hC := hC.trans (hb5.mono hC.size)
    clear a0 a1 b0 b1 c0 c1 hb5
    obtain ⟨a0, a1, b0, b1, c0, c1⟩ := HX.out _ hC
    go_wp2_with fail
    refine (K3.out _).mono ?_
    rintro e w6 ⟨rfl, hb6⟩
    have hC := hC.trans (hb6.mono hC.size)
    clear a0 a1 b0 b1 c0 c1 hb6
    obtain ⟨a0, a1, b0, b1, c0, c1⟩ := HX.out _ hC
    go_wp2_with fail
    refine (K4.out _).mono ?_
    rintro e w7 ⟨rfl, hb7⟩
    have hC := hC.trans (hb7.mono hC.size)
    clear a0 a1 b0 b1 c0 c1 hb7
    obtain ⟨a0, a1, b0, b1, c0, c1⟩ := HX.out _ hC
    go_wp2_with fail
    refine (K5.out _).mono ?_
    rintro e w8 ⟨rfl, hb8⟩
    have hC := hC.trans (hb8.mono hC.size)
    clear a0 a1 b0 b1 c0 c1 hb8
    obtain ⟨a0, a1, b0, b1, c0, c1⟩ := HX.out _ hC
    go_upto_region 9 with (fail)
    go_cut [129] from 22 to 129 (fun s129 wx => s129 = .bool false ∧ Below wo.heap.size wo wx)
    case first =>
      obtain ⟨g1, g2⟩ := H9.out
      clear K1 K2 K3 K4 K5 K6 K7 K8 KV1 KV2 KV3
      by_cases p1 : a < b
      · by_cases p2 : c < d
        · by_cases p3 : x < y
          · cases ab with
            | false => (go_wp2; go_meet; exact ⟨rfl, hC⟩)
            | true =>
              cases ba with
              | true => cases g1
              | false =>
                cases bc with
                | false => (go_wp2; go_meet; exact ⟨rfl, hC⟩)
                | true =>
                  obtain rfl := g2 p1 p2 p3 rfl rfl
                  go_wp2; go_meet; exact ⟨rfl, hC⟩
          · cases ab with
            | false => (go_wp2; go_meet; exact ⟨rfl, hC⟩)
            | true =>
              cases ba with
              | true => cases g1
              | false => (go_wp2; go_meet; exact ⟨rfl, hC⟩)
        · cases ab with
          | false => (go_wp2; go_meet; exact ⟨rfl, hC⟩)
          | true =>
            cases ba with
            | true => cases g1
            | false => (go_wp2; go_meet; exact ⟨rfl, hC⟩)
      · cases ab with
        | false => (go_wp2; go_meet; exact ⟨rfl, hC⟩)
        | true =>
          cases ba with
          | true => cases g1
          | false => (go_wp2; go_meet; exact ⟨rfl, hC⟩)
    case rest =>
      obtain ⟨rfl, hC⟩ := hcut
      clear a0 a1 b0 b1 c0 c1
      obtain ⟨a0, a1, b0, b1, c0, c1⟩ := HX.out _ hC
      go_wp2_with fail
      refine (K6.out _).mono ?_
      rintro e w9 ⟨rfl, hb9⟩
      have hC := hC.trans (hb9.mono hC.size)
      clear a0 a1 b0 b1 c0 c1 hb9
      obtain ⟨a0, a1, b0, b1, c0, c1⟩ := HX.out _ hC
      go_wp2_with fail
      refine (K7.out _).mono ?_
      rintro e w10 ⟨rfl, hb10⟩
      have hC := hC.trans (hb10.mono hC.size)
      clear a0 a1 b0 b1 c0 c1 hb10
      obtain ⟨a0, a1, b0, b1, c0, c1⟩ := HX.out _ hC
      go_wp2_with fail
      refine (K8.out _).mono ?_
      rintro e wm ⟨rfl, hbm⟩
      have hC := hC.trans (hbm.mono hC.size)
      obtain ⟨W4, hW4⟩ : ∃ W4, W4 = wm.alloc (.cells #[.int .i64 ma, .int .i64 mb] 25) := ⟨_, rfl⟩
      have hC4 : Below wo.heap.size wo W4 := by subst hW4; exact hC.alloc hC.size _
      have HT : Hid (∀ W, Below W4.heap.size W4 W → W.cell? ⟨wm.heap.size, 0, none⟩ = some (.int .i64 ma) ∧ W.cell? ⟨wm.heap.size, 1, none⟩ = some (.int .i64 mb)) := Lib.hid fun W hW => by
        obtain ⟨q0, q1, _⟩ := one_cells wm W ma mb 25 (by subst hW4; exact hW)
        exact ⟨q0, q1⟩
      clear a0 a1 b0 b1 c0 c1 hbm K1 K2 K3 K4 K5 K6 K7 K8 KV1 KV2 KV3
      go_upto_region 14 with (fail)
      rw [← hW4]
      clear hW4
      obtain ⟨a0, a1, b0, b1, c0, c1⟩ := HX.out _ hC4
      obtain ⟨t0, t1⟩ := HT.out _ (Below.refl _ _)
      go_cut [0, 168] from 130 to 168 (fun _ s168 wx => s168 = .bool false ∧ Below W4.heap.size W4 wx)
      case first =>
        cases inn with
        | false => (go_wp2; go_meet; exact ⟨rfl, Below.refl _ _⟩)
        | true =>
          have hqq := HQ2.out rfl
          cases q with
          | true =>
            cases has with
            | false => cases hqq
            | true =>
              clear hqq
              have hh := HQ.out
              simp only [Bool.and_eq_true, beq_iff_eq] at hh
              obtain ⟨r1, r2⟩ := hh
              go_wp2
              go_meet
              exact ⟨rfl, Below.refl _ _⟩
          | false =>
            cases has with
            | true => cases hqq
            | false =>
              clear hqq
              have hh := HQ.out
              simp only [Bool.and_eq_false_iff, beq_eq_false_iff_ne] at hh
              by_cases r1 : a = c
              · have r2 : ¬ b = d := by rcases hh with hh | hh; · exact absurd r1 hh
                                        · exact hh
                go_wp2
                go_meet
                exact ⟨rfl, Below.refl _ _⟩
              · clear hh
                go_wp2
                go_meet
                exact ⟨rfl, Below.refl _ _⟩
      case rest =>
        obtain ⟨rfl, hE⟩ := hcut
        clear a0 a1 b0 b1 c0 c1 t0 t1 HQ HQ2 H9
        have hF := hC4.trans (hE.mono hC4.size)
        obtain ⟨a0, a1, b0, b1, _, _⟩ := HX.out _ hF
        obtain ⟨t0, t1⟩ := HT.out _ hE
        obtain ⟨we, hwe⟩ : ∃ q, q = wc := ⟨_, rfl⟩
        subst hwe
        go_upto_region 16 with (fail)
        go_cut [20] from 169 to 176 (fun s20 wx => s20 = .bool (isv && cm) ∧ Below we.heap.size we wx)
        case first =>
          have hcm := HCM.out
          cases isv with
          | false => (go_wp2; go_meet; exact ⟨rfl, Below.refl _ _⟩)
          | true => (go_wp2; go_meet; exact ⟨rfl, Below.refl _ _⟩)
        case rest =>
          obtain ⟨rfl, hG⟩ := hcut
          have hE2 := hE.trans (hG.mono hE.size)
          have hF2 := hF.trans (hG.mono hF.size)
          clear a0 a1 b0 b1 t0 t1 HCM
          obtain ⟨a0, a1, b0, b1, _, _⟩ := HX.out _ hF2
          obtain ⟨t0, t1⟩ := HT.out _ hE2
          obtain ⟨cmn, hcmn⟩ : ∃ cmn, (isv && cm) = cmn := ⟨_, rfl⟩
          rw [hcmn] at HFIN ⊢
          clear hcmn
          obtain ⟨wf, hwf⟩ : ∃ q, q = wc := ⟨_, rfl⟩
          subst hwf
          go_upto_region 17 with (fail)
          go_cut [21] from 177 to 187 (fun s21 wx => s21 = .bool (cmn && !e1 && !e2) ∧ Below wf.heap.size wf wx)
          case first =>
            cases cmn with
            | false => (go_wp2; go_meet; exact ⟨rfl, Below.refl _ _⟩)
            | true =>
              have k1 := HE1.out
              have k2 := HE2.out
              clear HE1 HE2 HFIN
              have r : (ma = a ∧ mb = b ∧ e1 = true) ∨ (ma ≠ a ∧ e1 = false) ∨ (ma = a ∧ mb ≠ b ∧ e1 = false) := by
                rw [← k1]
                by_cases g1 : ma = a <;> by_cases g2 : mb = b <;> simp [g1, g2]
              have r' : (ma = c ∧ mb = d ∧ e2 = true) ∨ (ma ≠ c ∧ e2 = false) ∨ (ma = c ∧ mb ≠ d ∧ e2 = false) := by
                rw [← k2]
                by_cases g1 : ma = c <;> by_cases g2 : mb = d <;> simp [g1, g2]
              clear k1 k2
              rcases r with ⟨r1, r2, rfl⟩ | ⟨r1, rfl⟩ | ⟨r1, r2, rfl⟩
              · clear r'
                go_wp2; go_meet; exact ⟨rfl, Below.refl _ _⟩
              · rcases r' with ⟨r3, r4, rfl⟩ | ⟨r3, rfl⟩ | ⟨r3, r4, rfl⟩ <;> (go_wp2; go_meet; exact ⟨rfl, Below.refl _ _⟩)
              · rcases r' with ⟨r3, r4, rfl⟩ | ⟨r3, rfl⟩ | ⟨r3, r4, rfl⟩ <;> (go_wp2; go_meet; exact ⟨rfl, Below.refl _ _⟩)
          case rest =>
            obtain ⟨rfl, hI⟩ := hcut
            have hZ := hB.trans ((hF2.trans (hI.mono hF2.size)).mono hB.size)
            have hfin := HFIN.out
            clear a0 a1 b0 b1 t0 t1 HE1 HE2 HFIN HX HT
            obtain ⟨ov, hov⟩ : ∃ ov, (cmn && !e1 && !e2) = ov := ⟨_, rfl⟩
            rw [hov] at hfin ⊢
            clear hov
            cases ab
            · cases ba
              · cases inn
                · cases has
                  · obtain rfl : ov = true := hfin
                    go_wp2_with (go_at_call 12; refine (CA.out _ hZ).mono ?_; rintro e wz ⟨rfl, hbz⟩)
                    go_ret
                    exact ⟨rfl, hZ.trans (hbz.mono hZ.size)⟩
                  · obtain rfl : ov = false := hfin
                    go_wp2_with (go_at_call 12; refine (CA.out _ hZ).mono ?_; rintro e wz ⟨rfl, hbz⟩)
                    go_ret
                    exact ⟨rfl, hZ.trans (hbz.mono hZ.size)⟩
                · obtain rfl : ov = false := hfin
                  go_wp2_with (go_at_call 12; refine (CA.out _ hZ).mono ?_; rintro e wz ⟨rfl, hbz⟩)
                  go_ret
                  exact ⟨rfl, hZ.trans (hbz.mono hZ.size)⟩
              · obtain rfl : ov = false := hfin
                go_wp2_with (go_at_call 12; refine (CA.out _ hZ).mono ?_; rintro e wz ⟨rfl, hbz⟩)
                go_ret
                exact ⟨rfl, hZ.trans (hbz.mono hZ.size)⟩
            · obtain rfl : ov = false := hfin
              go_wp2_with (go_at_call 12; refine (CA.out _ hZ).mono ?_; rintro e wz ⟨rfl, hbz⟩)
              go_ret
              exact ⟨rfl, hZ.trans (hbz.mono hZ.size)⟩
end Go.Proofs.YtbajikkjkiacnaaDoor
