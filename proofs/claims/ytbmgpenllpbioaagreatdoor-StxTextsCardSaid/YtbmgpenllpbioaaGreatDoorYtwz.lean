/- The law StxTexts. -/
import Derived.Test.YtbmgpenllpbioaaGreatDoorYtm
import Derived.Test.YtbmgpenllpbioaaGreatDoorYf
import Derived.Test.YtbmgpenllpbioaaGreatDoorYaw
import Derived.BigQuiet
namespace Go.Proofs.YtbmgpenllpbioaaGreatDoor
open Go.RowKit Go.PlainAid

theorem sameX_comm (x y : Sx) : sameX y x = sameX x y := by
  unfold sameX
  rw [decide_eq_decide]
  exact ⟨fun h => ⟨h.2.1, h.1, h.2.2.1.symm, h.2.2.2.symm⟩, fun h => ⟨h.2.1, h.1, h.2.2.1.symm, h.2.2.2.symm⟩⟩
theorem sameX_left {x y : Sx} (h : sameX x y = true) : sameX x x = true ∧ sameX y y = true := by
  unfold sameX at *
  rw [decide_eq_true_iff] at h
  exact ⟨decide_eq_true ⟨h.1, h.1, rfl, rfl⟩, decide_eq_true ⟨h.2.1, h.2.1, rfl, rfl⟩⟩
structure GivesTx (na nb : Nat) (av bv : Option Addr) (ca cb : Nat) (SA SB : ByteArray) (ea eb : Int) (xab : Bool) (eab : Int) (w : World) : Prop where
  p1 : ∀ W, Below w.heap.size w W → Calls Tryz.prog 38 #[.slice av na ca] W fun e w' => e = .returned (.tuple #[.string SA, .int .i64 ea]) ∧ Below W.heap.size W w'
  p2 : ∀ W, Below w.heap.size w W → Calls Tryz.prog 39 #[.slice av na ca] W fun e w' => e = .returned (.tuple #[.string SA, .int .i64 ea]) ∧ Below W.heap.size W w'
  p3 : ∀ W, Below w.heap.size w W → Calls Tryz.prog 38 #[.slice bv nb cb] W fun e w' => e = .returned (.tuple #[.string SB, .int .i64 eb]) ∧ Below W.heap.size W w'
  l1 : ∀ W, Below w.heap.size w W → Calls Tryz.prog 40 #[.slice av na ca, .slice bv nb cb] W fun e w' => e = .returned (.tuple #[.bool xab, .int .i64 eab]) ∧ Below W.heap.size W w'
  l2 : ∀ W, Below w.heap.size w W → Calls Tryz.prog 41 #[.slice av na ca, .slice bv nb cb] W fun e w' => e = .returned (.tuple #[.bool xab, .int .i64 eab]) ∧ Below W.heap.size W w'
  hx : xab = true → SB = SA ∧ eb = ea
theorem givesTx {na nb : Nat} {av bv : Option Addr} {ca cb : Nat} {a b : List Sx} {w : World} (h : XsAt w (.slice av na ca) a) (h2 : XsAt w (.slice bv nb cb) b) (hs : SmX a) (hi : InX a) (hr : IrX a) (hs2 : SmX b) (hi2 : InX b) (hr2 : IrX b) (T : XTabs w) :
    GivesTx na nb av bv ca cb (str (prtX a).1) (str (prtX b).1) (prtX a).2 (prtX b).2 (alikeX a b).1 (alikeX a b).2 w := by
  have hv : ∀ W, Below w.heap.size w W → XsAt W (.slice av na ca) a := fun W hW => h.below hW (Nat.le_refl _)
  have hu : ∀ W, Below w.heap.size w W → XsAt W (.slice bv nb cb) b := fun W hW => h2.below hW (Nat.le_refl _)
  refine ⟨?_, ?_, ?_, ?_, ?_, ?_⟩
  · exact fun W hW => Print_x _ a W (hv W hW) hs hi hr (T.below hW)
  · exact fun W hW => rPrint_any _ a W (hv W hW) hs hi hr
  · exact fun W hW => Print_x _ b W (hu W hW) hs2 hi2 hr2 (T.below hW)
  · exact fun W hW => Alike_any _ _ a b W (hv W hW) (hu W hW) hs hi hs2 hi2 (T.below hW).st
  · exact fun W hW => rAlike_any _ _ a b W (hv W hW) (hu W hW) hs hi hs2 hi2
  · intro hx
    have := alike_print hx
    rw [this]; exact ⟨rfl, rfl⟩
set_option maxRecDepth 100000 in
set_option maxHeartbeats 12800000 in
theorem lawTx_go (na nb : Nat) (av bv : Option Addr) (ca cb : Nat) (a b : List Sx) (SA SB : ByteArray) (ea eb : Int) (xab : Bool) (eab : Int) (w : World) (hv : XsAt w (.slice av na ca) a) (hu : XsAt w (.slice bv nb cb) b) (hna : a.length = na) (hnb : b.length = nb)
    (CF1 : Calls Tryz.prog 10 #[.slice av na ca] w (FarV a w)) (CF2 : Calls Tryz.prog 10 #[.slice bv nb cb] w (FarV b w))
    (CAw : ∀ W, Below w.heap.size w W → Calls Tryz.prog 11 #[] W fun e w' => e = .returned (.bool true) ∧ Below W.heap.size W w')
    (HG : NearX a → NearX b → GivesTx na nb av bv ca cb SA SB ea eb xab eab w) :
    Calls Tryz.prog 7 #[.slice av na ca, .slice bv nb cb] w fun e w' => e = .returned (.bool true) ∧ Below w.heap.size w w' := by
  replace CF1 := Lib.hid CF1
  replace CF2 := Lib.hid CF2
  replace CAw := Lib.hid CAw
  replace HG := Lib.hid HG
  have HV := Lib.hid (fun W (hW : Below w.heap.size w W) => hv.below hW (Nat.le_refl _))
  have HU := Lib.hid (fun W (hW : Below w.heap.size w W) => hu.below hW (Nat.le_refl _))
  have HNa := Lib.hid hna
  have HNb := Lib.hid hnb
  have CSa := Lib.hid (fun x y W => Same_x x y W)
  have CSr := Lib.hid (fun x y W => rSame_x x y W)
  clear hv hu hna hnb
  go_enter Tryz.func7, Tryz.ntmps7
  go_wp2_with fail
  refine CF1.out.mono ?_
  rintro e w0 ⟨bf, rfl, HN, hw0⟩
  obtain rfl : w = w0 := hw0.symm
  cases bf
  case true =>
    clear HN
    go_wp2_with fail
    refine (CAw.out _ (Below.refl _ _)).mono ?_
    rintro e w9 ⟨rfl, hb9⟩
    go_wp2_with fail
    go_ret
    exact ⟨rfl, hb9⟩
  have HN1 := Lib.hid (HN.out rfl)
  clear HN
  go_wp2_with fail
  refine CF2.out.mono ?_
  rintro e w0 ⟨bf, rfl, HN, hw0⟩
  obtain rfl : w = w0 := hw0.symm
  cases bf
  case true =>
    clear HN
    go_wp2_with fail
    refine (CAw.out _ (Below.refl _ _)).mono ?_
    rintro e w9 ⟨rfl, hb9⟩
    go_wp2_with fail
    go_ret
    exact ⟨rfl, hb9⟩
  have hG := HG.out HN1.out (HN.out rfl)
  have P1 := Lib.hid hG.p1
  have P2 := Lib.hid hG.p2
  have P3 := Lib.hid hG.p3
  have L1 := Lib.hid hG.l1
  have L2 := Lib.hid hG.l2
  have HXX := Lib.hid hG.hx
  have na2 : na ≤ 2010 := by have := HN1.out.1; rw [HNa.out] at this; exact this
  have nb2 : nb ≤ 2010 := by have := (HN.out rfl).1; rw [HNb.out] at this; exact this
  have qa : (ea != ea) = false := by simp
  have qab : (eab != eab) = false := by simp
  clear HN HG hG HN1 CF1 CF2
  go_wp2_with fail
  refine (P1.out w (Below.refl _ _)).mono ?_
  rintro e w1 ⟨rfl, hb1⟩
  go_wp2_with fail
  refine (P2.out w1 hb1).mono ?_
  rintro e w2 ⟨rfl, hb2⟩
  have hB2 := below_step hb1 hb2
  clear hb1 hb2 P1 P2
  go_wp2_with fail
  refine (L1.out w2 hB2).mono ?_
  rintro e w3 ⟨rfl, hb3⟩
  have hB3 := below_step hB2 hb3
  clear hB2 hb3 L1
  go_wp2_with fail
  refine (L2.out w3 hB3).mono ?_
  rintro e w4 ⟨rfl, hb4⟩
  have hB4 := below_step hB3 hb4
  clear hB3 hb4 L2
  go_wp2_with fail
  refine (P3.out w4 hB4).mono ?_
  rintro e w5 ⟨rfl, hb5⟩
  have hB5 := below_step hB4 hb5
  clear hB4 hb5 P3
  go_upto_region 8 with (fail)
  go_cut [82] from 52 to 81 (fun s82 wx => s82 = .bool false ∧ Below w.heap.size w wx)
  case first =>
    cases xab
    case false =>
      go_wp2_with fail
      go_meet
      exact ⟨rfl, hB5⟩
    case true =>
      obtain ⟨h1, h2⟩ := HXX.out rfl
      subst h1
      subst h2
      clear HXX
      go_wp2_with fail
      go_meet
      exact ⟨rfl, hB5⟩
  obtain ⟨rfl, hB⟩ := hcut
  clear hB5 HXX qa qab
  go_wp2_with fail
  go_loopw [15] (fun x15 wr => ∃ m : Nat, x15 = .int .i64 (m : Int) ∧ m ≤ na ∧ m ≤ 5 ∧ Below w.heap.size w wr) (fun x15 _ => na - (intOf x15).toNat)
  case atStart => exact ⟨0, rfl, Nat.zero_le _, Nat.zero_le _, hB⟩
  case round =>
    obtain ⟨m, rfl, hma, hm5, hbm⟩ := hrel
    have hm0 : (0 : Int) ≤ (m : Int) := Int.natCast_nonneg _
    by_cases hout : m < na ∧ m < 5
    case neg =>
      by_cases hma2 : m < na
      · have c1 : decide ((m : Int) < (na : Int)) = true := decide_eq_true (by omega)
        have c2 : decide ((m : Int) < 5) = false := decide_eq_false (by omega)
        have c3 : ¬ m < 5 := by omega
        go_wp2_with fail
        refine (CAw.out _ hbm).mono ?_
        rintro e w9 ⟨rfl, hb9⟩
        go_wp2_with fail
        go_ret
        exact ⟨rfl, below_step hbm hb9⟩
      · have c1 : decide ((m : Int) < (na : Int)) = false := decide_eq_false (by omega)
        go_wp2_with fail
        refine (CAw.out _ hbm).mono ?_
        rintro e w9 ⟨rfl, hb9⟩
        go_wp2_with fail
        go_ret
        exact ⟨rfl, below_step hbm hb9⟩
    obtain ⟨hma2, hm52⟩ := hout
    have c1 : decide ((m : Int) < (na : Int)) = true := decide_eq_true (by omega)
    have c2 : decide ((m : Int) < 5) = true := decide_eq_true (by omega)
    have c4 : (m : Int) < (na : Int) := by omega
    obtain ⟨x, hx⟩ : ∃ x, a[m]? = some x := ⟨_, List.getElem?_eq_getElem (by rw [HNa.out]; exact hma2)⟩
    have HXm := Lib.hid hx
    obtain ⟨ga, oa, rfl, _⟩ := (HV.out w (Below.refl _ _)).node hx
    clear hx
    obtain ⟨wm, hwm⟩ : ∃ wm, wm = wr := ⟨_, rfl⟩
    subst hwm
    go_wp2_with fail
    go_loopw [16] (fun x16 wr => ∃ n : Nat, x16 = .int .i64 (n : Int) ∧ n ≤ nb ∧ n ≤ 5 ∧ Below w.heap.size w wr) (fun x16 _ => nb - (intOf x16).toNat)
    case atStart => exact ⟨0, rfl, Nat.zero_le _, Nat.zero_le _, hbm⟩
    case round =>
      obtain ⟨n, rfl, hnb1, hn5, hbn⟩ := hrel
      have hn0 : (0 : Int) ≤ (n : Int) := Int.natCast_nonneg _
      by_cases hout : n < nb ∧ n < 5
      case neg =>
        by_cases hnb2 : n < nb
        · have e1 : decide ((n : Int) < (nb : Int)) = true := decide_eq_true (by omega)
          have e2 : decide ((n : Int) < 5) = false := decide_eq_false (by omega)
          have e3 : ¬ n < 5 := by omega
          go_wp2_with fail
          exact ⟨⟨m + 1, by go_num, by omega, by omega, hbn⟩, by simp [intOf]; omega⟩
        · have e1 : decide ((n : Int) < (nb : Int)) = false := decide_eq_false (by omega)
          go_wp2_with fail
          exact ⟨⟨m + 1, by go_num, by omega, by omega, hbn⟩, by simp [intOf]; omega⟩
      obtain ⟨hnb2, hn52⟩ := hout
      have e1 : decide ((n : Int) < (nb : Int)) = true := decide_eq_true (by omega)
      have e2 : decide ((n : Int) < 5) = true := decide_eq_true (by omega)
      have e4 : (n : Int) < (nb : Int) := by omega
      obtain ⟨y, hy⟩ : ∃ x, b[n]? = some x := ⟨_, List.getElem?_eq_getElem (by rw [HNb.out]; exact hnb2)⟩
      have HYn := Lib.hid hy
      obtain ⟨gb, ob, rfl, _⟩ := (HU.out w (Below.refl _ _)).node hy
      have K1 := Lib.hid (CSa.out x y)
      have K2 := Lib.hid (CSr.out x y)
      have K3 := Lib.hid (CSa.out y x)
      have K4 := Lib.hid (CSa.out x x)
      have K5 := Lib.hid (CSa.out y y)
      rw [sameX_comm] at K3
      have HLf : Hid (sameX x y = true → sameX x x = true ∧ sameX y y = true) := Lib.hid sameX_left
      obtain ⟨z, hz⟩ : ∃ z, sameX x y = z := ⟨_, rfl⟩
      obtain ⟨zx, hzx⟩ : ∃ z, sameX x x = z := ⟨_, rfl⟩
      obtain ⟨zy, hzy⟩ : ∃ z, sameX y y = z := ⟨_, rfl⟩
      rw [hz] at K1 K2 K3 HLf
      rw [hzx] at K4 HLf
      rw [hzy] at K5 HLf
      obtain ⟨x0, x1, x2, x3, x4, x5, x6, x7⟩ := x
      obtain ⟨y0, y1, y2, y3, y4, y5, y6, y7⟩ := y
      unfold sxA sxC at K1 K2 K3 K4 K5
      simp only at K1 K2 K3 K4 K5
      obtain ⟨S3, hS3⟩ : ∃ S, str x3 = S := ⟨_, rfl⟩
      obtain ⟨S4, hS4⟩ : ∃ S, str x4 = S := ⟨_, rfl⟩
      obtain ⟨T3, hT3⟩ : ∃ S, str y3 = S := ⟨_, rfl⟩
      obtain ⟨T4, hT4⟩ : ∃ S, str y4 = S := ⟨_, rfl⟩
      rw [hS3, hS4] at K1 K2 K3 K4
      rw [hT3, hT4] at K1 K2 K3 K5
      have HK : Hid (∀ W, Below w.heap.size w W → (W.cell? ⟨ga, oa + m * 8, none⟩ = some (.int .i64 x0) ∧ W.cell? ⟨ga, oa + m * 8 + 1, none⟩ = some (.int .i64 x1) ∧ W.cell? ⟨ga, oa + m * 8 + 2, none⟩ = some (.int .i64 x2) ∧ W.cell? ⟨ga, oa + m * 8 + 3, none⟩ = some (.string S3) ∧ W.cell? ⟨ga, oa + m * 8 + 4, none⟩ = some (.string S4) ∧ W.cell? ⟨ga, oa + m * 8 + 5, none⟩ = some (.int .i64 x5) ∧ W.cell? ⟨ga, oa + m * 8 + 6, none⟩ = some (.int .i64 x6) ∧ W.cell? ⟨ga, oa + m * 8 + 7, none⟩ = some (.int .i64 x7)) ∧ W.cell? ⟨gb, ob + n * 8, none⟩ = some (.int .i64 y0) ∧ W.cell? ⟨gb, ob + n * 8 + 1, none⟩ = some (.int .i64 y1) ∧ W.cell? ⟨gb, ob + n * 8 + 2, none⟩ = some (.int .i64 y2) ∧ W.cell? ⟨gb, ob + n * 8 + 3, none⟩ = some (.string T3) ∧ W.cell? ⟨gb, ob + n * 8 + 4, none⟩ = some (.string T4) ∧ W.cell? ⟨gb, ob + n * 8 + 5, none⟩ = some (.int .i64 y5) ∧ W.cell? ⟨gb, ob + n * 8 + 6, none⟩ = some (.int .i64 y6) ∧ W.cell? ⟨gb, ob + n * 8 + 7, none⟩ = some (.int .i64 y7)) := Lib.hid fun W hW => by
        obtain ⟨g1, o1, u1, _, k0, k1, k2, k3, k4, k5, k6, k7⟩ := (HV.out W hW).node HXm.out
        obtain ⟨g2, o2, u2, _, m0, m1, m2, m3, m4, m5, m6, m7⟩ := (HU.out W hW).node HYn.out
        cases u1
        cases u2
        simp only at k0 k1 k2 k3 k4 k5 k6 k7 m0 m1 m2 m3 m4 m5 m6 m7
        rw [hS3] at k3
        rw [hS4] at k4
        rw [hT3] at m3
        rw [hT4] at m4
        exact ⟨⟨k0, k1, k2, k3, k4, k5, k6, k7⟩, m0, m1, m2, m3, m4, m5, m6, m7⟩
      clear hy HYn hS3 hS4 hT3 hT4 hz hzx hzy
      have hbD := Lib.hid hbn.drew
      obtain ⟨⟨k0, k1, k2, k3, k4, k5, k6, k7⟩, m0, m1, m2, m3, m4, m5, m6, m7⟩ := HK.out wr hbn
      go_upto_region 16 with (fail)
      go_cut [17] from 103 to 111 (fun s17 wx => s17 = .bool z ∧ Below w.heap.size w wx)
      case first =>
        go_region_held3 (fun W => (W.cell? ⟨ga, oa + m * 8, none⟩ = some (.int .i64 x0) ∧ W.cell? ⟨ga, oa + m * 8 + 1, none⟩ = some (.int .i64 x1) ∧ W.cell? ⟨ga, oa + m * 8 + 2, none⟩ = some (.int .i64 x2) ∧ W.cell? ⟨ga, oa + m * 8 + 3, none⟩ = some (.string S3) ∧ W.cell? ⟨ga, oa + m * 8 + 4, none⟩ = some (.string S4) ∧ W.cell? ⟨ga, oa + m * 8 + 5, none⟩ = some (.int .i64 x5) ∧ W.cell? ⟨ga, oa + m * 8 + 6, none⟩ = some (.int .i64 x6) ∧ W.cell? ⟨ga, oa + m * 8 + 7, none⟩ = some (.int .i64 x7)) ∧ W.cell? ⟨gb, ob + n * 8, none⟩ = some (.int .i64 y0) ∧ W.cell? ⟨gb, ob + n * 8 + 1, none⟩ = some (.int .i64 y1) ∧ W.cell? ⟨gb, ob + n * 8 + 2, none⟩ = some (.int .i64 y2) ∧ W.cell? ⟨gb, ob + n * 8 + 3, none⟩ = some (.string T3) ∧ W.cell? ⟨gb, ob + n * 8 + 4, none⟩ = some (.string T4) ∧ W.cell? ⟨gb, ob + n * 8 + 5, none⟩ = some (.int .i64 y5) ∧ W.cell? ⟨gb, ob + n * 8 + 6, none⟩ = some (.int .i64 y6) ∧ W.cell? ⟨gb, ob + n * 8 + 7, none⟩ = some (.int .i64 y7)) (first | exact HK.out _ (by assumption) | go_keep) (first
          | (go_at_call 42; with_reducible refine (K1.out _).mono ?_; rintro e w6 ⟨rfl, hhw6⟩; have hBw6 := below_step (by first | assumption | exact hbD.out) hhw6))
        all_goals go_wp2_with fail
        all_goals go_meet
        all_goals exact ⟨rfl, by assumption⟩
      obtain ⟨rfl, hbc⟩ := hcut
      clear k0 k1 k2 k3 k4 k5 k6 k7 m0 m1 m2 m3 m4 m5 m6 m7 hbD K1
      have hbD := Lib.hid hbc.drew
      obtain ⟨⟨k0, k1, k2, k3, k4, k5, k6, k7⟩, m0, m1, m2, m3, m4, m5, m6, m7⟩ := HK.out wc hbc
      go_upto_region 17 with (fail)
      go_cut [162] from 112 to 161 (fun s162 wx => s162 = .bool false ∧ Below w.heap.size w wx)
      case first =>
        cases z
        case false =>
          refine wp_region_held_drew (S := (fun W => (W.cell? ⟨ga, oa + m * 8, none⟩ = some (.int .i64 x0) ∧ W.cell? ⟨ga, oa + m * 8 + 1, none⟩ = some (.int .i64 x1) ∧ W.cell? ⟨ga, oa + m * 8 + 2, none⟩ = some (.int .i64 x2) ∧ W.cell? ⟨ga, oa + m * 8 + 3, none⟩ = some (.string S3) ∧ W.cell? ⟨ga, oa + m * 8 + 4, none⟩ = some (.string S4) ∧ W.cell? ⟨ga, oa + m * 8 + 5, none⟩ = some (.int .i64 x5) ∧ W.cell? ⟨ga, oa + m * 8 + 6, none⟩ = some (.int .i64 x6) ∧ W.cell? ⟨ga, oa + m * 8 + 7, none⟩ = some (.int .i64 x7)) ∧ W.cell? ⟨gb, ob + n * 8, none⟩ = some (.int .i64 y0) ∧ W.cell? ⟨gb, ob + n * 8 + 1, none⟩ = some (.int .i64 y1) ∧ W.cell? ⟨gb, ob + n * 8 + 2, none⟩ = some (.int .i64 y2) ∧ W.cell? ⟨gb, ob + n * 8 + 3, none⟩ = some (.string T3) ∧ W.cell? ⟨gb, ob + n * 8 + 4, none⟩ = some (.string T4) ∧ W.cell? ⟨gb, ob + n * 8 + 5, none⟩ = some (.int .i64 y5) ∧ W.cell? ⟨gb, ob + n * 8 + 6, none⟩ = some (.int .i64 y6) ∧ W.cell? ⟨gb, ob + n * 8 + 7, none⟩ = some (.int .i64 y7))) (by kernel_rfl) (by first | exact HK.out _ hbD.out) (fun hHeld => ?_)
          iterate 9 (
            (first
              | refine wpAnyH_take (i := 0) (v := ?_) rfl (by kernel_rfl) (by kernel_rfl) (by decide +kernel) (fun _ _ _ h => h) (Or.inl ⟨by rfl, ?hy⟩) (by assumption) ?_
              | refine wpAnyH_take (i := 1) (v := ?_) rfl (by kernel_rfl) (by kernel_rfl) (by decide +kernel) (fun _ _ _ h => h) (Or.inl ⟨by rfl, ?hy⟩) (by assumption) ?_
              | refine wpAnyH_take (i := 2) (v := ?_) rfl (by kernel_rfl) (by kernel_rfl) (by decide +kernel) (fun _ _ _ h => h) (Or.inl ⟨by rfl, ?hy⟩) (by assumption) ?_
              | refine wpAnyH_take (i := 3) (v := ?_) rfl (by kernel_rfl) (by kernel_rfl) (by decide +kernel) (fun _ _ _ h => h) (Or.inl ⟨by rfl, ?hy⟩) (by assumption) ?_
              | refine wpAnyH_take (i := 4) (v := ?_) rfl (by kernel_rfl) (by kernel_rfl) (by decide +kernel) (fun _ _ _ h => h) (Or.inl ⟨by rfl, ?hy⟩) (by assumption) ?_
              | refine wpAnyH_take (i := 5) (v := ?_) rfl (by kernel_rfl) (by kernel_rfl) (by decide +kernel) (fun _ _ _ h => h) (Or.inl ⟨by rfl, ?hy⟩) (by assumption) ?_
              | refine wpAnyH_take (i := 6) (v := ?_) rfl (by kernel_rfl) (by kernel_rfl) (by decide +kernel) (fun _ _ _ h => h) (Or.inl ⟨by rfl, ?hy⟩) (by assumption) ?_
              | refine wpAnyH_take (i := 7) (v := ?_) rfl (by kernel_rfl) (by kernel_rfl) (by decide +kernel) (fun _ _ _ h => h) (Or.inl ⟨by rfl, ?hy⟩) (by assumption) ?_
              | refine wpAnyH_take (i := 8) (v := ?_) rfl (by kernel_rfl) (by kernel_rfl) (by decide +kernel) (fun _ _ _ h => h) (Or.inl ⟨by rfl, ?hy⟩) (by assumption) ?_)
            case hy => (intro w hSw; (try dsimp only at hSw); go_simp; try with_reducible rfl)
            simp only [List.getElem_toArray, List.getElem_cons_succ, List.getElem_cons_zero, Act.put, List.setIfInBounds_toArray, List.set_cons_succ, List.set_cons_zero])
          refine wpAnyH_ready (rs := [9]) (by kernel_rfl) (by simp) ?_
          refine AllReadyH.cons rfl (fun K hK => ?_) AllReadyH.nil
          go_simp
          (go_at_call 43; with_reducible refine (K2.out _).mono ?_; rintro e w7 ⟨rfl, hhw7⟩; have hBw7 := below_step (by first | assumption | exact hbD.out) hhw7)
          try go_wp2_with fail
          refine hK.out _ _ (HK.out _ (by assumption)) (fun hHeld => ?_)
          clear hK K
          iterate 11 (
            (first
              | refine wpAnyH_take (i := 10) (v := ?_) rfl (by kernel_rfl) (by kernel_rfl) (by decide +kernel) (fun _ _ _ h => h) (Or.inl ⟨by rfl, ?hy⟩) (by assumption) ?_
              | refine wpAnyH_take (i := 11) (v := ?_) rfl (by kernel_rfl) (by kernel_rfl) (by decide +kernel) (fun _ _ _ h => h) (Or.inl ⟨by rfl, ?hy⟩) (by assumption) ?_
              | refine wpAnyH_take (i := 12) (v := ?_) rfl (by kernel_rfl) (by kernel_rfl) (by decide +kernel) (fun _ _ _ h => h) (Or.inl ⟨by rfl, ?hy⟩) (by assumption) ?_
              | refine wpAnyH_take (i := 13) (v := ?_) rfl (by kernel_rfl) (by kernel_rfl) (by decide +kernel) (fun _ _ _ h => h) (Or.inl ⟨by rfl, ?hy⟩) (by assumption) ?_
              | refine wpAnyH_take (i := 14) (v := ?_) rfl (by kernel_rfl) (by kernel_rfl) (by decide +kernel) (fun _ _ _ h => h) (Or.inl ⟨by rfl, ?hy⟩) (by assumption) ?_
              | refine wpAnyH_take (i := 15) (v := ?_) rfl (by kernel_rfl) (by kernel_rfl) (by decide +kernel) (fun _ _ _ h => h) (Or.inl ⟨by rfl, ?hy⟩) (by assumption) ?_
              | refine wpAnyH_take (i := 16) (v := ?_) rfl (by kernel_rfl) (by kernel_rfl) (by decide +kernel) (fun _ _ _ h => h) (Or.inl ⟨by rfl, ?hy⟩) (by assumption) ?_
              | refine wpAnyH_take (i := 17) (v := ?_) rfl (by kernel_rfl) (by kernel_rfl) (by decide +kernel) (fun _ _ _ h => h) (Or.inl ⟨by rfl, ?hy⟩) (by assumption) ?_
              | refine wpAnyH_take (i := 18) (v := ?_) rfl (by kernel_rfl) (by kernel_rfl) (by decide +kernel) (fun _ _ _ h => h) (Or.inl ⟨by rfl, ?hy⟩) (by assumption) ?_
              | refine wpAnyH_take (i := 19) (v := ?_) rfl (by kernel_rfl) (by kernel_rfl) (by decide +kernel) (fun _ _ _ h => h) (Or.inl ⟨by rfl, ?hy⟩) (by assumption) ?_
              | refine wpAnyH_take (i := 20) (v := ?_) rfl (by kernel_rfl) (by kernel_rfl) (by decide +kernel) (fun _ _ _ h => h) (Or.inl ⟨by rfl, ?hy⟩) (by assumption) ?_)
            case hy => (intro w hSw; (try dsimp only at hSw); go_simp; try with_reducible rfl)
            simp only [List.getElem_toArray, List.getElem_cons_succ, List.getElem_cons_zero, Act.put, List.setIfInBounds_toArray, List.set_cons_succ, List.set_cons_zero])
          refine wpAnyH_ready (rs := [21]) (by kernel_rfl) (by simp) ?_
          refine AllReadyH.cons rfl (fun K hK => ?_) AllReadyH.nil
          go_simp
          (go_at_call 42; with_reducible refine (K3.out _).mono ?_; rintro e w8 ⟨rfl, hhw8⟩; have hBw8 := below_step (by first | assumption | exact hbD.out) hhw8)
          try go_wp2_with fail
          refine hK.out _ _ (HK.out _ (by assumption)) (fun hHeld => ?_)
          clear hK K
          iterate 5 (
            (first
              | refine wpAnyH_take (i := 22) (v := ?_) rfl (by kernel_rfl) (by kernel_rfl) (by decide +kernel) (fun _ _ _ h => h) (Or.inl ⟨by rfl, ?hy⟩) (by assumption) ?_
              | refine wpAnyH_take (i := 23) (v := ?_) rfl (by kernel_rfl) (by kernel_rfl) (by decide +kernel) (fun _ _ _ h => h) (Or.inl ⟨by rfl, ?hy⟩) (by assumption) ?_
              | refine wpAnyH_take (i := 24) (v := ?_) rfl (by kernel_rfl) (by kernel_rfl) (by decide +kernel) (fun _ _ _ h => h) (Or.inl ⟨by rfl, ?hy⟩) (by assumption) ?_
              | refine wpAnyH_take (i := 25) (v := ?_) rfl (by kernel_rfl) (by kernel_rfl) (by decide +kernel) (fun _ _ _ h => h) (Or.inl ⟨by rfl, ?hy⟩) (by assumption) ?_
              | refine wpAnyH_take (i := 26) (v := ?_) rfl (by kernel_rfl) (by kernel_rfl) (by decide +kernel) (fun _ _ _ h => h) (Or.inl ⟨by rfl, ?hy⟩) (by assumption) ?_)
            case hy => (intro w hSw; (try dsimp only at hSw); go_simp; try with_reducible rfl)
            simp only [List.getElem_toArray, List.getElem_cons_succ, List.getElem_cons_zero, Act.put, List.setIfInBounds_toArray, List.set_cons_succ, List.set_cons_zero])
          iterate 22 (
            (first
              | refine wpAnyH_take (i := 27) (v := undef) rfl (by kernel_rfl) (by kernel_rfl) (by decide +kernel) (fun _ _ _ h => h) (Or.inr ⟨by rfl, rfl⟩) (by assumption) ?_
              | refine wpAnyH_take (i := 28) (v := undef) rfl (by kernel_rfl) (by kernel_rfl) (by decide +kernel) (fun _ _ _ h => h) (Or.inr ⟨by rfl, rfl⟩) (by assumption) ?_
              | refine wpAnyH_take (i := 29) (v := undef) rfl (by kernel_rfl) (by kernel_rfl) (by decide +kernel) (fun _ _ _ h => h) (Or.inr ⟨by rfl, rfl⟩) (by assumption) ?_
              | refine wpAnyH_take (i := 30) (v := undef) rfl (by kernel_rfl) (by kernel_rfl) (by decide +kernel) (fun _ _ _ h => h) (Or.inr ⟨by rfl, rfl⟩) (by assumption) ?_
              | refine wpAnyH_take (i := 31) (v := undef) rfl (by kernel_rfl) (by kernel_rfl) (by decide +kernel) (fun _ _ _ h => h) (Or.inr ⟨by rfl, rfl⟩) (by assumption) ?_
              | refine wpAnyH_take (i := 32) (v := undef) rfl (by kernel_rfl) (by kernel_rfl) (by decide +kernel) (fun _ _ _ h => h) (Or.inr ⟨by rfl, rfl⟩) (by assumption) ?_
              | refine wpAnyH_take (i := 33) (v := undef) rfl (by kernel_rfl) (by kernel_rfl) (by decide +kernel) (fun _ _ _ h => h) (Or.inr ⟨by rfl, rfl⟩) (by assumption) ?_
              | refine wpAnyH_take (i := 34) (v := undef) rfl (by kernel_rfl) (by kernel_rfl) (by decide +kernel) (fun _ _ _ h => h) (Or.inr ⟨by rfl, rfl⟩) (by assumption) ?_
              | refine wpAnyH_take (i := 35) (v := undef) rfl (by kernel_rfl) (by kernel_rfl) (by decide +kernel) (fun _ _ _ h => h) (Or.inr ⟨by rfl, rfl⟩) (by assumption) ?_
              | refine wpAnyH_take (i := 36) (v := undef) rfl (by kernel_rfl) (by kernel_rfl) (by decide +kernel) (fun _ _ _ h => h) (Or.inr ⟨by rfl, rfl⟩) (by assumption) ?_
              | refine wpAnyH_take (i := 37) (v := undef) rfl (by kernel_rfl) (by kernel_rfl) (by decide +kernel) (fun _ _ _ h => h) (Or.inr ⟨by rfl, rfl⟩) (by assumption) ?_
              | refine wpAnyH_take (i := 38) (v := undef) rfl (by kernel_rfl) (by kernel_rfl) (by decide +kernel) (fun _ _ _ h => h) (Or.inr ⟨by rfl, rfl⟩) (by assumption) ?_
              | refine wpAnyH_take (i := 39) (v := undef) rfl (by kernel_rfl) (by kernel_rfl) (by decide +kernel) (fun _ _ _ h => h) (Or.inr ⟨by rfl, rfl⟩) (by assumption) ?_
              | refine wpAnyH_take (i := 40) (v := undef) rfl (by kernel_rfl) (by kernel_rfl) (by decide +kernel) (fun _ _ _ h => h) (Or.inr ⟨by rfl, rfl⟩) (by assumption) ?_
              | refine wpAnyH_take (i := 41) (v := undef) rfl (by kernel_rfl) (by kernel_rfl) (by decide +kernel) (fun _ _ _ h => h) (Or.inr ⟨by rfl, rfl⟩) (by assumption) ?_
              | refine wpAnyH_take (i := 42) (v := undef) rfl (by kernel_rfl) (by kernel_rfl) (by decide +kernel) (fun _ _ _ h => h) (Or.inr ⟨by rfl, rfl⟩) (by assumption) ?_
              | refine wpAnyH_take (i := 43) (v := undef) rfl (by kernel_rfl) (by kernel_rfl) (by decide +kernel) (fun _ _ _ h => h) (Or.inr ⟨by rfl, rfl⟩) (by assumption) ?_
              | refine wpAnyH_take (i := 44) (v := undef) rfl (by kernel_rfl) (by kernel_rfl) (by decide +kernel) (fun _ _ _ h => h) (Or.inr ⟨by rfl, rfl⟩) (by assumption) ?_
              | refine wpAnyH_take (i := 45) (v := undef) rfl (by kernel_rfl) (by kernel_rfl) (by decide +kernel) (fun _ _ _ h => h) (Or.inr ⟨by rfl, rfl⟩) (by assumption) ?_
              | refine wpAnyH_take (i := 46) (v := undef) rfl (by kernel_rfl) (by kernel_rfl) (by decide +kernel) (fun _ _ _ h => h) (Or.inr ⟨by rfl, rfl⟩) (by assumption) ?_
              | refine wpAnyH_take (i := 47) (v := undef) rfl (by kernel_rfl) (by kernel_rfl) (by decide +kernel) (fun _ _ _ h => h) (Or.inr ⟨by rfl, rfl⟩) (by assumption) ?_
              | refine wpAnyH_take (i := 48) (v := undef) rfl (by kernel_rfl) (by kernel_rfl) (by decide +kernel) (fun _ _ _ h => h) (Or.inr ⟨by rfl, rfl⟩) (by assumption) ?_)
            simp only [List.getElem_toArray, List.getElem_cons_succ, List.getElem_cons_zero, Act.put, List.setIfInBounds_toArray, List.set_cons_succ, List.set_cons_zero])
          iterate 2 (
            (first
              | refine wpAnyH_take (i := 49) (v := ?_) rfl (by kernel_rfl) (by kernel_rfl) (by decide +kernel) (fun _ _ _ h => h) (Or.inl ⟨by rfl, ?hy⟩) (by assumption) ?_
              | refine wpAnyH_take (i := 50) (v := ?_) rfl (by kernel_rfl) (by kernel_rfl) (by decide +kernel) (fun _ _ _ h => h) (Or.inl ⟨by rfl, ?hy⟩) (by assumption) ?_)
            case hy => (intro w hSw; (try dsimp only at hSw); go_simp; try with_reducible rfl)
            simp only [List.getElem_toArray, List.getElem_cons_succ, List.getElem_cons_zero, Act.put, List.setIfInBounds_toArray, List.set_cons_succ, List.set_cons_zero])
          refine wpAnyH_done (by kernel_rfl) ?_ _
          all_goals go_wp2_with fail
          all_goals go_meet
          all_goals exact ⟨rfl, by assumption⟩
        case true =>
          obtain ⟨rfl, rfl⟩ := HLf.out rfl
          try simp only [List.append_eq, List.cons_append, List.nil_append]
          go_region_held3 (fun W => (W.cell? ⟨ga, oa + m * 8, none⟩ = some (.int .i64 x0) ∧ W.cell? ⟨ga, oa + m * 8 + 1, none⟩ = some (.int .i64 x1) ∧ W.cell? ⟨ga, oa + m * 8 + 2, none⟩ = some (.int .i64 x2) ∧ W.cell? ⟨ga, oa + m * 8 + 3, none⟩ = some (.string S3) ∧ W.cell? ⟨ga, oa + m * 8 + 4, none⟩ = some (.string S4) ∧ W.cell? ⟨ga, oa + m * 8 + 5, none⟩ = some (.int .i64 x5) ∧ W.cell? ⟨ga, oa + m * 8 + 6, none⟩ = some (.int .i64 x6) ∧ W.cell? ⟨ga, oa + m * 8 + 7, none⟩ = some (.int .i64 x7)) ∧ W.cell? ⟨gb, ob + n * 8, none⟩ = some (.int .i64 y0) ∧ W.cell? ⟨gb, ob + n * 8 + 1, none⟩ = some (.int .i64 y1) ∧ W.cell? ⟨gb, ob + n * 8 + 2, none⟩ = some (.int .i64 y2) ∧ W.cell? ⟨gb, ob + n * 8 + 3, none⟩ = some (.string T3) ∧ W.cell? ⟨gb, ob + n * 8 + 4, none⟩ = some (.string T4) ∧ W.cell? ⟨gb, ob + n * 8 + 5, none⟩ = some (.int .i64 y5) ∧ W.cell? ⟨gb, ob + n * 8 + 6, none⟩ = some (.int .i64 y6) ∧ W.cell? ⟨gb, ob + n * 8 + 7, none⟩ = some (.int .i64 y7)) (first | exact HK.out _ (by assumption) | go_keep) (first
            | (go_at_call 43; with_reducible refine (K2.out _).mono ?_; rintro e w7 ⟨rfl, hhw7⟩; have hBw7 := below_step (by first | assumption | exact hbD.out) hhw7)
            | (go_at_call 42; with_reducible refine (K3.out _).mono ?_; rintro e w8 ⟨rfl, hhw8⟩; have hBw8 := below_step (by first | assumption | exact hbD.out) hhw8)
            | (go_at_call 42; with_reducible refine (K4.out _).mono ?_; rintro e w9 ⟨rfl, hhw9⟩; have hBw9 := below_step (by first | assumption | exact hbD.out) hhw9)
            | (go_at_call 42; with_reducible refine (K5.out _).mono ?_; rintro e w10 ⟨rfl, hhw10⟩; have hBw10 := below_step (by first | assumption | exact hbD.out) hhw10))
          all_goals go_wp2_with fail
          all_goals go_meet
          all_goals exact ⟨rfl, by assumption⟩
      obtain ⟨rfl, hbz⟩ := hcut
      clear k0 k1 k2 k3 k4 k5 k6 k7 m0 m1 m2 m3 m4 m5 m6 m7 hbD
      go_wp2_with fail
      exact ⟨⟨n + 1, by go_num, by omega, by omega, hbz⟩, by simp [intOf]; omega⟩
theorem lawTx_any (v u : Value) (a b : List Sx) (w : World) (h : XsAt w v a) (h2 : XsAt w u b) (hi : InX a) (hi2 : InX b) (hr : IrX a) (hr2 : IrX b) (T : XTabs w) :
    Calls Tryz.prog 7 #[v, u] w fun e w' => e = .returned (.bool true) ∧ Below w.heap.size w w' := by
  obtain ⟨av, ca, rfl, _⟩ := h.slice
  obtain ⟨bv, cb, rfl, _⟩ := h2.slice
  exact lawTx_go a.length b.length av bv ca cb a b _ _ _ _ _ _ w h h2 rfl rfl (farX_any _ a w h) (farX_any _ b w h2) (fun W hW => awakeX_any W (T.below hW)) (fun n1 n2 => givesTx h h2 n1.sm hi hr n2.sm hi2 hr2 T)
end Go.Proofs.YtbmgpenllpbioaaGreatDoor
