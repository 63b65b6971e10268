/- Contracts of words.Digits and the reference's Digits. -/
import Derived.Test.YtbmgpenllpbioaaGreatDoorShelf
import Derived.Test.YtbmgpenllpbioaaGreatDoorZa
import Derived.WalkSmall
import Derived.WalkLawsBesides
import Derived.WalkSpells
import Derived.Lib.ItoaMem
import Derived.Lib.ItoaLen
import Derived.Lib.AppendIntMem
import Derived.Deep.RegionWith
namespace Go.Proofs.YtbmgpenllpbioaaGreatDoor
open Go.RowKit Go.PlainAid
theorem str_cat (a b : List UInt8) : str a ++ str b = str (a ++ b) := by
  apply ByteArray.ext; simp [str]
theorem lit_conv (x : UInt8) (W : World) : (convert 88 9 (.slice (some ⟨W.heap.size, 0, none⟩) 1 1)).run Tryz.prog (W.alloc (.cells #[.int .u8 (x.toNat : Int)] 5)) = .ok (.string (str [x])) (W.alloc (.cells #[.int .u8 (x.toNat : Int)] 5)) :=
  conv_own (l := [x]) Tryz.underlying88 Tryz.underlying5 (World.ownsRow_lit (base := 0) (e := 5) (size := 1) W #[.int .u8 (x.toNat : Int)] 1 (by omega) (by decide) rfl) 9 Tryz.underlying9
theorem cell_at {B : Nat} {W w1 : World} (hb : Below B W w1) (b : Nat) (h : b < B) : ∀ o, w1.cell? ⟨b, o, none⟩ = W.cell? ⟨b, o, none⟩ := fun o => hb.cell (p := ⟨b, o, none⟩) h
theorem frozen_at {B : Nat} {W w1 : World} (hb : Below B W w1) (b : Nat) (h : b < B) : ∀ o, w1.frozen? ⟨b, o, none⟩ = W.frozen? ⟨b, o, none⟩ := fun o => hb.frozen (p := ⟨b, o, none⟩) h
theorem cell_b {W W1 : World} {b o : Nat} (h : W1.heap[b]? = W.heap[b]?) : W1.cell? ⟨b, o, none⟩ = W.cell? ⟨b, o, none⟩ := by simp [World.cell?, h]

def PowIs (w : World) : Prop := Lib.TabIs Tryz.prog w "internal/strconv.uint64pow10" .u64 Lib.pow10Tab
theorem pow_below {B : Nat} {w w' : World} (h : PowIs w) (hb : Below B w w') (hB : 1 < B) : PowIs w' := by
  unfold PowIs Lib.TabIs at *
  exact var?_below hb (by kernel_rfl) hB h
def i64r (n : Int) : Prop := -9223372036854775808 ≤ n ∧ n ≤ 9223372036854775807

set_option maxHeartbeats 800000 in
theorem digits_any (n : Int) (w : World) (hn : i64r n) (hp : PowIs w) :
    Calls Tryz.prog 153 #[.int .i64 n] w fun e w' => e = .returned (.string (str (Lib.itoa n))) ∧ Below w.heap.size w w' := by
  have h0 := hn.1
  have h1 := hn.2
  go_enter Tryz.func153, Tryz.ntmps153
  go_wp2_with (go_at_call 102; refine (Tryz.strconv_FormatInt_10 n h0 h1 _ hp).mono ?_; rintro e w' ⟨rfl, k, os, rfl⟩)
  go_ret
  exact ⟨rfl, Lib.below_grow _ _ (Nat.le_refl _) k os⟩

theorem lit_convD (x : UInt8) (W : World) : (convert 88 9 (.slice (some ⟨W.heap.size, 0, none⟩) 1 1)).run Tryz.prog (W.alloc (.cells #[.int .u8 (x.toNat : Int)] 5)).drew = .ok (.string (str [x])) (W.alloc (.cells #[.int .u8 (x.toNat : Int)] 5)).drew :=
  conv_own (l := [x]) Tryz.underlying88 Tryz.underlying5 (World.ownsRow_lit (base := 0) (e := 5) (size := 1) W #[.int .u8 (x.toNat : Int)] 1 (by omega) (by decide) rfl).drew 9 Tryz.underlying9

theorem conv_lit_below {x : UInt8} {c : Int} {W w1 : World} (hx : (x.toNat : Int) = c) (hb : Below (W.alloc (.cells #[.int .u8 c] 5)).drew.heap.size (W.alloc (.cells #[.int .u8 c] 5)).drew w1) :
    (convert 88 9 (.slice (some ⟨W.heap.size, 0, none⟩) 1 1)).run Tryz.prog w1 = .ok (.string (str [x])) w1 := by
  subst hx
  exact conv_own (l := [x]) Tryz.underlying88 Tryz.underlying5 (own_below (World.ownsRow_lit (base := 0) (e := 5) (size := 1) W #[.int .u8 (x.toNat : Int)] 1 (by omega) (by decide) rfl).drew hb) 9 Tryz.underlying9

set_option maxHeartbeats 800000 in
theorem rdigits_small (n : Int) (w : World) (h0 : 0 ≤ n) (h9 : n ≤ 9) :
    Calls Tryz.prog 86 #[.int .i64 n] w fun e w' => e = .returned (.string (str (Lib.itoa n))) ∧ Below w.heap.size w w' := by
  obtain ⟨x, hx, E⟩ : ∃ x : UInt8, (x.toNat : Int) = 48 + n ∧ Hid (Lib.itoa n = [x]) :=
    ⟨UInt8.ofNat (48 + n.toNat), by simp; omega, Lib.hid (by unfold Lib.itoa; rw [if_neg (by omega), Lib.decDigits_one (by omega)])⟩
  have hcv := lit_conv x
  rw [hx] at hcv
  clear hx
  go_enter Tryz.func86, Tryz.ntmps86
  go_wp2
  go_ret
  exact ⟨ret_str (by rw [E.out]), (Below.refl _ _).alloc (Nat.le_refl _) _⟩

set_option maxHeartbeats 800000 in
theorem rdigits_neg (n : Int) (w : World) (h0 : n < 0) (h9 : -9 ≤ n) :
    Calls Tryz.prog 86 #[.int .i64 n] w fun e w' => e = .returned (.string (str (Lib.itoa n))) ∧ Below w.heap.size w w' := by
  have E : Hid (Lib.itoa n = [45] ++ Lib.itoa (-n)) := Lib.hid (by unfold Lib.itoa; rw [if_pos h0, if_neg (by omega), show n.natAbs = (-n).toNat by omega]; rfl)
  have hz : (str (Lib.itoa (-n))).size ≤ 21 := by rw [str_size]; exact Lib.itoa_length_le _ (by omega) (by omega)
  go_enter Tryz.func86, Tryz.ntmps86
  go_wp2_with (go_at_call 86; refine (rdigits_small (-n) _ (by omega) (by omega)).mono ?_; rintro e w' ⟨rfl, hb⟩)
  all_goals go_ret
  all_goals exact ⟨ret_str (by rw [E.out]; exact str_cat [45] _), hb⟩

set_option maxHeartbeats 1600000 in
set_option maxRecDepth 50000 in
theorem rdigits_any (f : Nat) : ∀ (n : Int) (w : World), n.natAbs ≤ f → i64r n →
    Calls Tryz.prog 86 #[.int .i64 n] w fun e w' => e = .returned (.string (str (Lib.itoa n))) ∧ Below w.heap.size w w' := by
  induction f with
  | zero => intro n w hn _; exact rdigits_small n w (by omega) (by omega)
  | succ f ih =>
    intro n w hn hr
    by_cases hs : -9 ≤ n ∧ n ≤ 9
    · by_cases h0 : 0 ≤ n
      · exact rdigits_small n w h0 hs.2
      · exact rdigits_neg n w (by omega) hs.1
    · have h0 := hr.1
      have h1 := hr.2
      by_cases hp : 9 < n
      · obtain ⟨x, hx, E⟩ : ∃ x : UInt8, (x.toNat : Int) = 48 + n % 10 ∧ Hid (Lib.itoa n = Lib.itoa (n / 10) ++ [x]) :=
          ⟨UInt8.ofNat (48 + (n % 10).toNat), by simp; omega, Lib.hid (by
            unfold Lib.itoa
            rw [if_neg (by omega), if_neg (by omega), Lib.decDigits, dif_neg (by omega), show n.toNat / 10 = (n / 10).toNat by omega, show n.toNat % 10 = (n % 10).toNat by omega])⟩
        have hz : (str (Lib.itoa (n / 10))).size ≤ 21 := by rw [str_size]; exact Lib.itoa_length_le _ (by omega) (by omega)
        have hm0 : 0 ≤ n % 10 := by omega
        have hm9 : n % 10 ≤ 9 := by omega
        have IH := Lib.hid (fun W => ih (n / 10) W (by omega) ⟨by omega, by omega⟩)
        clear ih
        have hcv := lit_conv x
        have hcd := lit_convD x
        have how := fun W : World => World.ownsRow_lit (base := 0) (e := 5) (size := 1) W #[.int .u8 (x.toNat : Int)] 1 (by omega) (by decide) rfl
        have HOW := Lib.hid how
        have HX := Lib.hid hx
        rw [hx] at hcv hcd
        clear hs how hx
        go_enter Tryz.func86, Tryz.ntmps86
        go_wp2_with (fail)
        have hz2 : (str [x]).size ≤ 1 := by rw [str_size]; exact Nat.le_refl _
        have hz3 : ¬ (9223372036854775807 < (str (Lib.itoa (n / 10))).size + (str [x]).size) := by omega
        have e1 : n.tdiv 10 = n / 10 := Int.tdiv_eq_ediv_of_nonneg (by omega)
        have e2 : IntKind.i64.wrap (n / 10) = n / 10 := IntWalk.i64_in _ ⟨by omega, by omega⟩
        have e3 : IntKind.i64.wrap (48 + n % 10) = 48 + n % 10 := IntWalk.i64_in _ ⟨by omega, by omega⟩
        have e4 : IntKind.u8.wrap (48 + n % 10) = 48 + n % 10 := by rw [IntKind.wrap_u8]; omega
        go_region_with (go_at_call 86; refine (IH.out _).mono ?_; rintro e w1 ⟨rfl, hb1⟩; try (have hc1 := conv_lit_below HX.out hb1))
        all_goals go_wp2
        all_goals go_ret
        all_goals refine ⟨ret_str (by rw [E.out]; exact str_cat _ _), ?_⟩
        all_goals first | exact (((Below.refl _ _).drew).trans hb1).alloc (by have := hb1.size; simp at *; omega) _ | exact ((((Below.refl _ _).alloc (Nat.le_refl _) _).drew).trans (hb1.mono (by simp)))
      · obtain ⟨m, rfl⟩ : ∃ m, n = -m := ⟨-n, by omega⟩
        have hm9 : 9 < m := by omega
        have hm0 : 0 ≤ m / 10 := by omega
        clear hp
        by_cases hm : m % 10 = 0
        · obtain ⟨x, hx, E⟩ : ∃ x : UInt8, (x.toNat : Int) = 48 ∧ Hid (Lib.itoa (-m) = Lib.itoa (-(m / 10)) ++ [x]) :=
            ⟨UInt8.ofNat (48 + (m % 10).toNat), by simp; omega, Lib.hid (by
              unfold Lib.itoa
              rw [if_pos (by omega), if_pos (by omega), show (-m).natAbs = m.toNat by omega, Lib.decDigits, dif_neg (by omega), show m.toNat / 10 = (-(m / 10)).natAbs by omega, show m.toNat % 10 = (m % 10).toNat by omega]; rfl)⟩
          have hz : (str (Lib.itoa (-(m / 10)))).size ≤ 21 := by rw [str_size]; exact Lib.itoa_length_le _ (by omega) (by omega)
          have IH := Lib.hid (fun W => ih (-(m / 10)) W (by omega) ⟨by omega, by omega⟩)
          clear ih
          have hcv := lit_conv x
          have hcd := lit_convD x
          have HX := Lib.hid hx
          rw [hx] at hcv hcd
          have hz2 : (str [x]).size ≤ 1 := by rw [str_size]; exact Nat.le_refl _
          have hz3 : ¬ (9223372036854775807 < (str (Lib.itoa (-(m / 10)))).size + (str [x]).size) := by omega
          have e1 : (-m).tdiv 10 = -(m / 10) := by rw [Int.neg_tdiv, Int.tdiv_eq_ediv_of_nonneg (by omega)]
          have e0 : (-m).tmod 10 = 0 := by rw [Int.neg_tmod, Int.tmod_eq_emod_of_nonneg (by omega)]; omega
          have e2 : IntKind.i64.wrap (-(m / 10)) = -(m / 10) := IntWalk.i64_in _ ⟨by omega, by omega⟩
          have e3 : IntKind.i64.wrap (48) = 48 := IntWalk.i64_in _ ⟨by omega, by omega⟩
          have e4 : IntKind.u8.wrap (48) = 48 := by rw [IntKind.wrap_u8]; omega
          clear hm
          clear hs hx
          go_enter Tryz.func86, Tryz.ntmps86
          go_wp2_with (fail)
          go_region_with (go_at_call 86; refine (IH.out _).mono ?_; rintro e w1 ⟨rfl, hb1⟩; try (have hc1 := conv_lit_below HX.out hb1))
          all_goals go_wp2
          all_goals go_ret
          all_goals refine ⟨ret_str (by rw [E.out]; exact str_cat _ _), ?_⟩
          all_goals first | exact (((Below.refl _ _).drew).trans hb1).alloc (by have := hb1.size; simp at *; omega) _ | exact ((((Below.refl _ _).alloc (Nat.le_refl _) _).drew).trans (hb1.mono (by simp)))
        · obtain ⟨x, hx, E⟩ : ∃ x : UInt8, (x.toNat : Int) = 48 + m % 10 ∧ Hid (Lib.itoa (-m) = Lib.itoa (-(m / 10)) ++ [x]) :=
            ⟨UInt8.ofNat (48 + (m % 10).toNat), by simp; omega, Lib.hid (by
              unfold Lib.itoa
              rw [if_pos (by omega), if_pos (by omega), show (-m).natAbs = m.toNat by omega, Lib.decDigits, dif_neg (by omega), show m.toNat / 10 = (-(m / 10)).natAbs by omega, show m.toNat % 10 = (m % 10).toNat by omega]; rfl)⟩
          have hz : (str (Lib.itoa (-(m / 10)))).size ≤ 21 := by rw [str_size]; exact Lib.itoa_length_le _ (by omega) (by omega)
          have IH := Lib.hid (fun W => ih (-(m / 10)) W (by omega) ⟨by omega, by omega⟩)
          clear ih
          have hcv := lit_conv x
          have hcd := lit_convD x
          have HX := Lib.hid hx
          rw [hx] at hcv hcd
          have hz2 : (str [x]).size ≤ 1 := by rw [str_size]; exact Nat.le_refl _
          have hz3 : ¬ (9223372036854775807 < (str (Lib.itoa (-(m / 10)))).size + (str [x]).size) := by omega
          have e1 : (-m).tdiv 10 = -(m / 10) := by rw [Int.neg_tdiv, Int.tdiv_eq_ediv_of_nonneg (by omega)]
          have e0 : (-m).tmod 10 = -(m % 10) := by rw [Int.neg_tmod, Int.tmod_eq_emod_of_nonneg (by omega)]
          have e2 : IntKind.i64.wrap (-(m / 10)) = -(m / 10) := IntWalk.i64_in _ ⟨by omega, by omega⟩
          have e3 : IntKind.i64.wrap (48 + m % 10) = 48 + m % 10 := IntWalk.i64_in _ ⟨by omega, by omega⟩
          have e4 : IntKind.u8.wrap (48 + m % 10) = 48 + m % 10 := by rw [IntKind.wrap_u8]; omega
          have hmp : 0 < m % 10 := by omega
          clear hs hx
          go_enter Tryz.func86, Tryz.ntmps86
          go_wp2_with (fail)
          go_region_with (go_at_call 86; refine (IH.out _).mono ?_; rintro e w1 ⟨rfl, hb1⟩; try (have hc1 := conv_lit_below HX.out hb1))
          all_goals go_wp2
          all_goals go_ret
          all_goals refine ⟨ret_str (by rw [E.out]; exact str_cat _ _), ?_⟩
          all_goals first | exact (((Below.refl _ _).drew).trans hb1).alloc (by have := hb1.size; simp at *; omega) _ | exact ((((Below.refl _ _).alloc (Nat.le_refl _) _).drew).trans (hb1.mono (by simp)))
end Go.Proofs.YtbmgpenllpbioaaGreatDoor
