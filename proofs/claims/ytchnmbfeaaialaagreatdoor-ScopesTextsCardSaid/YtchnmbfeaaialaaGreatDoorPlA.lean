/- words.greater, words.successor; the reference's less, next. -/
import Derived.Test.YtchnmbfeaaialaaGreatDoorPlM
import Derived.Deep.RegionWith
namespace Go.Proofs.YtchnmbfeaaialaaGreatDoor
open Go.RowKit Go.PlainAid

theorem lessL_str {a b : List UInt8} : lessL a b = (if a.length = b.length then Op.bytesLess (str a).toList (str b).toList else decide ((str a).size < (str b).size)) := by
  unfold lessL
  rw [ByteArray.toList_eq, ByteArray.toList_eq, str_list, str_list, str_size, str_size]
theorem bless_flip : ∀ (a b : List UInt8), (!Op.bytesLess a b && !(a == b)) = Op.bytesLess b a := by
  intro a
  induction a with
  | nil => intro b; cases b <;> simp [Op.bytesLess]
  | cons x a ih =>
    intro b
    cases b with
    | nil => simp [Op.bytesLess]
    | cons y b =>
      have h := ih b
      simp only [Op.bytesLess]
      by_cases hxy : x < y
      · have : ¬ y < x := by rw [UInt8.lt_iff_toNat_lt] at *; omega
        have hne : ¬ y = x := fun e => by subst e; exact this hxy
        simp [hxy, this, hne]
      · by_cases hyx : y < x
        · have hne : ¬ x = y := fun e => by subst e; exact hxy hyx
          simp [hxy, hyx, hne]
        · have he : x = y := by rw [UInt8.lt_iff_toNat_lt] at *; exact UInt8.toNat_inj.1 (by omega)
          subst he
          simp [hxy, ← h]
theorem less_any (a b : List UInt8) (w : World) : Calls Tryz.prog 44 #[.string (str a), .string (str b)] w fun e w' => e = .returned (.bool (lessL a b)) ∧ w' = w := by
  rw [lessL_str]
  obtain ⟨A, hA⟩ : ∃ A, str a = A := ⟨_, rfl⟩
  obtain ⟨B, hB⟩ : ∃ B, str b = B := ⟨_, rfl⟩
  have hz1 : a.length = A.size := by rw [← hA, str_size]
  have hz2 : b.length = B.size := by rw [← hB, str_size]
  rw [hA, hB, hz1, hz2]
  clear hA hB hz1 hz2
  by_cases h : A.size = B.size
  · have hd : ((A.size : Int) != (B.size : Int)) = false := by rw [bne_eq_false_iff_eq]; omega
    rw [if_pos h]
    clear h
    go_enter Tryz.func44, Tryz.ntmps44
    go_wp2_with fail
    go_ret
    exact ⟨rfl, rfl⟩
  · have hd : ((A.size : Int) != (B.size : Int)) = true := by rw [bne_iff_ne]; omega
    rw [if_neg h]
    clear h
    go_enter Tryz.func44, Tryz.ntmps44
    go_wp2_with fail
    go_ret
    exact ⟨rfl, rfl⟩
theorem greater_any (a b : List UInt8) (w : World) : Calls Tryz.prog 39 #[.string (str a), .string (str b)] w fun e w' => e = .returned (.bool (lessL b a)) ∧ w' = w := by
  rw [lessL_str]
  obtain ⟨A, hA⟩ : ∃ A, str a = A := ⟨_, rfl⟩
  obtain ⟨B, hB⟩ : ∃ B, str b = B := ⟨_, rfl⟩
  have hz1 : a.length = A.size := by rw [← hA, str_size]
  have hz2 : b.length = B.size := by rw [← hB, str_size]
  rw [hA, hB, hz1, hz2]
  clear hA hB hz1 hz2
  by_cases h : B.size = A.size
  · have hd : ((A.size : Int) != (B.size : Int)) = false := by rw [bne_eq_false_iff_eq]; omega
    rw [if_pos h, ← bless_flip]
    clear h
    go_enter Tryz.func39, Tryz.ntmps39
    go_wp2_with fail
    go_ret
    exact ⟨rfl, rfl⟩
  · have hd : ((A.size : Int) != (B.size : Int)) = true := by rw [bne_iff_ne]; omega
    rw [if_neg h]
    clear h
    go_enter Tryz.func39, Tryz.ntmps39
    go_wp2_with fail
    go_ret
    exact ⟨rfl, rfl⟩

theorem rep_zeros (n : Nat) : (⟨(Lib.repeatL (⟨#[48]⟩ : ByteArray).data.toList n).toArray⟩ : ByteArray) = str (List.replicate n 48) := by
  have : ∀ n, Lib.repeatL [48] n = List.replicate n (48 : UInt8) := by
    intro n
    induction n with
    | zero => rfl
    | succ n ih => rw [Lib.repeatL, ih]; rfl
  rw [show (⟨#[48]⟩ : ByteArray).data.toList = [48] from rfl, this]; rfl
theorem trimR_len (s : List UInt8) (c : UInt8) : (Lib.trimRightB s c).length ≤ s.length := by
  unfold Lib.trimRightB
  rw [List.length_reverse]
  have := (List.dropWhile_sublist (fun x => x == c) (l := s.reverse)).length_le
  rw [List.length_reverse] at this; exact this
theorem succ_nil {s : List UInt8} (h : Lib.trimRightB s 57 = []) : succL s = 49 :: List.replicate s.length 48 := by
  unfold succL; simp only [h, if_true, List.length_nil, Nat.sub_zero]
theorem succ_cons {s H : List UInt8} {m : Nat} (h : Lib.trimRightB s 57 = H) (hm : H.length = m + 1) :
    succL s = H.take m ++ [H.getD m 0 + 1] ++ List.replicate (s.length - (m + 1)) 48 := by
  have hne : H ≠ [] := fun e => by rw [e] at hm; simp at hm
  unfold succL
  simp only [h]
  rw [if_neg hne, hm, Nat.add_sub_cancel]
theorem succL_len (s : List UInt8) : (succL s).length ≤ s.length + 1 := by
  obtain ⟨H, hH⟩ : ∃ H, Lib.trimRightB s 57 = H := ⟨_, rfl⟩
  have hl : H.length ≤ s.length := by rw [← hH]; exact trimR_len s 57
  cases hm : H.length with
  | zero =>
    rw [succ_nil (by rw [hH]; exact List.eq_nil_of_length_eq_zero hm)]; simp
  | succ m =>
    rw [succ_cons hH hm]
    simp only [List.length_append, List.length_take, List.length_cons, List.length_nil, List.length_replicate]
    omega

set_option maxRecDepth 50000 in
set_option maxHeartbeats 1600000 in
theorem succ_any (s : List UInt8) (w : World) (hs : s.length ≤ 100000) : Calls Tryz.prog 60 #[.string (str s)] w fun e w' => e = .returned (.string (str (succL s))) ∧ Below w.heap.size w w' := by
  obtain ⟨H, hH⟩ : ∃ H, Lib.trimRightB s 57 = H := ⟨_, rfl⟩
  have hl : H.length ≤ s.length := by rw [← hH]; exact trimR_len s 57
  have CT : Hid (∀ W, Calls Tryz.prog 81 #[.string (str s), .string ⟨#[57]⟩] W fun e w' => e = .returned (.string (str H)) ∧ w' = W) := Lib.hid fun W => by
    have h := Tryz.strings_TrimRight_one (str s) 57 (by decide) W (by rw [str_size]; omega)
    rw [str_list, hH] at h; exact h
  have CR : Hid (∀ (n : Nat) W, n ≤ 100000 → Calls Tryz.prog 82 #[.string ⟨#[48]⟩, .int .i64 n] W fun e w' => e = .returned (.string (str (List.replicate n 48))) ∧ Below W.heap.size W w') := Lib.hid fun n W hn => by
    have h := Tryz.strings_Repeat ⟨#[48]⟩ n W (by omega) (by show 1 * n ≤ _; omega)
    rw [rep_zeros] at h; exact h
  have hz1 := str_size s
  have hz2 := str_size H
  cases hm : H.length with
  | zero =>
    have HV : Hid (succL s = 49 :: List.replicate s.length 48) := Lib.hid (succ_nil (by rw [hH]; exact List.eq_nil_of_length_eq_zero hm))
    rw [hm] at hz2
    obtain ⟨n, hn⟩ : ∃ n, s.length = n := ⟨_, rfl⟩
    rw [hn] at hz1 hs HV
    have ho : ∀ W, (Op.stringOp .add ⟨#[49]⟩ (str (List.replicate n 48))).run Tryz.prog W = .ok (.string (⟨#[49]⟩ ++ str (List.replicate n 48))) W := fun W => run_string_add_sum W _ _ (by rw [str_size, List.length_replicate]; show 1 + n ≤ _; omega)
    clear hH hm hl hn
    go_enter Tryz.func60, Tryz.ntmps60
    go_wp2_with (first | (go_at_call 81; refine (CT.out _).mono ?_; rintro e w1 ⟨rfl, rfl⟩) | (go_at_call 82; refine (CR.out n _ hs).mono ?_; rintro e w2 ⟨rfl, hb2⟩))
    -- MARK1
    go_ret
    refine ⟨ret_str ?_, hb2⟩
    rw [HV.out, show (⟨#[49]⟩ : ByteArray) = str [49] from rfl, str_cat]; rfl
  | succ m =>
    have HV := Lib.hid (succ_cons hH hm)
    rw [hm] at hz2 hl
    obtain ⟨n, hn⟩ : ∃ n, s.length = n := ⟨_, rfl⟩
    rw [hn] at hz1 hs HV hl
    obtain ⟨x, hx⟩ : ∃ x, H.getD m 0 + 1 = x := ⟨_, rfl⟩
    rw [hx] at HV
    have hbm : bt (str H) m = ((H.getD m 0).toNat : Int) := by
      rw [bt_str H m (by omega), List.getD, List.getElem?_eq_getElem (by omega)]; rfl
    have e4 : IntKind.u8.wrap (bt (str H) m + 1) = (x.toNat : Int) := by
      rw [hbm, IntKind.wrap_u8, ← hx, UInt8.toNat_add]
      have : (1 : UInt8).toNat = 1 := rfl
      rw [this]; omega
    have hex : (str H).extract 0 m = str (H.take m) := by
      rw [← str_data ((str H).extract 0 m), Lib.extract_data, str_list, List.drop_zero, Nat.sub_zero]
    have hzt : (str (H.take m)).size = m := by rw [str_size, List.length_take]; omega
    have hb := get_bt (str H)
    obtain ⟨S, hS⟩ : ∃ S, str H = S := ⟨_, rfl⟩
    rw [hS] at hz2 hb hex e4 CT
    obtain ⟨T, hT⟩ : ∃ T, str (H.take m) = T := ⟨_, rfl⟩
    rw [hT] at hex hzt
    have hidx : (0 : Int) ≤ (m : Int) ∧ (m : Int) < (m : Int) + 1 ∧ (m : Int) ≤ (m : Int) + 1 := by omega
    have hcv := lit_conv x
    have hcd := lit_convD x
    have ho1 : ∀ W, (Op.stringOp .add T (str [x])).run Tryz.prog W = .ok (.string (T ++ str [x])) W := fun W => run_string_add_sum W _ _ (by rw [hzt, str_size]; show m + 1 ≤ _; omega)
    have hn2 : ((n : Int) - ((m : Int) + 1)) = ((n - (m + 1) : Nat) : Int) := by omega
    obtain ⟨q, hq⟩ : ∃ q, n - (m + 1) = q := ⟨_, rfl⟩
    rw [hq] at hn2 HV
    have hq1 : q ≤ 100000 := by omega
    have ho2 : ∀ W, (Op.stringOp .add (T ++ str [x]) (str (List.replicate q 48))).run Tryz.prog W = .ok (.string ((T ++ str [x]) ++ str (List.replicate q 48))) W := fun W => run_string_add_sum W _ _ (by rw [ByteArray.size_append, hzt, str_size, str_size, List.length_replicate]; show m + 1 + q ≤ _; omega)
    have HT := Lib.hid hT
    clear hH hm hn hbm hS hT hx
    go_enter Tryz.func60, Tryz.ntmps60
    go_wp2_with (first | (go_at_call 81; refine (CT.out _).mono ?_; rintro e w1 ⟨rfl, rfl⟩))
    -- MARK2
    go_region_with (go_at_call 82; refine (CR.out q _ hq1).mono ?_; rintro e w2 ⟨rfl, hb2⟩; try (have hc1 := conv_lit_below (x := x) rfl hb2))
    -- MARK3
    all_goals go_wp2
    all_goals go_ret
    all_goals refine ⟨ret_str (by rw [HV.out, ← HT.out, str_cat, str_cat]), ?_⟩
    all_goals first | exact (((Below.refl _ _).drew).trans hb2).alloc (by have := hb2.size; simp at *; omega) _ | exact ((((Below.refl _ _).alloc (Nat.le_refl _) _).drew).trans (hb2.mono (by simp)))
end Go.Proofs.YtchnmbfeaaialaaGreatDoor
