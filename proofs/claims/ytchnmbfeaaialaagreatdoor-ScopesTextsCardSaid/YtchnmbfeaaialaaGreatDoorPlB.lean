/- The reference's next. -/
import Derived.Test.YtchnmbfeaaialaaGreatDoorPlA
import Derived.Deep.QuietTactic
import Derived.BigQuiet
namespace Go.Proofs.YtchnmbfeaaialaaGreatDoor
open Go.RowKit Go.PlainAid

theorem trimR_drop {l : List UInt8} {c : UInt8} : Lib.trimRightB (l ++ [c]) c = Lib.trimRightB l c := by
  unfold Lib.trimRightB
  rw [List.reverse_append, List.reverse_singleton, List.singleton_append, List.dropWhile_cons_of_pos (by simp)]
theorem trimR_keep {l : List UInt8} {c d : UInt8} (h : d ≠ c) : Lib.trimRightB (l ++ [d]) c = l ++ [d] := by
  unfold Lib.trimRightB
  rw [List.reverse_append, List.reverse_singleton, List.singleton_append, List.dropWhile_cons_of_neg (by simpa using h)]
  simp
/-- The bytes behind the first j are all 9. -/
def NinesAt (s : List UInt8) (j : Nat) : Prop := Lib.trimRightB s 57 = Lib.trimRightB (s.take j) 57
theorem nines_start (s : List UInt8) : NinesAt s s.length := by unfold NinesAt; rw [List.take_length]
theorem take_snoc {s : List UInt8} {p : Nat} {c : UInt8} (h : s[p]? = some c) : s.take (p + 1) = s.take p ++ [c] := by
  rw [List.take_add_one, h]; rfl
theorem nines_step {s : List UInt8} {p : Nat} (h : NinesAt s (p + 1)) (hc : s[p]? = some 57) : NinesAt s p := by
  unfold NinesAt at *; rw [h, take_snoc hc, trimR_drop]
theorem nines_zero {s : List UInt8} (h : NinesAt s 0) : succL s = 49 :: List.replicate s.length 48 := succ_nil (by unfold NinesAt at h; rw [h]; rfl)
theorem nines_stop {s : List UInt8} {p : Nat} {c : UInt8} (h : NinesAt s (p + 1)) (hc : s[p]? = some c) (hne : c ≠ 57) : succL s = s.take p ++ [c + 1] ++ List.replicate (s.length - (p + 1)) 48 := by
  have hlt := (List.getElem?_eq_some_iff.1 hc).1
  have hH : Lib.trimRightB s 57 = s.take (p + 1) := by
    unfold NinesAt at h; rw [h, take_snoc hc, trimR_keep hne]
  have hl : (s.take (p + 1)).length = p + 1 := by rw [List.length_take]; omega
  rw [succ_cons hH hl, List.take_take, Nat.min_eq_left (by omega)]
  congr 4
  rw [List.getD, List.getElem?_take_of_lt (by omega), hc]; rfl
theorem zero_snoc (c : Nat) : str (List.replicate c 48) ++ ⟨#[48]⟩ = str (List.replicate (c + 1) 48) := by
  rw [show (⟨#[48]⟩ : ByteArray) = str [48] from rfl, str_cat, List.replicate_succ']

set_option maxRecDepth 50000 in
set_option maxHeartbeats 1600000 in
theorem next_any (s : List UInt8) (w : World) (hs : s.length ≤ 100000) : Calls Tryz.prog 45 #[.string (str s)] w fun e w' => e = .returned (.string (str (succL s))) ∧ Below w.heap.size w w' := by
  have hz := str_size s
  have hb := get_bt (str s)
  have HBT : Hid (∀ p, p < s.length → ∃ c, s[p]? = some c ∧ bt (str s) p = (c.toNat : Int)) := Lib.hid fun p hp => ⟨_, List.getElem?_eq_getElem hp, bt_str s p hp⟩
  have HEX : Hid (∀ p, (str s).extract 0 p = str (s.take p)) := Lib.hid fun p => by
    rw [← str_data ((str s).extract 0 p), Lib.extract_data, str_list, List.drop_zero, Nat.sub_zero]
  obtain ⟨S, hS⟩ : ∃ S, str s = S := ⟨_, rfl⟩
  rw [hS] at hz hb HBT HEX ⊢
  obtain ⟨n, hn⟩ : ∃ n, s.length = n := ⟨_, rfl⟩
  have HN := Lib.hid hn
  have HST := nines_start s
  rw [hn] at hz hs HBT HST
  have HST' := Lib.hid HST
  clear hS hn HST
  go_enter Tryz.func45, Tryz.ntmps45
  go_wp2_with fail
  -- MARK1
  go_loopw [3] (fun x3 wr => ∃ (j : Nat) (v : Int), x3 = .int .i64 v ∧ v = (j : Int) - 1 ∧ j ≤ n ∧ Hid (NinesAt s j) ∧ Below w.heap.size w wr) (fun x3 _ => (intOf x3 + 1).toNat)
  case atStart => exact ⟨n, _, rfl, by omega, Nat.le_refl _, HST', Below.refl _ _⟩
  case round =>
    obtain ⟨j, v, rfl, hv, hj, HJ, hB⟩ := hrel
    cases j with
    | zero =>
      have hv1 : v = -1 := by omega
      subst hv1
      clear hv
      have HV : Hid (succL s = 49 :: List.replicate n 48) := Lib.hid (by rw [← HN.out]; exact nines_zero HJ.out)
      go_wp2_with fail
      go_loopw [4, 5] (fun x4 x5 wr => ∃ (c : Nat) (Z : ByteArray), x4 = .string Z ∧ x5 = .int .i64 (c : Int) ∧ c ≤ n ∧ Hid (Z = str (List.replicate c 48)) ∧ Below w.heap.size w wr) (fun _ x5 _ => n - (intOf x5).toNat)
      case atStart => exact ⟨0, _, rfl, rfl, Nat.zero_le _, Lib.hid rfl, hB⟩
      case round =>
        obtain ⟨c, Z, rfl, rfl, hc, HZ, hB2⟩ := hrel
        have hzz : Z.size = c := by rw [HZ.out, str_size, List.length_replicate]
        have ho : ∀ W, (Op.stringOp .add Z ⟨#[48]⟩).run Tryz.prog W = .ok (.string (Z ++ ⟨#[48]⟩)) W := fun W => run_string_add_sum W _ _ (by rw [hzz]; show c + 1 ≤ _; omega)
        have ho2 : ∀ W, (Op.stringOp .add ⟨#[49]⟩ Z).run Tryz.prog W = .ok (.string (⟨#[49]⟩ ++ Z)) W := fun W => run_string_add_sum W _ _ (by rw [hzz]; show 1 + c ≤ _; omega)
        clear hzz
        by_cases hlt : c < n
        · have hlt' : (c : Int) < (n : Int) := by omega
          go_wp2_with fail
          exact ⟨⟨c + 1, _, rfl, by go_num, by omega, Lib.hid (by rw [HZ.out]; exact zero_snoc c), hB2⟩, by simp [intOf]; omega⟩
        · obtain rfl : c = n := by omega
          go_wp2_with fail
          go_ret
          refine ⟨ret_str ?_, hB2⟩
          rw [HV.out, HZ.out, show (⟨#[49]⟩ : ByteArray) = str [49] from rfl, str_cat]; rfl
    | succ p =>
      have hv1 : v = (p : Int) := by omega
      subst hv1
      clear hv
      obtain ⟨c, hc, hbt⟩ := HBT.out p (by omega)
      have hp0 : (0 : Int) ≤ (p : Int) ∧ (p : Int) < (n : Int) ∧ (p : Int) ≤ (n : Int) := by omega
      by_cases h9 : c = 57
      · subst h9
        have HJ2 := Lib.hid (nines_step HJ.out hc)
        have hbe : (bt S p == 57) = true := by rw [hbt]; rfl
        clear hbt hc
        go_wp2_with fail
        exact ⟨⟨p, _, rfl, by omega, by omega, HJ2, hB⟩, by first | (simp [intOf]; done) | (simp [intOf]; omega)⟩
      · have HV := Lib.hid (nines_stop HJ.out hc h9)
        rw [HN.out] at HV
        have hbe : (bt S p == 57) = false := by
          rw [hbt, beq_eq_false_iff_ne]; intro e
          apply h9; apply UInt8.toNat_inj.1
          have : (57 : UInt8).toNat = 57 := rfl
          omega
        have e4 : IntKind.u8.wrap (bt S p + 1) = ((c + 1).toNat : Int) := by
          rw [hbt, IntKind.wrap_u8, UInt8.toNat_add]
          have : (1 : UInt8).toNat = 1 := rfl
          rw [this]; omega
        obtain ⟨x, hx⟩ : ∃ x, c + 1 = x := ⟨_, rfl⟩
        rw [hx] at e4 HV
        have hex := HEX.out p
        have hzt : (str (s.take p)).size = p := by rw [str_size, List.length_take, HN.out]; omega
        obtain ⟨T, hT⟩ : ∃ T, str (s.take p) = T := ⟨_, rfl⟩
        rw [hT] at hex hzt
        have HT := Lib.hid hT
        clear hbt hc hT hx
        go_wp2_with fail
        go_loopw [4, 5] (fun x4 x5 wr => ∃ (c : Nat) (Z : ByteArray), x4 = .string Z ∧ x5 = .int .i64 ((p + 1 + c : Nat) : Int) ∧ p + 1 + c ≤ n ∧ Hid (Z = str (List.replicate c 48)) ∧ Below w.heap.size w wr) (fun _ x5 _ => n - (intOf x5).toNat)
        case atStart => exact ⟨0, _, rfl, by go_num, by omega, Lib.hid rfl, hB⟩
        case round =>
          obtain ⟨q, Z, rfl, rfl, hq, HZ, hB2⟩ := hrel
          have hzz : Z.size = q := by rw [HZ.out, str_size, List.length_replicate]
          have ho : ∀ W, (Op.stringOp .add Z ⟨#[48]⟩).run Tryz.prog W = .ok (.string (Z ++ ⟨#[48]⟩)) W := fun W => run_string_add_sum W _ _ (by rw [hzz]; show q + 1 ≤ _; omega)
          by_cases hlt : p + 1 + q < n
          · have hlt' : ((p + 1 + q : Nat) : Int) < (n : Int) := by omega
            clear hzz
            go_wp2_with fail
            exact ⟨⟨q + 1, _, rfl, by go_num, by omega, Lib.hid (by rw [HZ.out]; exact zero_snoc q), hB2⟩, by simp [intOf]; omega⟩
          · have hq2 : n - (p + 1) = q := by omega
            have hge : ¬ ((p + 1 + q : Nat) : Int) < (n : Int) := by omega
            rw [hq2] at HV
            have ho1 : ∀ W, (Op.stringOp .add T (str [x])).run Tryz.prog W = .ok (.string (T ++ str [x])) W := fun W => run_string_add_sum W _ _ (by rw [hzt, str_size]; show p + 1 ≤ _; omega)
            have ho2 : ∀ W, (Op.stringOp .add (T ++ str [x]) Z).run Tryz.prog W = .ok (.string ((T ++ str [x]) ++ Z)) W := fun W => run_string_add_sum W _ _ (by rw [ByteArray.size_append, hzt, str_size, hzz]; show p + 1 + q ≤ _; omega)
            have hcv := lit_conv x
            have hcd := lit_convD x
            clear hzz hzt
            go_wp2_with fail
            -- MARK2
            go_region
            all_goals go_wp2_with fail
            all_goals go_ret
            all_goals refine ⟨ret_str (by rw [HV.out, ← HT.out, HZ.out, str_cat, str_cat]), ?_⟩
            all_goals first | exact (hB2.alloc hB2.size _).drew | exact hB2.alloc hB2.size _ | (exact hB2.drew.alloc hB2.size _)
end Go.Proofs.YtchnmbfeaaialaaGreatDoor
