/- Contract of the reference's Int. -/
import Derived.Test.YtchnmbfeaaialaaGreatDoorInt
namespace Go.Proofs.YtchnmbfeaaialaaGreatDoor
open Go.RowKit Go.PlainAid

theorem readTo_mono {s : ByteArray} {k : Nat} : ∀ (m : Nat), k + m ≤ s.size → readTo s k ≤ readTo s (k + m) := by
  intro m
  induction m with
  | zero => intro _; exact Nat.le_refl _
  | succ m ih =>
    intro h
    have h1 := ih (by omega)
    by_cases h45 : bt s (k + m) = 45
    · rw [show k + (m + 1) = (k + m) + 1 by omega, readTo_minus (by omega) h45]; exact h1
    · rw [show k + (m + 1) = (k + m) + 1 by omega, readTo_digit (by omega) h45]; omega
theorem digL_nth {d : List UInt8} (h : digL d = true) (k : Nat) (hk : k < d.length) : 48 ≤ d[k].toNat ∧ d[k].toNat ≤ 57 := by
  have := List.all_eq_true.1 h d[k] (List.getElem_mem _)
  simp only [digB, decide_eq_true_iff] at this; omega
theorem dec_bytesL {l : List UInt8} (h : decL l = true) (k : Nat) (hl : k < l.length) : ((l[k].toNat : Int) = 45 ∧ k = 0) ∨ (48 ≤ (l[k].toNat : Int) ∧ (l[k].toNat : Int) ≤ 57) := by
  obtain ⟨h1, _, _, _⟩ := decL_form h
  cases hn : negL l
  · have e : digsL l = l := by unfold digsL; rw [hn]; rfl
    rw [e] at h1
    have := digL_nth h1 k hl; right; omega
  · match l, hl with
    | a :: r, hl =>
      have ha : a = 45 := by simpa [negL] using hn
      have e : digsL (a :: r) = r := by unfold digsL; rw [hn]; rfl
      rw [e] at h1
      match k, hl with
      | 0, _ => left; rw [List.getElem_cons_zero, ha]; exact ⟨rfl, rfl⟩
      | k + 1, hl => have := digL_nth h1 k (by simpa using hl); right; simp only [List.getElem_cons_succ]; omega
/-- The bytes of a decimal form: a minus sign at its beginning, else digits. -/
theorem dec_bytes {s : ByteArray} (h : decL s.data.toList = true) (k : Nat) (hk : k < s.size) : (bt s k = 45 ∧ k = 0) ∨ (48 ≤ bt s k ∧ bt s k ≤ 57) := by
  rw [bt_nth s k hk]; exact dec_bytesL h k _
theorem negL_at (l : List UInt8) (h : 0 < l.length) : negL l = decide ((l[0].toNat : Int) = 45) := by
  match l, h with
  | a :: r, _ =>
    rw [Bool.eq_iff_iff, decide_eq_true_iff]
    simp only [negL, List.head?_cons, beq_iff_eq, Option.some.injEq, List.getElem_cons_zero]
    exact ⟨fun e => by rw [e]; rfl, fun e => u8_eq (n := 45) (by omega)⟩
theorem filter_digs {d : List UInt8} (h : digL d = true) : (d.filter fun c => !(c == 45)) = d := by
  rw [List.filter_eq_self]
  intro c hc
  have := List.all_eq_true.1 h c hc
  simp only [digB, decide_eq_true_iff] at this
  simp; intro e; subst e; simp at this
theorem dec_valL {l : List UInt8} (h : decL l = true) : valL l = if negL l then -(numFrom 0 (l.filter fun c => !(c == 45)) : Int) else numFrom 0 (l.filter fun c => !(c == 45)) := by
  obtain ⟨h1, _, _, _⟩ := decL_form h
  match l with
  | [] => rfl
  | a :: r =>
    cases hn : negL (a :: r)
    · have e : digsL (a :: r) = a :: r := by unfold digsL; rw [hn]; rfl
      rw [e] at h1
      unfold valL
      rw [hn, e, filter_digs h1]
    · have ha : a = 45 := by simpa [negL] using hn
      have e : digsL (a :: r) = r := by unfold digsL; rw [hn]; rfl
      rw [e] at h1
      unfold valL
      rw [hn, e, List.filter_cons, ha, filter_digs h1]
      rfl
theorem dec_pos {s : ByteArray} (h : decL s.data.toList = true) : 0 < s.size := by
  rcases Nat.eq_zero_or_pos s.size with h0 | h0
  · have : s.data.toList = [] := List.eq_nil_of_length_eq_zero (by rw [len_list]; exact h0)
    rw [this] at h; cases h
  · exact h0
theorem dec_val {s : ByteArray} (h : decL s.data.toList = true) : valL s.data.toList = if bt s 0 = 45 then -(readTo s s.size : Int) else (readTo s s.size : Int) := by
  have hs := dec_pos h
  rw [dec_valL h, negL_at _ (by rw [len_list]; exact hs), ← bt_nth s 0 hs]
  unfold readTo
  rw [List.take_of_length_le (by rw [len_list]; omega)]
  simp
theorem tdiv_bound {r d : Int} (d0 : 0 ≤ d) (d9 : d ≤ 9) : (-r < (-9223372036854775808 + d).tdiv 10) ↔ 9223372036854775808 < 10 * r + d := by
  have e : (-9223372036854775808 + d) = -(9223372036854775808 - d) := by omega
  rw [e, Int.neg_tdiv, Int.tdiv_eq_ediv_of_nonneg (by omega)]
  omega

set_option maxHeartbeats 1600000 in
theorem rint_any (s : ByteArray) (low high : Int) (w : World) (hs : s.size ≤ 1000000000) :
    Calls Tryz.prog 46 #[.string s, .int .i64 low, .int .i64 high] w (IntV s low high w) := by
  have hb := get_bt s
  have hsm : s.size ≤ maxLen := by unfold maxLen; omega
  cases hd : decB s
  · have HV : Hid (intS s.data.toList low high = (0, 6)) := Lib.hid (by unfold intS; rw [← decB_list, hd]; rfl)
    go_enter Tryz.func46, Tryz.ntmps46
    go_wp2_with (go_at_call 43; refine (decimal_any _ _ hsm).mono ?_; rintro e w' ⟨rfl, rfl⟩)
    go_ret2
    exact intV_of HV.out (Below.refl _ _)
  · have HD : Hid (decL s.data.toList = true) := Lib.hid (by rw [← decB_list, hd])
    have hpos := dec_pos HD.out
    have HV := Lib.hid (dec_val HD.out)
    have HM := Lib.hid (fun (k : Nat) (hk : k ≤ s.size) => show readTo s k ≤ readTo s s.size by have := readTo_mono (s := s) (k := k) (s.size - k) (by omega); rwa [show k + (s.size - k) = s.size by omega] at this)
    cases hm : (bt s 0 == 45)
    · go_enter Tryz.func46, Tryz.ntmps46
      go_wp2_with (go_at_call 43; refine (decimal_any _ _ hsm).mono ?_; rintro e w' ⟨rfl, rfl⟩)
      go_loop [9, 10] (fun n i => ∃ k : Nat, k ≤ s.size ∧ i = .int .i64 k ∧ n = .int .i64 (-(readTo s k : Int)) ∧ Hid (readTo s k ≤ 9223372036854775808)) (fun _ i => s.size - (intOf i).toNat)
      case atStart => exact ⟨0, by omega, rfl, rfl, Lib.hid (by unfold readTo; simp [numFrom])⟩
      case round =>
        obtain ⟨k, hk, rfl, rfl, hr⟩ := hrel
        by_cases hlt : k < s.size
        · rcases dec_bytes HD.out k hlt with ⟨h45, hk0⟩ | ⟨hb1, hb2⟩
          · have hq : (bt s k == 45) = true := by rw [beq_iff_eq]; exact h45
            have HK := Lib.hid (readTo_minus hlt h45)
            clear h45 hk0
            go_wp2
            go_round
            case rel => exact ⟨k + 1, by omega, by go_num, by rw [HK.out], Lib.hid (by rw [HK.out]; exact hr.out)⟩
            case measure => simp [intOf]; omega
          · have hq : (bt s k == 45) = false := beq_eq_false_iff_ne.mpr (by omega)
            have HK := Lib.hid (readTo_digit hlt (by omega))
            obtain ⟨r, hr0⟩ : ∃ r : Int, r = (readTo s k : Int) := ⟨_, rfl⟩
            have r0 : 0 ≤ r := by omega
            have r1 : r ≤ 9223372036854775808 := by have := hr.out; omega
            rw [← hr0]
            have TB := tdiv_bound (r := r) (d := bt s k - 48) (by omega) (by omega)
            by_cases hov : 9223372036854775808 < 10 * r + (bt s k - 48)
            · have ht : -r < (-9223372036854775808 + (bt s k - 48)).tdiv 10 := TB.2 hov
              have HI : Hid (intS s.data.toList low high = (0, 7)) := Lib.hid (by
                have h1 := HM.out (k + 1) (by omega)
                have h2 := HK.out
                unfold intS
                rw [if_pos HD.out, if_neg (fun hf => ?_)]
                have hf1 := hf.1
                rw [HV.out] at hf1
                unfold fits at hf1
                split at hf1 <;> omega)
              clear TB hr0
              go_wp2
              go_ret2
              exact intV_of HI.out (Below.refl _ _)
            · have ht : (-9223372036854775808 + (bt s k - 48)).tdiv 10 ≤ -r := by
                rcases Int.lt_or_le (-r) ((-9223372036854775808 + (bt s k - 48)).tdiv 10) with h | h
                · exact absurd (TB.1 h) hov
                · exact h
              have hlo : -9223372036854775808 ≤ 10 * -r - (bt s k - 48) := by omega
              have HR := Lib.hid hr0
              clear hr0 TB
              go_wp2
              go_round
              case rel => exact ⟨k + 1, by omega, by go_num, by have := HK.out; have := HR.out; go_num, Lib.hid (by have := HK.out; have := HR.out; omega)⟩
              case measure => simp [intOf]; omega
        · have HK : Hid (k = s.size) := Lib.hid (by omega)
          obtain ⟨r, hr0⟩ : ∃ r : Int, r = (readTo s k : Int) := ⟨_, rfl⟩
          have r0 : 0 ≤ r := by omega
          have r1 : r ≤ 9223372036854775808 := by have := hr.out; omega
          rw [← hr0]
          have HI : Hid (intS s.data.toList low high = if r ≤ 9223372036854775807 ∧ low ≤ r ∧ r ≤ high then (r, 0) else (0, 7)) := Lib.hid (by
            have h1 := HK.out
            unfold intS
            rw [if_pos HD.out, HV.out, if_neg (show ¬ bt s 0 = 45 from beq_eq_false_iff_ne.mp hm), ← h1, ← hr0]
            have : fits r ↔ r ≤ 9223372036854775807 := by unfold fits; omega
            simp only [this])
          clear hr0 hr
          by_cases hmax : r = 9223372036854775808
          · have hq : (-r == -9223372036854775808) = true := by rw [hmax]; rfl
            have HX := Lib.hid hmax
            clear hmax
            go_wp2
            all_goals go_ret2
            all_goals exact intV_of (by rw [HI.out, if_neg (by have := HX.out; omega)]) (Below.refl _ _)
          · have r2 : r ≤ 9223372036854775807 := by omega
            have hq : (-r == -9223372036854775808) = false := beq_eq_false_iff_ne.mpr (by omega)
            clear hmax r1
            by_cases h1 : r < low
            · go_wp2
              all_goals go_ret2
              all_goals exact intV_of (by rw [HI.out, if_neg (by omega)]) (Below.refl _ _)
            · by_cases h2 : high < r
              · go_wp2
                all_goals go_ret2
                all_goals exact intV_of (by rw [HI.out, if_neg (by omega)]) (Below.refl _ _)
              · go_wp2
                all_goals go_ret2
                all_goals first | (exfalso; omega) | exact intV_of (by rw [HI.out, if_pos (by omega)]) (Below.refl _ _)
    · go_enter Tryz.func46, Tryz.ntmps46
      go_wp2_with (go_at_call 43; refine (decimal_any _ _ hsm).mono ?_; rintro e w' ⟨rfl, rfl⟩)
      go_loop [9, 10] (fun n i => ∃ k : Nat, k ≤ s.size ∧ i = .int .i64 k ∧ n = .int .i64 (-(readTo s k : Int)) ∧ Hid (readTo s k ≤ 9223372036854775808)) (fun _ i => s.size - (intOf i).toNat)
      case atStart => exact ⟨0, by omega, rfl, rfl, Lib.hid (by unfold readTo; simp [numFrom])⟩
      case round =>
        obtain ⟨k, hk, rfl, rfl, hr⟩ := hrel
        by_cases hlt : k < s.size
        · rcases dec_bytes HD.out k hlt with ⟨h45, hk0⟩ | ⟨hb1, hb2⟩
          · have hq : (bt s k == 45) = true := by rw [beq_iff_eq]; exact h45
            have HK := Lib.hid (readTo_minus hlt h45)
            clear h45 hk0
            go_wp2
            go_round
            case rel => exact ⟨k + 1, by omega, by go_num, by rw [HK.out], Lib.hid (by rw [HK.out]; exact hr.out)⟩
            case measure => simp [intOf]; omega
          · have hq : (bt s k == 45) = false := beq_eq_false_iff_ne.mpr (by omega)
            have HK := Lib.hid (readTo_digit hlt (by omega))
            obtain ⟨r, hr0⟩ : ∃ r : Int, r = (readTo s k : Int) := ⟨_, rfl⟩
            have r0 : 0 ≤ r := by omega
            have r1 : r ≤ 9223372036854775808 := by have := hr.out; omega
            rw [← hr0]
            have TB := tdiv_bound (r := r) (d := bt s k - 48) (by omega) (by omega)
            by_cases hov : 9223372036854775808 < 10 * r + (bt s k - 48)
            · have ht : -r < (-9223372036854775808 + (bt s k - 48)).tdiv 10 := TB.2 hov
              have HI : Hid (intS s.data.toList low high = (0, 7)) := Lib.hid (by
                have h1 := HM.out (k + 1) (by omega)
                have h2 := HK.out
                unfold intS
                rw [if_pos HD.out, if_neg (fun hf => ?_)]
                have hf1 := hf.1
                rw [HV.out] at hf1
                unfold fits at hf1
                split at hf1 <;> omega)
              clear TB hr0
              go_wp2
              go_ret2
              exact intV_of HI.out (Below.refl _ _)
            · have ht : (-9223372036854775808 + (bt s k - 48)).tdiv 10 ≤ -r := by
                rcases Int.lt_or_le (-r) ((-9223372036854775808 + (bt s k - 48)).tdiv 10) with h | h
                · exact absurd (TB.1 h) hov
                · exact h
              have hlo : -9223372036854775808 ≤ 10 * -r - (bt s k - 48) := by omega
              have HR := Lib.hid hr0
              clear hr0 TB
              go_wp2
              go_round
              case rel => exact ⟨k + 1, by omega, by go_num, by have := HK.out; have := HR.out; go_num, Lib.hid (by have := HK.out; have := HR.out; omega)⟩
              case measure => simp [intOf]; omega
        · have HK : Hid (k = s.size) := Lib.hid (by omega)
          obtain ⟨r, hr0⟩ : ∃ r : Int, r = (readTo s k : Int) := ⟨_, rfl⟩
          have r0 : 0 ≤ r := by omega
          have r1 : r ≤ 9223372036854775808 := by have := hr.out; omega
          rw [← hr0]
          have HI : Hid (intS s.data.toList low high = if low ≤ -r ∧ -r ≤ high then (-r, 0) else (0, 7)) := Lib.hid (by
            have h1 := HK.out
            unfold intS
            rw [if_pos HD.out, HV.out, if_pos (show bt s 0 = 45 from beq_iff_eq.mp hm), ← h1, ← hr0]
            have : fits (-r) ↔ True := ⟨fun _ => trivial, fun _ => ⟨by omega, by omega⟩⟩
            simp only [this, true_and])
          clear hr0 hr
          by_cases h1 : -r < low
          · go_wp2
            all_goals go_ret2
            all_goals exact intV_of (by rw [HI.out, if_neg (by omega)]) (Below.refl _ _)
          · by_cases h2 : high < -r
            · go_wp2
              all_goals go_ret2
              all_goals exact intV_of (by rw [HI.out, if_neg (by omega)]) (Below.refl _ _)
            · go_wp2
              all_goals go_ret2
              all_goals first | (exfalso; omega) | exact intV_of (by rw [HI.out, if_pos (by omega)]) (Below.refl _ _)
end Go.Proofs.YtchnmbfeaaialaaGreatDoor
