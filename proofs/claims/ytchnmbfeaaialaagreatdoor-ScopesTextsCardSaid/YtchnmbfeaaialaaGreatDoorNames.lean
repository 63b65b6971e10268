/- Contracts of words.Name, words.natural and the reference's Name, decimal: loops over the bytes of a string. -/
import Derived.Test.YtchnmbfeaaialaaGreatDoorLeaf
import Derived.PlainAid
import Derived.Lib.Hide
import Derived.Deep.DeepCutAuto
namespace Go.Proofs.YtchnmbfeaaialaaGreatDoor
open Go.RowKit Go.PlainAid

def nameC (c : Int) : Bool := lowB c || digB c || decide (c = 45)
def nameB (s : ByteArray) : Bool := decide (1 ≤ s.size) && decide (s.size ≤ 16) && lowB (bt s 0) && allB nameC s

theorem nameB_long {s : ByteArray} (h : s.size < 1 ∨ 16 < s.size) : nameB s = false := by
  have e : (decide (1 ≤ s.size) && decide (s.size ≤ 16)) = false := by rw [Bool.eq_false_iff]; simp; omega
  unfold nameB; rw [e]; rfl
theorem nameB_first {s : ByteArray} (h : lowB (bt s 0) = false) : nameB s = false := by simp [nameB, h]
theorem nameB_no {s : ByteArray} {k : Nat} (h : k < s.size) (hp : nameC (bt s k) = false) : nameB s = false := by simp [nameB, allB_no h hp]
theorem nameB_yes {s : ByteArray} {k : Nat} (h1 : 1 ≤ s.size) (h2 : s.size ≤ 16) (h3 : lowB (bt s 0) = true) (hk : s.size ≤ k) (h : ∀ j, j < k → nameC (bt s j) = true) : nameB s = true := by
  simp [nameB, allB_yes hk h, h1, h2, h3]

theorem nameC_no {c : Int} (h1 : lowB c = false) (h2 : digB c = false) (h3 : (c != 45) = true) : nameC c = false := by
  simp at h3; simp [nameC, h1, h2, h3]
theorem nameC_3 {c : Int} (h3 : (c != 45) = false) : nameC c = true := by simp at h3; simp [nameC, h3]
theorem nameC_2 {c : Int} (h3 : digB c = true) : nameC c = true := by simp [nameC, h3]
theorem nameC_1 {c : Int} (h3 : lowB c = true) : nameC c = true := by simp [nameC, h3]

/-- The decimal form of an integer that is not negative. -/
def natB (s : ByteArray) : Bool := decide (s.size ≠ 0 ∧ ¬ (bt s 0 = 48 ∧ 1 < s.size)) && allB digB s
theorem natB_bad {s : ByteArray} (h : s.size = 0 ∨ (bt s 0 = 48 ∧ 1 < s.size)) : natB s = false := by
  unfold natB; rw [decide_eq_false (by omega)]; rfl
theorem natB_no {s : ByteArray} {k : Nat} (h : k < s.size) (hp : digB (bt s k) = false) : natB s = false := by simp [natB, allB_no h hp]
theorem natB_yes {s : ByteArray} {k : Nat} (h : s.size ≠ 0 ∧ ¬ (bt s 0 = 48 ∧ 1 < s.size)) (hk : s.size ≤ k) (hp : ∀ j, j < k → digB (bt s j) = true) : natB s = true := by
  unfold natB; rw [allB_yes hk hp, decide_eq_true h]; rfl
set_option maxHeartbeats 400000 in
theorem natural_any (s : ByteArray) (w : World) (hs : s.size ≤ maxLen) :
    Calls Tryz.prog 80 #[.string s] w fun e w' => e = .returned (.bool (natB s)) ∧ w = w' := by
  unfold maxLen at hs
  have hb := get_bt s
  by_cases h0 : s.size = 0
  · have he := empty_yes h0
    go_enter Tryz.func80, Tryz.ntmps80
    go_wp2
    go_ret
    exact ⟨ret_bool (natB_bad (.inl h0)).symm, rfl⟩
  · have h0' : 0 < s.size := by omega
    clear h0
    by_cases h1 : bt s 0 = 48 ∧ 1 < s.size
    · have he := empty_no h0'
      obtain ⟨h2, h3⟩ := h1
      go_enter Tryz.func80, Tryz.ntmps80
      go_wp2
      go_ret
      exact ⟨ret_bool (natB_bad (.inr ⟨by omega, h3⟩)).symm, rfl⟩
    · have H := Lib.hid (And.intro (show s.size ≠ 0 by omega) h1)
      have he := empty_no h0'
      have h1' : bt s 0 ≠ 48 ∨ s.size ≤ 1 := by omega
      clear h1
      rcases h1' with h2 | h2 <;> (
        go_enter Tryz.func80, Tryz.ntmps80
        go_wp2)
      all_goals
        try rw [‹bt s 0 = 48›]
        go_loop [18] (fun i => ∃ k : Nat, k ≤ s.size ∧ i = .int .i64 k ∧ Hid (∀ j, j < k → digB (bt s j) = true)) (fun i => s.size - (intOf i).toNat)
        case atStart => exact ⟨0, Nat.zero_le _, rfl, Lib.hid (fun j hj => by omega)⟩
        case round =>
          obtain ⟨k, hk, rfl, hall⟩ := hrel
          by_cases hlt : k < s.size
          · go_wp2_with (go_at_call 98; refine (digitByte_any _ _).mono ?_; rintro e w' ⟨rfl, rfl⟩)
            · go_ret
              exact ⟨ret_bool (natB_no hlt (by simpa using ‹(!digB (bt s k)) = true›)).symm, rfl⟩
            · go_round
              case rel => exact ⟨k + 1, by omega, by go_num, Lib.hid (upto_succ hall.out (by simpa using ‹(!digB (bt s k)) = false›))⟩
              case measure => simp [intOf]; omega
          · go_wp2
            go_ret
            exact ⟨ret_bool (natB_yes H.out (by omega) hall.out).symm, rfl⟩

/-- A minus sign that stands before a digit other than 0, or before no digit. -/
def minusB (s : ByteArray) : Bool := decide (1 < s.size ∧ bt s 0 = 45 ∧ bt s 1 ≠ 48)
/-- The decimal form of an integer of any size. -/
def decB (s : ByteArray) : Bool := if minusB s then natB (s.extract 1 s.size) else natB s
/-- No digit, or a leading zero. -/
def badB (s : ByteArray) : Bool := decide (s.size = 0 ∨ (bt s 0 = 48 ∧ 1 < s.size))
theorem badB_yes {s : ByteArray} (h : badB s = true) : s.size = 0 ∨ (bt s 0 = 48 ∧ 1 < s.size) := by simpa [badB] using h
theorem badB_no {s : ByteArray} (h : badB s = false) : s.size ≠ 0 ∧ ¬ (bt s 0 = 48 ∧ 1 < s.size) := by
  have h' := of_decide_eq_false h; omega

set_option maxHeartbeats 400000 in
theorem decimal_any (s : ByteArray) (w : World) (hs : s.size ≤ maxLen) :
    Calls Tryz.prog 43 #[.string s] w fun e w' => e = .returned (.bool (decB s)) ∧ w = w' := by
  unfold maxLen at hs
  have hb := get_bt s
  go_enter Tryz.func43, Tryz.ntmps43
  go_upto_region 1 with (fail)
  go_cut [16] (fun s16 wx => wx = w ∧ s16 = .bool (minusB s))
  case first =>
    go_wp2
    all_goals
      go_meet
      exact ⟨rfl, ret_bv (by rw [Bool.eq_iff_iff]; simp [minusB]; omega)⟩
  case rest =>
    obtain ⟨rfl, rfl⟩ := hcut
    go_upto_if 16 with (fail)
    go_cut [0] (fun s0 wx => wx = wc ∧ ∃ t : ByteArray, s0 = .string t ∧ Hid (decB s = natB t) ∧ t.size ≤ s.size)
    case first =>
      cases hm : minusB s
      · go_wp2
        go_meet
        exact ⟨rfl, _, rfl, Lib.hid (by unfold decB; rw [hm]; rfl), by simp⟩
      · have h1 : 1 < s.size := by simp [minusB] at hm; exact hm.1
        go_wp2
        go_meet
        exact ⟨rfl, _, rfl, Lib.hid (by unfold decB; rw [hm]; rfl), by simp⟩
    case rest =>
      obtain ⟨rfl, t, rfl, ht, htz⟩ := hcut
      have hbt := get_bt t
      have htu : t.size ≤ 9223372036854775807 := by omega
      clear hb
      go_upto_region 3 with (fail)
      go_cut [31] (fun s31 wx => wx = wc ∧ s31 = .bool (badB t))
      case first =>
        by_cases h0 : t.size = 0
        · go_wp2
          go_meet
          exact ⟨rfl, ret_bv (by unfold badB; first | exact dec_t (by omega) | exact dec_f (by omega) | exact dec_beq (by omega))⟩
        · have h0' : 0 < t.size := by omega
          have h0'' : ((t.size : Int) == 0) = false := beq_eq_false_iff_ne.mpr (by omega)
          clear h0
          go_wp2
          all_goals
            go_meet
            exact ⟨rfl, ret_bv (by unfold badB; first | exact dec_t (by omega) | exact dec_f (by omega) | exact dec_beq (by omega))⟩
      case rest =>
        obtain ⟨rfl, rfl⟩ := hcut
        cases hm : badB t
        · have H := Lib.hid (badB_no hm)
          clear hm
          go_wp2
          go_loop [3] (fun i => ∃ k : Nat, k ≤ t.size ∧ i = .int .i64 k ∧ Hid (∀ j, j < k → digB (bt t j) = true)) (fun i => t.size - (intOf i).toNat)
          case atStart => exact ⟨0, Nat.zero_le _, rfl, Lib.hid (fun j hj => by omega)⟩
          case round =>
            obtain ⟨k, hk, rfl, hall⟩ := hrel
            by_cases hlt : k < t.size
            · go_wp2_with (go_at_call 63; refine (rdigit_any _ _).mono ?_; rintro e w' ⟨rfl, rfl⟩)
              · go_ret
                exact ⟨ret_bool (ht.out.trans (natB_no hlt (by simpa using ‹(!digB (bt t k)) = true›))).symm, rfl⟩
              · go_round
                case rel => exact ⟨k + 1, by omega, by go_num, Lib.hid (upto_succ hall.out (by simpa using ‹(!digB (bt t k)) = false›))⟩
                case measure => simp [intOf]; omega
            · go_wp2
              go_ret
              exact ⟨ret_bool (ht.out.trans (natB_yes H.out (by omega) hall.out)).symm, rfl⟩
        · go_wp2
          go_ret
          exact ⟨ret_bool (ht.out.trans (natB_bad (badB_yes hm))).symm, rfl⟩
end Go.Proofs.YtchnmbfeaaialaaGreatDoor
