/- The reference's bare. -/
import Derived.Test.YtnajkkbcfebegaaDoorRSpec2
namespace Go.Proofs.YtnajkkbcfebegaaDoor
open Go.RowKit Go.PlainAid

theorem bareL_no {s : ByteArray} {k : Nat} (hk : k < s.size) (h : bareI (bt s k) = false) : bareL s.data.toList = false := by
  unfold bareL
  have hl : k < s.data.toList.length := by rw [len_list]; exact hk
  have hall : s.data.toList.all bareC = false := by
    rw [List.all_eq_false]
    exact ⟨s.data.toList[k], List.getElem_mem hl, by rw [bare_bt hk, h]; simp⟩
  rw [hall, Bool.and_false]
theorem bareL_yes {s : ByteArray} (h : ∀ j, j < s.size → bareI (bt s j) = true) : bareL s.data.toList = decide (0 < s.size) := by
  unfold bareL
  have hall : s.data.toList.all bareC = true := by
    rw [List.all_eq_true]
    intro c hc
    obtain ⟨j, hj, rfl⟩ := List.getElem_of_mem hc
    have hj' : j < s.size := by rw [← len_list]; exact hj
    rw [bare_bt hj']; exact h j hj'
  rw [hall, Bool.and_true, Bool.eq_iff_iff, decide_eq_true_iff]
  rw [← len_list]
  cases s.data.toList <;> simp

set_option maxHeartbeats 800000 in
theorem rbare_any (s : ByteArray) (w : World) (hs : s.size ≤ 1000000000) :
    Calls Tryd.prog 43 #[.string s] w fun e w' => e = .returned (.bool (bareL s.data.toList)) ∧ w = w' := by
  have hb := get_bt s
  go_enter Tryd.func43, Tryd.ntmps43
  go_wp2
  go_loop [3] (fun i => ∃ k : Nat, k ≤ s.size ∧ i = .int .i64 k ∧ Hid (∀ j, j < k → bareI (bt s j) = true)) (fun i => s.size - (intOf i).toNat)
  case atStart => exact ⟨0, Nat.zero_le _, rfl, Lib.hid (fun j h => by omega)⟩
  case round =>
    obtain ⟨k, hk, rfl, he⟩ := hrel
    by_cases hlt : k < s.size
    · cases hpl : plainB (bt s k)
      · have HE := Lib.hid (bareL_no hlt (by unfold bareI; rw [hpl]; rfl))
        go_wp2_with (go_at_call 60; refine (rplain_any _ _).mono ?_; rintro e w' ⟨rfl, rfl⟩)
        all_goals go_ret
        all_goals exact ⟨ret_bool HE.out.symm, rfl⟩
      · by_cases h32 : bt s k = 32
        · have HE := Lib.hid (bareL_no hlt (by unfold bareI; rw [h32]; decide))
          have hq : (bt s k == 32) = true := by rw [beq_iff_eq]; exact h32
          clear h32
          go_wp2_with (go_at_call 60; refine (rplain_any _ _).mono ?_; rintro e w' ⟨rfl, rfl⟩)
          all_goals go_ret
          all_goals exact ⟨ret_bool HE.out.symm, rfl⟩
        · have HE := Lib.hid (upto_succ he.out (by unfold bareI; rw [hpl, Bool.true_and, bne_iff_ne]; exact h32))
          have hq : (bt s k == 32) = false := by rw [beq_eq_false_iff_ne]; exact h32
          clear h32
          go_wp2_with (go_at_call 60; refine (rplain_any _ _).mono ?_; rintro e w' ⟨rfl, rfl⟩)
          all_goals
            go_round
            case rel => exact ⟨k + 1, by omega, by go_num, HE⟩
            case measure => simp [intOf]; omega
    · have HE := Lib.hid (bareL_yes (s := s) (fun j hj => he.out j (by omega)))
      go_wp2
      all_goals go_ret
      all_goals exact ⟨ret_bool (by rw [HE.out]), rfl⟩
end Go.Proofs.YtnajkkbcfebegaaDoor
