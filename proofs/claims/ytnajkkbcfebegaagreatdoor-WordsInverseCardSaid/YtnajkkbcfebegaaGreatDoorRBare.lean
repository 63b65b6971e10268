/- The reference's bare. -/
import Derived.Test.YtnajkkbcfebegaaGreatDoorRSpec2
namespace Go.Proofs.YtnajkkbcfebegaaGreatDoor
open Go.RowKit Go.PlainAid

theorem bareL_no {s : ByteArray} {k : Nat} (hk : k < s.size) (h : bareI (bt s k) = false) : bareL s.data.toList = false := by
  unfold bareL
  have hl : k < s.data.toList.length := by rw [len_list]; exact hk
  have hall : s.data.toList.all bareC = false := by
    rw [List.all_eq_false]
    exact ⟨s.data.toList[k], List.getElem_mem hl, by rw [bare_bt hk, h]; simp⟩
  rw [hall, Bool.and_false]
theorem bareL_yes {s : ByteArray} (h : ∀ j, j < s.size → bareI (bt s j) = true) : bareL s.data.toList = decide (0 < s.size) := by
  unfold bareL
  have hall : s.data.toList.all bareC = true := by
    rw [List.all_eq_true]
    intro c hc
    obtain ⟨j, hj, rfl⟩ := List.getElem_of_mem hc
    have hj' : j < s.size := by rw [← len_list]; exact hj
    rw [bare_bt hj']; exact h j hj'
  rw [hall, Bool.and_true, Bool.eq_iff_iff, decide_eq_true_iff]
  rw [← len_list]
  cases s.data.toList <;> simp

end Go.Proofs.YtnajkkbcfebegaaGreatDoor
