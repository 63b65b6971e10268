/- Contracts of words.Name, words.natural and the reference's Name, decimal: loops over the bytes of a string. -/
import Derived.Test.YtbkkmcfpjpbhaaaLeaf
import Derived.PlainAid
import Derived.Lib.Hide
import Derived.Deep.DeepCutAuto
namespace Go.Proofs.Ytbkkmcfpjpbhaaa
open Go.RowKit Go.PlainAid

def nameC (c : Int) : Bool := lowB c || digB c || decide (c = 45)
def nameB (s : ByteArray) : Bool := decide (1 ≤ s.size) && decide (s.size ≤ 16) && lowB (bt s 0) && allB nameC s

theorem nameB_long {s : ByteArray} (h : s.size < 1 ∨ 16 < s.size) : nameB s = false := by
  have e : (decide (1 ≤ s.size) && decide (s.size ≤ 16)) = false := by rw [Bool.eq_false_iff]; simp; omega
  unfold nameB; rw [e]; rfl
theorem nameB_first {s : ByteArray} (h : lowB (bt s 0) = false) : nameB s = false := by simp [nameB, h]
theorem nameB_no {s : ByteArray} {k : Nat} (h : k < s.size) (hp : nameC (bt s k) = false) : nameB s = false := by simp [nameB, allB_no h hp]
theorem nameB_yes {s : ByteArray} {k : Nat} (h1 : 1 ≤ s.size) (h2 : s.size ≤ 16) (h3 : lowB (bt s 0) = true) (hk : s.size ≤ k) (h : ∀ j, j < k → nameC (bt s j) = true) : nameB s = true := by
  simp [nameB, allB_yes hk h, h1, h2, h3]

theorem nameC_no {c : Int} (h1 : lowB c = false) (h2 : digB c = false) (h3 : (c != 45) = true) : nameC c = false := by
  simp at h3; simp [nameC, h1, h2, h3]
theorem nameC_3 {c : Int} (h3 : (c != 45) = false) : nameC c = true := by simp at h3; simp [nameC, h3]
theorem nameC_2 {c : Int} (h3 : digB c = true) : nameC c = true := by simp [nameC, h3]
theorem nameC_1 {c : Int} (h3 : lowB c = true) : nameC c = true := by simp [nameC, h3]

/-- The decimal form of an integer that is not negative. -/
def natB (s : ByteArray) : Bool := decide (s.size ≠ 0 ∧ ¬ (bt s 0 = 48 ∧ 1 < s.size)) && allB digB s
theorem natB_bad {s : ByteArray} (h : s.size = 0 ∨ (bt s 0 = 48 ∧ 1 < s.size)) : natB s = false := by
  unfold natB; rw [decide_eq_false (by omega)]; rfl
theorem natB_no {s : ByteArray} {k : Nat} (h : k < s.size) (hp : digB (bt s k) = false) : natB s = false := by simp [natB, allB_no h hp]
theorem natB_yes {s : ByteArray} {k : Nat} (h : s.size ≠ 0 ∧ ¬ (bt s 0 = 48 ∧ 1 < s.size)) (hk : s.size ≤ k) (hp : ∀ j, j < k → digB (bt s j) = true) : natB s = true := by
  unfold natB; rw [allB_yes hk hp, decide_eq_true h]; rfl
/-- A minus sign that stands before a digit other than 0, or before no digit. -/
def minusB (s : ByteArray) : Bool := decide (1 < s.size ∧ bt s 0 = 45 ∧ bt s 1 ≠ 48)
/-- The decimal form of an integer of any size. -/
def decB (s : ByteArray) : Bool := if minusB s then natB (s.extract 1 s.size) else natB s
/-- No digit, or a leading zero. -/
def badB (s : ByteArray) : Bool := decide (s.size = 0 ∨ (bt s 0 = 48 ∧ 1 < s.size))
theorem badB_yes {s : ByteArray} (h : badB s = true) : s.size = 0 ∨ (bt s 0 = 48 ∧ 1 < s.size) := by simpa [badB] using h
theorem badB_no {s : ByteArray} (h : badB s = false) : s.size ≠ 0 ∧ ¬ (bt s 0 = 48 ∧ 1 < s.size) := by
  have h' := of_decide_eq_false h; omega

end Go.Proofs.Ytbkkmcfpjpbhaaa
