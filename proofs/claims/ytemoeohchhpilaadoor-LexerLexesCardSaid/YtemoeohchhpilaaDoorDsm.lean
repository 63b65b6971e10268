/- Symbols: mathematics. -/
import Derived.Test.YtemoeohchhpilaaDoorRcls
import Derived.Lib.SlTrimSet
namespace Go.Proofs.YtemoeohchhpilaaDoor
open Go.RowKit Go.PlainAid

def digS : List UInt8 := [48, 49, 50, 51, 52, 53, 54, 55, 56, 57]
/-- A sign, or none, left out. -/
def unsigned (s : List UInt8) : List UInt8 := match s with | [] => [] | c :: t => if c = 43 ∨ c = 45 then t else c :: t
/-- A sign, or none, and then digits alone, at least one. -/
def intB (s : List UInt8) : Bool := decide (unsigned s ≠ []) && (unsigned s).all (digS.contains ·)
/-- A rune of which symbols are made. -/
def symC (r : Int) : Bool := clsS r == 9 || clsS r == 7 || clsS r == 8
def symS (s : List UInt8) : Bool := decide (1 ≤ s.length) && decide (s.length ≤ 24) && decide ((chkS s).2 = 0) && (runs s).1.all symC && !intB s
theorem sym_short {s : List UInt8} (h : s.length < 1) : symS s = false := by unfold symS; rw [decide_eq_false (show ¬1 ≤ s.length by omega)]; rfl
theorem sym_long {s : List UInt8} (h : 24 < s.length) : symS s = false := by unfold symS; rw [decide_eq_false (show ¬s.length ≤ 24 by omega), Bool.and_false]; rfl
theorem sym_bad {s : List UInt8} (h : (chkS s).2 ≠ 0) : symS s = false := by unfold symS; rw [decide_eq_false h, Bool.and_false]; rfl
theorem sym_else {s : List UInt8} (h1 : 1 ≤ s.length) (h2 : s.length ≤ 24) (h3 : (chkS s).2 = 0) : symS s = ((runs s).1.all symC && !intB s) := by
  unfold symS; rw [decide_eq_true h1, decide_eq_true h2, decide_eq_true h3]; rfl
theorem sym_rune {s : List UInt8} {r : Int} (h : r ∈ (runs s).1) (hr : symC r = false) : symS s = false := by
  unfold symS
  have : (runs s).1.all symC = false := by rw [List.all_eq_false]; exact ⟨r, h, by rw [hr]; decide⟩
  rw [this, Bool.and_false]; rfl
theorem sym_int {s : List UInt8} (h : intB s = true) : symS s = false := by unfold symS; rw [h, Bool.not_true, Bool.and_false]
theorem all_take {l : List Int} {k : Nat} {r : Int} (h : (l.take k).all symC = true) (hk : l[k]? = some r) (hr : symC r = true) : (l.take (k + 1)).all symC = true := by
  rw [List.take_add_one, List.all_append, h, hk]
  simp [hr]

theorem trim_nil : ∀ (l cs : List UInt8), (Lib.trimS l cs = []) ↔ l.all (cs.contains ·) = true := by
  intro l cs
  have d : ∀ m : List UInt8, m.dropWhile (cs.contains ·) = [] ↔ m.all (cs.contains ·) = true := by
    intro m
    induction m with
    | nil => exact ⟨fun _ => rfl, fun _ => rfl⟩
    | cons a m ih =>
      rw [List.dropWhile_cons, List.all_cons]
      cases h : cs.contains a with
      | true => rw [if_pos rfl, ih, Bool.true_and]
      | false => rw [if_neg (by decide)]; simp
  unfold Lib.trimS Lib.trimLeftS
  rw [d]
  unfold Lib.trimRightS
  rw [List.all_reverse]
  have e : ∀ m : List UInt8, (m.dropWhile (cs.contains ·)).all (cs.contains ·) = true ↔ m.all (cs.contains ·) = true := by
    intro m
    induction m with
    | nil => exact Iff.rfl
    | cons a m ih =>
      rw [List.dropWhile_cons]
      cases h : cs.contains a with
      | true => rw [if_pos rfl, ih, List.all_cons, h, Bool.true_and]
      | false => rw [if_neg (by decide)]
  rw [e, List.all_reverse]
theorem int_cons (c : UInt8) (t : List UInt8) : intB (c :: t) = if c = 43 ∨ c = 45 then (decide (t ≠ []) && t.all (digS.contains ·)) else (c :: t).all (digS.contains ·) := by
  by_cases h : c = 43 ∨ c = 45
  · simp only [intB, unsigned, if_pos h]
  · simp only [intB, unsigned, if_neg h]
    rw [decide_eq_true (by simp)]; rfl
theorem dig_iff (c : UInt8) : digS.contains c = decide (48 ≤ c.toNat ∧ c.toNat ≤ 57) := by
  have : ∀ n : Fin 256, digS.contains (UInt8.ofNat n.val) = decide (48 ≤ (UInt8.ofNat n.val).toNat ∧ (UInt8.ofNat n.val).toNat ≤ 57) := by decide +kernel
  have h := this ⟨c.toNat, c.toNat_lt⟩
  rw [show UInt8.ofNat c.toNat = c by simp] at h
  exact h
end Go.Proofs.YtemoeohchhpilaaDoor
