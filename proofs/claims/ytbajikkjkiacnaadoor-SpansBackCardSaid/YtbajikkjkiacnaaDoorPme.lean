/- Mathematics for the law SpansEdits: a text that is edited. -/
import Derived.Test.YtbajikkjkiacnaaDoorPcover
namespace Go.Proofs.YtbajikkjkiacnaaDoor

def cutL (l : List UInt8) (a b : Nat) : List UInt8 := (l.drop a).take (b - a)
theorem cutL_len {l : List UInt8} {a b : Nat} (h1 : a ≤ b) (h2 : b ≤ l.length) : (cutL l a b).length = b - a := by
  unfold cutL; rw [List.length_take, List.length_drop]; omega
/-- The text behind the edit. -/
def editL (b p : List UInt8) (ca cb : Nat) : List UInt8 := b.take ca ++ p ++ b.drop cb
theorem editL_len {b p : List UInt8} {ca cb : Nat} (h1 : ca ≤ cb) (h2 : cb ≤ b.length) : (editL b p ca cb).length = ca + p.length + (b.length - cb) := by
  unfold editL; rw [List.length_append, List.length_append, List.length_take, List.length_drop]; omega
theorem edit_before {b p : List UInt8} {ca cb sa sb : Nat} (h1 : ca ≤ cb) (h2 : cb ≤ b.length) (h3 : sa ≤ sb) (h4 : sb ≤ ca) : cutL (editL b p ca cb) sa sb = cutL b sa sb := by
  unfold cutL editL
  rw [List.append_assoc, List.drop_append_of_le_length (by rw [List.length_take]; omega), List.take_append_of_le_length (by rw [List.length_drop, List.length_take]; omega), List.drop_take, List.take_take]
  congr 1; omega
theorem edit_behind {b p : List UInt8} {ca cb sa sb : Nat} (h1 : ca ≤ cb) (h2 : sb ≤ b.length) (h3 : sa ≤ sb) (h4 : cb ≤ sa) : cutL (editL b p ca cb) (sa + p.length + ca - cb) (sb + p.length + ca - cb) = cutL b sa sb := by
  unfold cutL editL
  rw [show sb + p.length + ca - cb - (sa + p.length + ca - cb) = sb - sa by omega, List.drop_append, List.length_append, List.length_take]
  rw [show sa + p.length + ca - cb - (min ca b.length + p.length) = sa - cb by omega]
  rw [List.drop_of_length_le (l := b.take ca ++ p) (by rw [List.length_append, List.length_take]; omega), List.nil_append, List.drop_drop]
  congr 2; omega
theorem edit_in {b p : List UInt8} {ca cb sa sb : Nat} (h1 : ca ≤ cb) (h2 : sb ≤ b.length) (h3 : sa ≤ ca) (h4 : cb ≤ sb) : cutL (editL b p ca cb) sa (sb + p.length + ca - cb) = cutL b sa ca ++ p ++ cutL b cb sb := by
  unfold cutL editL
  have e1 : (b.take ca ++ p ++ b.drop cb).drop sa = (b.take ca).drop sa ++ (p ++ b.drop cb) := by
    rw [List.append_assoc, List.drop_append_of_le_length (by rw [List.length_take]; omega)]
  rw [e1, List.take_append, List.length_drop, List.length_take, List.take_of_length_le (l := (b.take ca).drop sa) (by rw [List.length_drop, List.length_take]; omega), List.take_append, List.take_of_length_le (l := p) (by omega)]
  rw [List.append_assoc, List.drop_take]
  congr 3; omega
theorem str_app (a b : List UInt8) : str a ++ str b = str (a ++ b) := by
  apply ByteArray.ext; simp [str]
theorem ext_str (l : List UInt8) {a b : Nat} : (str l).extract a b = str (cutL l a b) := by
  rw [← str_data ((str l).extract a b)]
  congr 1
  rw [Lib.extract_data]
  unfold cutL
  first | rfl | (rw [List.drop_take]; rfl)

/-- What Shift does to a span that is not empty. -/
theorem shift_edit {sa sb ca cb n d : Nat} (h1 : sa < sb) (h2 : sb ≤ n) (h3 : ca ≤ cb) (h4 : cb ≤ n) (h5 : n ≤ 100) (h6 : d ≤ 50) :
    (shiftS (sa, sb) (ca, cb) d = ((0, 0), 4) ∧ max sa ca < min sb cb ∧ (ca < sa ∨ sb < cb)) ∨
    (shiftS (sa, sb) (ca, cb) d = (((sa : Int), (sb : Int)), 0) ∧ sb ≤ ca ∧ beS (ca, cb) (sa, sb) = false ∧ beS (sa, sb) (ca, cb) = true) ∨
    (shiftS (sa, sb) (ca, cb) d = ((((sa + d + ca - cb : Nat) : Int), ((sb + d + ca - cb : Nat) : Int)), 0) ∧ cb ≤ sa ∧ beS (ca, cb) (sa, sb) = true ∧ beS (sa, sb) (ca, cb) = false) ∨
    (shiftS (sa, sb) (ca, cb) d = (((sa : Int), ((sb + d + ca - cb : Nat) : Int)), 0) ∧ sa ≤ ca ∧ cb ≤ sb ∧ beS (ca, cb) (sa, sb) = false ∧ beS (sa, sb) (ca, cb) = false) := by
  have k1 : okS ((sa : Int), (sb : Int)) = true := by rw [okS_iff]; simp only; omega
  have k2 : okS ((ca : Int), (cb : Int)) = true := by rw [okS_iff]; simp only; omega
  unfold shiftS
  rw [k1, k2, if_neg (by simp), if_neg (by omega)]
  by_cases b1 : sb ≤ ca
  · have e1 : beS ((sa : Int), (sb : Int)) (ca, cb) = true := by rw [beS_iff]; simp only; omega
    have e2 : beS ((ca : Int), (cb : Int)) (sa, sb) = false := by rw [beS_not]; simp only; omega
    have e3 : wiS ((sa : Int), (sb : Int)) (ca, cb) = false := by rw [wiS_not]; simp only; omega
    right; left
    refine ⟨?_, b1, e2, e1⟩
    unfold ovS; rw [e1, e2, e3]; simp
  · have e1 : beS ((sa : Int), (sb : Int)) (ca, cb) = false := by rw [beS_not]; simp only; omega
    by_cases b2 : cb ≤ sa
    · have e2 : beS ((ca : Int), (cb : Int)) (sa, sb) = true := by rw [beS_iff]; simp only; omega
      have e3 : wiS ((sa : Int), (sb : Int)) (ca, cb) = false := by rw [wiS_not]; simp only; omega
      right; right; left
      refine ⟨?_, b2, e2, e1⟩
      unfold ovS; rw [e1, e2, e3]; simp; omega
    · have e2 : beS ((ca : Int), (cb : Int)) (sa, sb) = false := by rw [beS_not]; simp only; omega
      by_cases b3 : sa ≤ ca ∧ cb ≤ sb
      · have e4 : wiS ((ca : Int), (cb : Int)) (sa, sb) = true := by rw [wiS_iff]; simp only; omega
        right; right; right
        refine ⟨?_, b3.1, b3.2, e2, e1⟩
        unfold ovS; rw [e1, e2, e4]; simp; omega
      · have e4 : wiS ((ca : Int), (cb : Int)) (sa, sb) = false := by rw [wiS_not]; simp only; omega
        left
        refine ⟨?_, by omega, by omega⟩
        unfold ovS; rw [e1, e2, e4]
        cases wiS ((sa : Int), (sb : Int)) (ca, cb) <;> simp
end Go.Proofs.YtbajikkjkiacnaaDoor
