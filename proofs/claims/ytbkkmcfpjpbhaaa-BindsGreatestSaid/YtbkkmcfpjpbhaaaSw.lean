/- Calls on sets that are given as their scopes. -/
import Derived.Test.YtbkkmcfpjpbhaaaSaw
namespace Go.Proofs.Ytbkkmcfpjpbhaaa
open Go.RowKit Go.PlainAid

theorem subS_c {l m : List Nat} (hl : SetOf l) (hm : SetOf m) (w : World) :
    Calls Try.prog 56 #[.string (str (setL l)), .string (str (setL m))] w fun e w' => e = .returned (.tuple #[.bool (decide (∀ z ∈ l, z ∈ m)), .int .i64 0]) ∧ Below w.heap.size w w' := by
  have := sub_any (setL l) (setL m) w (by rw [setL_len]; have := hl.few; omega) (by rw [setL_len]; have := hm.few; omega)
  rw [sub_set hl hm] at this; exact this
theorem ul (a b : List Nat) : (un a b).length ≤ a.length + b.length := mg_len' _ _ _ a b
theorem ml (a b : List Nat) : (me a b).length ≤ a.length + b.length := mg_len' _ _ _ a b
theorem dl (a b : List Nat) : (mi a b).length ≤ a.length + b.length := mg_len' _ _ _ a b
theorem few_of {A : List UInt8} {l : List Nat} (e : A = setL l) (h : A.length ≤ 300) : l.length ≤ 150 := by rw [e, setL_len] at h; omega
theorem str_of (s : ByteArray) : ∃ A : List UInt8, str A = s ∧ A.length = s.size := ⟨s.data.toList, str_data s, len_list s⟩
theorem str_eqb {A B : List UInt8} : ((str A).toList == (str B).toList) = decide (A = B) := by
  rw [ByteArray.toList_eq, ByteArray.toList_eq, str_list, str_list, Bool.eq_iff_iff, beq_iff_eq, decide_eq_true_iff]
end Go.Proofs.Ytbkkmcfpjpbhaaa
