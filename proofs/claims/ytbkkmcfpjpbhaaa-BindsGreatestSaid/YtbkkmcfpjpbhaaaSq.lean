/- What the functions on sets answer (mathematics). -/
import Derived.Test.YtbkkmcfpjpbhaaaSp
namespace Go.Proofs.Ytbkkmcfpjpbhaaa

/-- The chosen scopes of two sets. -/
def outS (l : List Nat) : List UInt8 × Int := if 10000 < l.length then ([], 3) else (setL l, 0)
def twoE (A B : List UInt8) : Int := if chkE A ≠ 0 then chkE A else chkE B
def oneE (A : List UInt8) (n : Int) : Int := if chkE A ≠ 0 then chkE A else if n < 0 ∨ 65535 < n then 7 else 0
def mrgS (f b s : Bool) (A B : List UInt8) : List UInt8 × Int := if twoE A B ≠ 0 then ([], twoE A B) else outS (mg f b s (idsL A) (idsL B))
def oneS (f b s : Bool) (A : List UInt8) (n : Int) : List UInt8 × Int := if oneE A n ≠ 0 then ([], oneE A n) else outS (mg f b s (idsL A) [n.toNat])
def hasS (A : List UInt8) (n : Int) : Bool × Int := (decide (oneE A n = 0 ∧ n.toNat ∈ idsL A), oneE A n)
def subS (A B : List UInt8) : Bool × Int := (decide (twoE A B = 0 ∧ ∀ z ∈ idsL A, z ∈ idsL B), twoE A B)
def relS (A B : List UInt8) : Int × Int := if twoE A B ≠ 0 then (0, twoE A B) else if A = B then (0, 0) else if (subS A B).1 then (1, 0) else if (subS B A).1 then (2, 0) else (3, 0)
theorem twoE_ok {A B : List UInt8} (h : twoE A B = 0) : chkE A = 0 ∧ chkE B = 0 := by
  unfold twoE at h
  by_cases h1 : chkE A = 0
  · rw [if_neg (by simpa using h1)] at h; exact ⟨h1, h⟩
  · rw [if_pos h1] at h; exact absurd h h1
theorem twoE_set {A B : List UInt8} (h1 : chkE A = 0) (h2 : chkE B = 0) : twoE A B = 0 := by unfold twoE; rw [if_neg (by simpa using h1), h2]
theorem twoE_no1 {A B : List UInt8} (h : chkE A ≠ 0) : twoE A B = chkE A := by unfold twoE; rw [if_pos h]
theorem twoE_no2 {A B : List UInt8} (h : chkE A = 0) : twoE A B = chkE B := by unfold twoE; rw [if_neg (by simpa using h)]
theorem oneE_ok {A : List UInt8} {n : Int} (h : oneE A n = 0) : chkE A = 0 ∧ 0 ≤ n ∧ n ≤ 65535 := by
  unfold oneE at h
  by_cases h1 : chkE A = 0
  · rw [if_neg (by simpa using h1)] at h
    split at h
    · cases h
    · rename_i h2; exact ⟨h1, by omega, by omega⟩
  · rw [if_pos h1] at h; exact absurd h h1
theorem oneE_set {A : List UInt8} {n : Int} (h1 : chkE A = 0) (h2 : 0 ≤ n ∧ n ≤ 65535) : oneE A n = 0 := by
  unfold oneE; rw [if_neg (by simpa using h1), if_neg (by omega)]
theorem oneE_no1 {A : List UInt8} {n : Int} (h : chkE A ≠ 0) : oneE A n = chkE A := by unfold oneE; rw [if_pos h]
theorem oneE_no2 {A : List UInt8} {n : Int} (h : chkE A = 0) (h2 : n < 0 ∨ 65535 < n) : oneE A n = 7 := by unfold oneE; rw [if_neg (by simpa using h), if_pos h2]
theorem mrg_no {f b s : Bool} {A B : List UInt8} (h : twoE A B ≠ 0) : mrgS f b s A B = ([], twoE A B) := by unfold mrgS; rw [if_pos h]
theorem one_no {f b s : Bool} {A : List UInt8} {n : Int} (h : oneE A n ≠ 0) : oneS f b s A n = ([], oneE A n) := by unfold oneS; rw [if_pos h]
theorem mrg_yes {f b s : Bool} {A B : List UInt8} (h : twoE A B = 0) : mrgS f b s A B = outS (mg f b s (idsL A) (idsL B)) := by unfold mrgS; rw [if_neg (by simpa using h)]
theorem one_yes {f b s : Bool} {A : List UInt8} {n : Int} (h : oneE A n = 0) : oneS f b s A n = outS (mg f b s (idsL A) [n.toNat]) := by unfold oneS; rw [if_neg (by simpa using h)]
theorem out_ok {l : List Nat} (h : l.length ≤ 10000) : outS l = (setL l, 0) := by unfold outS; rw [if_neg (by omega)]
theorem out_no {l : List Nat} (h : 10000 < l.length) : outS l = ([], 3) := by unfold outS; rw [if_pos h]
/-- Sets that are given as their scopes. -/
structure SetOf (l : List Nat) : Prop where
  up : asc l
  lt : ∀ n ∈ l, n < 65536
  few : l.length ≤ 10000
theorem SetOf.chk {l : List Nat} (h : SetOf l) : chkE (setL l) = 0 := by rw [chkE_set h.up h.lt, if_neg (by have := h.few; omega)]
theorem SetOf.ids {l : List Nat} (h : SetOf l) : idsL (setL l) = l := ids_set l h.lt
theorem set_of {A : List UInt8} (h : chkE A = 0) : ∃ l, A = setL l ∧ SetOf l := by
  obtain ⟨l, h1, h2, h3, h4⟩ := chkE_ok h
  exact ⟨l, h1, h2, h3, h4⟩
theorem SetOf.mg {f b s : Bool} {l m : List Nat} (hl : SetOf l) (hm : SetOf m) (h : (mg f b s l m).length ≤ 10000) : SetOf (mg f b s l m) :=
  ⟨asc_mg' hl.up hm.up, mg_lt64 hl.up hm.up hl.lt hm.lt, h⟩
theorem SetOf.one {n : Nat} (h : n < 65536) : SetOf [n] := ⟨asc_one n, by simpa using h, by simp⟩
theorem SetOf.nil : SetOf [] := ⟨asc_nil, by simp, by simp⟩
theorem mrg_set {f b s : Bool} {l m : List Nat} (hl : SetOf l) (hm : SetOf m) : mrgS f b s (setL l) (setL m) = outS (mg f b s l m) := by
  rw [mrg_yes (twoE_set hl.chk hm.chk), hl.ids, hm.ids]
theorem one_set {f b s : Bool} {l : List Nat} {n : Nat} (hl : SetOf l) (h : n < 65536) : oneS f b s (setL l) (n : Int) = outS (mg f b s l [n]) := by
  rw [one_yes (oneE_set hl.chk (by omega)), hl.ids, Int.toNat_natCast]
theorem sub_set {l m : List Nat} (hl : SetOf l) (hm : SetOf m) : subS (setL l) (setL m) = (decide (∀ z ∈ l, z ∈ m), 0) := by
  unfold subS; rw [twoE_set hl.chk hm.chk, hl.ids, hm.ids]; simp
theorem has_set {l : List Nat} {n : Nat} (hl : SetOf l) (h : n < 65536) : hasS (setL l) (n : Int) = (decide (n ∈ l), 0) := by
  unfold hasS; rw [oneE_set hl.chk (by omega), hl.ids, Int.toNat_natCast]; simp
theorem set_nil {l : List Nat} : setL l = [] ↔ l = [] := by cases l <;> simp [setL]
theorem set_eq {l m : List Nat} (hl : SetOf l) (hm : SetOf m) : setL l = setL m ↔ l = m := set_inj hl.lt hm.lt
end Go.Proofs.Ytbkkmcfpjpbhaaa
