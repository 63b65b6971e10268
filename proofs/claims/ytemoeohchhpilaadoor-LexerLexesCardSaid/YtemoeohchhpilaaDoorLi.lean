/- Integers of the lexer: their digits, the number, what strconv.ParseInt makes of them (mathematics). -/
import Derived.Test.YtemoeohchhpilaaDoorDsm
import Derived.Lib.ParseIntBCases
import Derived.Lib.Strings
namespace Go.Proofs.YtemoeohchhpilaaDoor

def digA (d : List UInt8) : Bool := d.all (digS.contains ·)
theorem digA_cons {c : UInt8} {r : List UInt8} : digA (c :: r) = true ↔ (48 ≤ c.toNat ∧ c.toNat ≤ 57) ∧ digA r = true := by
  unfold digA; rw [List.all_cons, Bool.and_eq_true, dig_iff, decide_eq_true_iff]
/-- The number that some digits spell, behind others. -/
def numFrom (acc : Nat) (d : List UInt8) : Nat := d.foldl (fun a c => 10 * a + (c.toNat - 48)) acc
theorem numFrom_nil (acc : Nat) : numFrom acc [] = acc := rfl
theorem numFrom_cons (acc : Nat) (c : UInt8) (r : List UInt8) : numFrom acc (c :: r) = numFrom (10 * acc + (c.toNat - 48)) r := by unfold numFrom; rw [List.foldl_cons]
theorem numFrom_ge (d : List UInt8) : ∀ acc, acc ≤ numFrom acc d := by
  induction d with
  | nil => intro acc; exact Nat.le_refl _
  | cons c r ih => intro acc; have := ih (10 * acc + (c.toNat - 48)); rw [numFrom_cons]; omega
theorem numFrom_app (d r : List UInt8) (acc : Nat) : numFrom acc (d ++ r) = numFrom (numFrom acc d) r := by simp [numFrom]
theorem numFrom_snoc (d : List UInt8) (c : UInt8) (acc : Nat) : numFrom acc (d ++ [c]) = 10 * numFrom acc d + (c.toNat - 48) := by
  simp [numFrom]
def fits (v : Int) : Prop := -9223372036854775808 ≤ v ∧ v ≤ 9223372036854775807
instance (v : Int) : Decidable (fits v) := by unfold fits; exact inferInstance
/-- The number of an integer. -/
def numI (x : List UInt8) : Int := if x.head? = some 45 then -(numFrom 0 (unsigned x) : Int) else (numFrom 0 (unsigned x) : Int)
def intE (x : List UInt8) : Int × Int := if intB x = true then (if fits (numI x) then (numI x, 0) else (0, 7)) else (0, 6)
theorem intB_iff (x : List UInt8) : intB x = true ↔ unsigned x ≠ [] ∧ digA (unsigned x) = true := by
  unfold intB digA; rw [Bool.and_eq_true, decide_eq_true_iff]
theorem parse_digits (d : List UInt8) : ∀ acc, digA d = true → acc ≤ 18446744073709551615 →
    Lib.parseUintM 18446744073709551615 acc d = if numFrom acc d ≤ 18446744073709551615 then .ok (numFrom acc d) else .range := by
  induction d with
  | nil => intro acc _ h; rw [if_pos (show numFrom acc [] ≤ _ from h)]; rfl
  | cons c r ih =>
    intro acc hd ha
    obtain ⟨hc, hr⟩ := digA_cons.1 hd
    have hg := numFrom_ge r (10 * acc + (c.toNat - 48))
    rw [Lib.parseUintM, if_pos hc, numFrom_cons]
    by_cases h1 : 1844674407370955162 ≤ acc
    · rw [if_pos h1, if_neg (by omega)]
    · rw [if_neg h1]
      by_cases h2 : 18446744073709551615 < acc * 10 + (c.toNat - 48)
      · rw [if_pos h2, if_neg (by omega)]
      · rw [if_neg h2, show acc * 10 + (c.toNat - 48) = 10 * acc + (c.toNat - 48) by omega]
        exact ih _ hr (by omega)
theorem parse_uint {d : List UInt8} (hd : digA d = true) (hn : d ≠ []) : Lib.parseUintB 64 d = if numFrom 0 d ≤ 18446744073709551615 then .ok (numFrom 0 d) else .range := by
  unfold Lib.parseUintB
  rw [if_neg hn]
  exact parse_digits d 0 hd (by omega)
theorem parse_pos {d : List UInt8} (hd : digA d = true) (hn : d ≠ []) : Lib.signlessC (2 ^ (64 - 1)) (Lib.parseUintB 64 d) = if fits (numFrom 0 d : Int) then .ok (numFrom 0 d : Int) else .range := by
  rw [parse_uint hd hn]
  by_cases hf : numFrom 0 d ≤ 18446744073709551615
  · rw [if_pos hf]
    show (if 2 ^ 63 ≤ numFrom 0 d then _ else _) = _
    by_cases h3 : 2 ^ 63 ≤ numFrom 0 d
    · rw [if_pos h3, if_neg (by unfold fits; omega)]
    · rw [if_neg h3, if_pos (by unfold fits; omega)]
  · rw [if_neg hf, if_neg (by unfold fits; omega)]; rfl
theorem parse_neg {d : List UInt8} (hd : digA d = true) (hn : d ≠ []) : Lib.signedC (2 ^ (64 - 1)) (Lib.parseUintB 64 d) = if fits (-(numFrom 0 d : Int)) then .ok (-(numFrom 0 d : Int)) else .range := by
  rw [parse_uint hd hn]
  by_cases hf : numFrom 0 d ≤ 18446744073709551615
  · rw [if_pos hf]
    show (if 2 ^ 63 < numFrom 0 d then _ else _) = _
    by_cases h3 : 2 ^ 63 < numFrom 0 d
    · rw [if_pos h3, if_neg (by unfold fits; omega)]
    · rw [if_neg h3, if_pos (by unfold fits; omega)]
  · rw [if_neg hf, if_neg (by unfold fits; omega)]; rfl
theorem parse_int {x : List UInt8} (h : intB x = true) : Lib.parseIntB 64 x = if fits (numI x) then .ok (numI x) else .range := by
  obtain ⟨h1, h2⟩ := (intB_iff x).1 h
  cases x with
  | nil => exact absurd rfl h1
  | cons c r =>
    by_cases h45 : c = 45
    · subst h45
      have e : unsigned (45 :: r) = r := rfl
      have en : numI (45 :: r) = -(numFrom 0 r : Int) := rfl
      rw [e] at h1 h2
      rw [Lib.parseIntB_minus, parse_neg h2 h1, en]
    · have en : numI (c :: r) = (numFrom 0 (unsigned (c :: r)) : Int) := by unfold numI; rw [if_neg (by simp [h45])]
      by_cases h43 : c = 43
      · subst h43
        have e : unsigned (43 :: r) = r := rfl
        rw [en, e]
        rw [e] at h1 h2
        rw [Lib.parseIntB_plus, parse_pos h2 h1]
      · have e : unsigned (c :: r) = c :: r := by
          show (if c = 43 ∨ c = 45 then r else c :: r) = _
          rw [if_neg (by simp [h43, h45])]
        rw [en, e]
        rw [e] at h1 h2
        rw [Lib.parseIntB_plain 64 c r (fun k => h43 (UInt8.toNat_inj.1 k)) (fun k => h45 (UInt8.toNat_inj.1 k)), parse_pos h2 h1]
theorem intE_e (x : List UInt8) : (intE x).2 = 0 ∨ intE x = (0, 7) ∨ intE x = (0, 6) := by
  unfold intE
  (repeat' split)
  · exact .inl rfl
  · exact .inr (.inl rfl)
  · exact .inr (.inr rfl)
theorem intE_no {x : List UInt8} (h : intB x = false) : intE x = (0, 6) := by unfold intE; rw [h]; rfl
theorem intE_ok {x : List UInt8} (h : intB x = true) (hf : fits (numI x)) : intE x = (numI x, 0) := by unfold intE; rw [if_pos h, if_pos hf]
theorem intE_rng {x : List UInt8} (h : intB x = true) (hf : ¬ fits (numI x)) : intE x = (0, 7) := by unfold intE; rw [if_pos h, if_neg hf]
end Go.Proofs.YtemoeohchhpilaaDoor
