/- Plain mathematics of decimal forms: what they are as lists of bytes, which number they spell, what strconv.ParseInt makes of them. -/
import Derived.Test.YtchnmbfeaaialaaGreatDoorNames
import Derived.Lib.ParseIntBCases
import Derived.Lib.Strings
import Derived.Lib.IndexBytes
namespace Go.Proofs.YtchnmbfeaaialaaGreatDoor
open Go.RowKit Go.PlainAid

def digL (d : List UInt8) : Bool := d.all fun c => digB c.toNat
def natL (d : List UInt8) : Bool := decide (d.length ≠ 0 ∧ ¬ (d.head? = some 48 ∧ 1 < d.length)) && digL d
theorem u8_eq {a : UInt8} {n : Nat} (h : a.toNat = n) : a = UInt8.ofNat n := by rw [← h]; simp
theorem bt_nth (s : ByteArray) (k : Nat) (h : k < s.size) : bt s k = ((s.data.toList[k]'(by simpa using h)).toNat : Int) := by rw [bt_get s k h]; rfl
theorem allB_list (p : Int → Bool) (s : ByteArray) : allB p s = s.data.toList.all fun c => p c.toNat := by
  rw [Bool.eq_iff_iff, List.all_eq_true]
  unfold allB
  rw [decide_eq_true_iff]
  constructor
  · intro h c hc
    obtain ⟨k, hk, rfl⟩ := List.getElem_of_mem hc
    have := h k (by simpa using hk)
    rwa [bt_nth s k (by simpa using hk)] at this
  · intro h k hk
    rw [bt_nth s k hk]
    exact h _ (List.getElem_mem _)
theorem head48L (l : List UInt8) (h : 0 < l.length) : (l[0].toNat : Int) = 48 ↔ l.head? = some 48 := by
  match l, h with
  | a :: r, _ =>
    simp only [List.getElem_cons_zero, List.head?_cons, Option.some.injEq]
    constructor
    · intro e; have : a.toNat = 48 := by omega
      exact u8_eq this
    · rintro rfl; rfl
theorem head_48 (s : ByteArray) : bt s 0 = 48 ↔ s.data.toList.head? = some 48 := by
  by_cases h : 0 < s.size
  · rw [bt_nth s 0 h]
    exact head48L _ _
  · have hl : s.data.toList = [] := by have := len_list s; exact List.eq_nil_of_length_eq_zero (by omega)
    rw [bt_end s (by omega), hl]; simp
theorem natB_list (s : ByteArray) : natB s = natL s.data.toList := by
  unfold natB natL digL
  rw [allB_list]
  congr 1
  rw [Bool.eq_iff_iff, decide_eq_true_iff, decide_eq_true_iff, head_48, len_list]

/-- The decimal form of an integer of any size, as a list. -/
def decL (l : List UInt8) : Bool := match l with
  | 45 :: d => natL d && !(d.head? == some 48)
  | d => natL d
def minusL (l : List UInt8) : Bool := match l with | 45 :: c :: _ => !(c == 48) | _ => false
theorem minusL_at (l : List UInt8) (h : 1 < l.length) : decide ((l[0].toNat : Int) = 45 ∧ (l[1].toNat : Int) ≠ 48) = minusL l := by
  match l, h with
  | a :: b :: r, _ =>
    simp only [List.getElem_cons_zero, List.getElem_cons_succ]
    by_cases ha : a = 45
    · subst ha
      rw [Bool.eq_iff_iff, decide_eq_true_iff]
      simp only [minusL, Bool.not_eq_true', beq_eq_false_iff_ne]
      constructor
      · intro h e; subst e; exact h.2 rfl
      · intro h; exact ⟨rfl, fun e => h (u8_eq (n := 48) (by omega))⟩
    · have : ¬ ((a.toNat : Int) = 45) := fun e => ha (u8_eq (n := 45) (by omega))
      rw [decide_eq_false (fun h => this h.1)]
      unfold minusL
      split
      · rename_i c r' e; simp at e; exact absurd e.1 ha
      · rfl
theorem minusB_list (s : ByteArray) : minusB s = minusL s.data.toList := by
  unfold minusB
  by_cases h1 : 1 < s.size
  · rw [← minusL_at _ (by rw [len_list]; exact h1), bt_nth s 0 (by omega), bt_nth s 1 h1]
    simp [h1]
  · rw [decide_eq_false (by omega)]
    have hl : s.data.toList.length ≤ 1 := by rw [len_list]; omega
    generalize s.data.toList = l at *
    match l, hl with
    | [], _ => rfl
    | [a], _ => unfold minusL; split <;> simp_all
theorem natL_minus (r : List UInt8) : natL (45 :: r) = false := by
  unfold natL digL; simp [digB]
theorem decB_list (s : ByteArray) : decB s = decL s.data.toList := by
  unfold decB
  rw [minusB_list, natB_list, natB_list]
  rw [Lib.extract_to_end]
  generalize s.data.toList = l
  match l with
  | [] => rfl
  | [a] =>
    have e : minusL [a] = false := by unfold minusL; split <;> simp_all
    rw [e]
    by_cases ha : a = 45
    · subst ha; rfl
    · have : decL [a] = natL [a] := by unfold decL; split <;> simp_all
      rw [this]; rfl
  | a :: b :: r =>
    by_cases ha : a = 45
    · subst ha
      by_cases hb : b = 48
      · subst hb
        simp [decL, natL_minus, minusL]
      · simp [decL, hb, minusL]
    · have : decL (a :: b :: r) = natL (a :: b :: r) := by unfold decL; split <;> simp_all
      have e : minusL (a :: b :: r) = false := by unfold minusL; split <;> simp_all
      rw [this, e]; rfl

/-- The number that some digits spell, behind others. -/
def numFrom (acc : Nat) (d : List UInt8) : Nat := d.foldl (fun a c => 10 * a + (c.toNat - 48)) acc
theorem numFrom_ge (d : List UInt8) : ∀ acc, acc ≤ numFrom acc d := by
  induction d with
  | nil => intro acc; exact Nat.le_refl _
  | cons c r ih => intro acc; have := ih (10 * acc + (c.toNat - 48)); simp only [numFrom, List.foldl_cons] at *; omega
/-- The decimal form's sign, its digits, the integer. -/
def negL (l : List UInt8) : Bool := l.head? == some 45
def digsL (l : List UInt8) : List UInt8 := if negL l then l.drop 1 else l
def valL (l : List UInt8) : Int := if negL l then -(numFrom 0 (digsL l) : Int) else numFrom 0 (digsL l)
theorem decL_form {l : List UInt8} (h : decL l = true) : digL (digsL l) = true ∧ (digsL l).length ≠ 0 ∧ ¬ (1 < (digsL l).length ∧ (digsL l).head? = some 48) ∧ (negL l = true → (digsL l).head? ≠ some 48) := by
  match l with
  | [] => cases h
  | a :: r =>
    by_cases ha : a = 45
    · subst ha
      simp only [decL, Bool.and_eq_true, natL, decide_eq_true_iff] at h
      have e : digsL (45 :: r) = r := rfl
      rw [e]
      refine ⟨h.1.2, h.1.1.1, fun k => h.1.1.2 ⟨k.2, k.1⟩, fun _ k => ?_⟩
      rw [k] at h; simp at h
    · have e1 : negL (a :: r) = false := by simp [negL, ha]
      have e : digsL (a :: r) = a :: r := by unfold digsL; rw [e1]; rfl
      have : decL (a :: r) = natL (a :: r) := by unfold decL; split <;> simp_all
      rw [this] at h
      simp only [Bool.and_eq_true, natL, decide_eq_true_iff] at h
      rw [e, e1]
      exact ⟨h.2, h.1.1, fun k => h.1.2 ⟨k.2, k.1⟩, fun k => by cases k⟩
theorem digL_cons {c : UInt8} {r : List UInt8} (h : digL (c :: r) = true) : (48 ≤ c.toNat ∧ c.toNat ≤ 57) ∧ digL r = true := by
  simp only [digL, List.all_cons, Bool.and_eq_true, digB, decide_eq_true_iff] at h
  exact ⟨by omega, h.2⟩
theorem parse_digits (d : List UInt8) : ∀ acc, digL d = true → acc ≤ 18446744073709551615 →
    Lib.parseUintM 18446744073709551615 acc d = if numFrom acc d ≤ 18446744073709551615 then .ok (numFrom acc d) else .range := by
  induction d with
  | nil => intro acc _ h; rw [if_pos (show numFrom acc [] ≤ _ from h)]; rfl
  | cons c r ih =>
    intro acc hd ha
    obtain ⟨hc, hr⟩ := digL_cons hd
    have hg := numFrom_ge r (10 * acc + (c.toNat - 48))
    have e : numFrom acc (c :: r) = numFrom (10 * acc + (c.toNat - 48)) r := rfl
    rw [Lib.parseUintM, if_pos hc, e]
    by_cases h1 : 1844674407370955162 ≤ acc
    · rw [if_pos h1, if_neg (by omega)]
    · rw [if_neg h1]
      by_cases h2 : 18446744073709551615 < acc * 10 + (c.toNat - 48)
      · rw [if_pos h2, if_neg (by omega)]
      · rw [if_neg h2, show acc * 10 + (c.toNat - 48) = 10 * acc + (c.toNat - 48) by omega]
        exact ih _ hr (by omega)
/-- A number that fits 64 bits. -/
def fits (v : Int) : Prop := -9223372036854775808 ≤ v ∧ v ≤ 9223372036854775807
instance (v : Int) : Decidable (fits v) := by unfold fits; exact inferInstance
theorem parse_dec {l : List UInt8} (h : decL l = true) : Lib.parseIntB 64 l = if fits (valL l) then .ok (valL l) else .range := by
  obtain ⟨h1, h2, _, _⟩ := decL_form h
  have hp : ∀ d, digL d = true → d.length ≠ 0 → Lib.parseUintB 64 d = if numFrom 0 d ≤ 18446744073709551615 then .ok (numFrom 0 d) else .range := by
    intro d hd hn
    unfold Lib.parseUintB
    rw [if_neg (fun e => hn (by rw [e]; rfl))]
    exact parse_digits d 0 hd (by omega)
  match l with
  | [] => cases h
  | a :: r =>
    by_cases ha : a = 45
    · subst ha
      have e : digsL (45 :: r) = r := rfl
      have ev : valL (45 :: r) = -(numFrom 0 r : Int) := rfl
      rw [e] at h1 h2
      rw [Lib.parseIntB_minus, hp r h1 h2, ev]
      by_cases hf : numFrom 0 r ≤ 18446744073709551615
      · rw [if_pos hf]
        show (if 2 ^ 63 < numFrom 0 r then _ else _) = _
        by_cases h3 : 2 ^ 63 < numFrom 0 r
        · rw [if_pos h3, if_neg (by unfold fits; omega)]
        · rw [if_neg h3, if_pos (by unfold fits; omega)]
      · rw [if_neg hf, if_neg (by unfold fits; omega)]; rfl
    · have e1 : negL (a :: r) = false := by simp [negL, ha]
      have e : digsL (a :: r) = a :: r := by unfold digsL; rw [e1]; rfl
      have ev : valL (a :: r) = (numFrom 0 (a :: r) : Int) := by unfold valL; rw [e1, e]; rfl
      rw [e] at h1 h2
      have hd := (digL_cons h1).1
      rw [Lib.parseIntB_plain 64 a r (by omega) (by omega), hp _ h1 h2, ev]
      by_cases hf : numFrom 0 (a :: r) ≤ 18446744073709551615
      · rw [if_pos hf]
        show (if 2 ^ 63 ≤ numFrom 0 (a :: r) then _ else _) = _
        by_cases h3 : 2 ^ 63 ≤ numFrom 0 (a :: r)
        · rw [if_pos h3, if_neg (by unfold fits; omega)]
        · rw [if_neg h3, if_pos (by unfold fits; omega)]
      · rw [if_neg hf, if_neg (by unfold fits; omega)]; rfl
/-- What words.Int asks: the string is not -0, and what stands behind a minus sign is a natural number. -/
theorem dec_trim (l : List UInt8) : decL l = (!(l == [45, 48]) && natL (Lib.trimPrefix l [45])) := by
  match l with
  | [] => rfl
  | a :: r =>
    by_cases ha : a = 45
    · subst ha
      have e : Lib.trimPrefix (45 :: r) [45] = r := by simp [Lib.trimPrefix, Lib.hasPrefix]
      rw [e]
      show (natL r && !(r.head? == some 48)) = _
      match r with
      | [] => rfl
      | b :: r' =>
        by_cases hb : b = 48
        · subst hb
          match r' with
          | [] => rfl
          | c :: r'' => simp [natL]
        · have hb' : (b == 48) = false := beq_eq_false_iff_ne.mpr hb
          simp [hb']
    · have e : Lib.trimPrefix (a :: r) [45] = a :: r := by simp [Lib.trimPrefix, Lib.hasPrefix, Ne.symm ha]
      have : decL (a :: r) = natL (a :: r) := by unfold decL; split <;> simp_all
      rw [this, e]; simp [ha]
/-- What Int returns. -/
def intS (l : List UInt8) (low high : Int) : Int × Int :=
  if decL l = true then (if fits (valL l) ∧ low ≤ valL l ∧ valL l ≤ high then (valL l, 0) else (0, 7)) else (0, 6)
end Go.Proofs.YtchnmbfeaaialaaGreatDoor
