import Derived.Test.YtdiinlmeoifgjaaGreatDoorSk
import Derived.Test.YtdiinlmeoifgjaaGreatDoorProg
import Derived.BigGuardPart
import Derived.Deep.QuietTactic
import Derived.BigQuiet
import Derived.IntWalk
import Derived.RangeFuncRecord
/- Runes and their bytes: what the contracts of layer 2 speak of. Plain mathematics. -/
namespace Go.Proofs.YtdiinlmeoifgjaaGreatDoor

def ub (c : UInt8) : Int := (c.toNat : Int)
def u8 (n : Int) : UInt8 := UInt8.ofNat n.toNat
theorem ub_bd (c : UInt8) : 0 ≤ ub c ∧ ub c < 256 := by unfold ub; have := c.toNat_lt; omega
theorem ub_u8 {n : Int} (h : 0 ≤ n ∧ n < 256) : ub (u8 n) = n := by
  unfold ub u8; rw [UInt8.toNat_ofNat']; omega
theorem u8_eq {n : Int} {c : UInt8} (h : n = ub c) : u8 n = c := by
  subst h; unfold u8 ub; simp
theorem ub_inj {a b : UInt8} (h : ub a = ub b) : a = b := by
  unfold ub at h; exact UInt8.toNat_inj.1 (by omega)

/-- How many bytes the runes have that begin with a byte. -/
def wA (c : Int) : Nat := if c < 128 then 1 else if c < 194 then 0 else if c < 224 then 2 else if c < 240 then 3 else if c ≤ 244 then 4 else 0
/-- What the first byte has beside the number in it. -/
def mkB (n : Nat) : Int := if n = 2 then 192 else if n = 3 then 224 else if n = 4 then 240 else 0
def loBR (c : Int) : Int := if c = 224 then 160 else if c = 240 then 144 else 128
def hiBR (c : Int) : Int := if c = 237 then 159 else if c = 244 then 143 else 191

/-- The later bytes of a rune. -/
def decGo : Nat → Int → Int → Int → List UInt8 → Int × Int
  | 0, r, _, _, _ => (r, 0)
  | _ + 1, _, _, _, [] => (0, 320)
  | n + 1, r, lo, hi, c :: t => if lo ≤ ub c ∧ ub c ≤ hi then decGo n (r * 64 + (ub c - 128)) 128 191 t else (0, 6)
/-- Decode of a list of bytes from its beginning. -/
def dec : List UInt8 → Int × Nat × Int
  | [] => (0, 0, 7)
  | c :: t => if wA (ub c) = 0 then (0, 0, 6) else
    if (decGo (wA (ub c) - 1) (ub c - mkB (wA (ub c))) (loBR (ub c)) (hiBR (ub c)) t).2 = 0 then ((decGo (wA (ub c) - 1) (ub c - mkB (wA (ub c))) (loBR (ub c)) (hiBR (ub c)) t).1, wA (ub c), 0)
    else (0, 0, (decGo (wA (ub c) - 1) (ub c - mkB (wA (ub c))) (loBR (ub c)) (hiBR (ub c)) t).2)

def isR (r : Int) : Bool := decide (0 ≤ r ∧ r ≤ 1114111 ∧ ¬ (55296 ≤ r ∧ r ≤ 57343))
theorem isR_iff {r : Int} : isR r = true ↔ 0 ≤ r ∧ r ≤ 1114111 ∧ ¬ (55296 ≤ r ∧ r ≤ 57343) := decide_eq_true_iff
theorem isR_not {r : Int} : isR r = false ↔ ¬ (0 ≤ r ∧ r ≤ 1114111 ∧ ¬ (55296 ≤ r ∧ r ≤ 57343)) := decide_eq_false_iff_not
/-- How many bytes a rune has. -/
def wO (r : Int) : Nat := if isR r = false then 0 else if r < 128 then 1 else if r < 2048 then 2 else if r < 65536 then 3 else 4
/-- The bytes of a rune. -/
def enc (r : Int) : List UInt8 := if isR r = false then [] else if r < 128 then [u8 r] else if r < 2048 then [u8 (192 + r / 64), u8 (128 + r % 64)]
  else if r < 65536 then [u8 (224 + r / 4096), u8 (128 + r / 64 % 64), u8 (128 + r % 64)]
  else [u8 (240 + r / 262144), u8 (128 + r / 4096 % 64), u8 (128 + r / 64 % 64), u8 (128 + r % 64)]

theorem wO_0 {r : Int} (h : isR r = false) : wO r = 0 := by unfold wO; rw [if_pos h]
theorem enc_0 {r : Int} (h : isR r = false) : enc r = [] := by unfold enc; rw [if_pos h]
theorem wO_1 {r : Int} (h0 : 0 ≤ r) (h : r < 128) : wO r = 1 := by
  unfold wO; rw [isR_iff.2 (by omega), if_neg (by simp), if_pos h]
theorem enc_1 {r : Int} (h0 : 0 ≤ r) (h : r < 128) : enc r = [u8 r] := by
  unfold enc; rw [isR_iff.2 (by omega), if_neg (by simp), if_pos h]
theorem wO_2 {r : Int} (h0 : 128 ≤ r) (h : r < 2048) : wO r = 2 := by
  unfold wO; rw [isR_iff.2 (by omega), if_neg (by simp), if_neg (by omega), if_pos h]
theorem enc_2 {r : Int} (h0 : 128 ≤ r) (h : r < 2048) : enc r = [u8 (192 + r / 64), u8 (128 + r % 64)] := by
  unfold enc; rw [isR_iff.2 (by omega), if_neg (by simp), if_neg (by omega), if_pos h]
theorem wO_3 {r : Int} (hr : isR r = true) (h0 : 2048 ≤ r) (h : r < 65536) : wO r = 3 := by
  unfold wO; rw [hr, if_neg (by simp), if_neg (by omega), if_neg (by omega), if_pos h]
theorem enc_3 {r : Int} (hr : isR r = true) (h0 : 2048 ≤ r) (h : r < 65536) : enc r = [u8 (224 + r / 4096), u8 (128 + r / 64 % 64), u8 (128 + r % 64)] := by
  unfold enc; rw [hr, if_neg (by simp), if_neg (by omega), if_neg (by omega), if_pos h]
theorem wO_4 {r : Int} (h0 : 65536 ≤ r) (h : r ≤ 1114111) : wO r = 4 := by
  unfold wO; rw [isR_iff.2 (by omega), if_neg (by simp), if_neg (by omega), if_neg (by omega), if_neg (by omega)]
theorem enc_4 {r : Int} (h0 : 65536 ≤ r) (h : r ≤ 1114111) : enc r = [u8 (240 + r / 262144), u8 (128 + r / 4096 % 64), u8 (128 + r / 64 % 64), u8 (128 + r % 64)] := by
  unfold enc; rw [isR_iff.2 (by omega), if_neg (by simp), if_neg (by omega), if_neg (by omega), if_neg (by omega)]
/-- The four forms of a rune. -/
theorem isR_forms {r : Int} (h : isR r = true) : (0 ≤ r ∧ r < 128) ∨ (128 ≤ r ∧ r < 2048) ∨ (2048 ≤ r ∧ r < 65536) ∨ (65536 ≤ r ∧ r ≤ 1114111) := by
  have := isR_iff.1 h; omega
theorem enc_len (r : Int) : (enc r).length = wO r := by
  cases hr : isR r
  · rw [enc_0 hr, wO_0 hr]; rfl
  · rcases isR_forms hr with ⟨a, b⟩ | ⟨a, b⟩ | ⟨a, b⟩ | ⟨a, b⟩
    · rw [enc_1 a b, wO_1 a b]; rfl
    · rw [enc_2 a b, wO_2 a b]; rfl
    · rw [enc_3 hr a b, wO_3 hr a b]; rfl
    · rw [enc_4 a b, wO_4 a b]; rfl
theorem wO_le (r : Int) : wO r ≤ 4 := by unfold wO; (repeat' split) <;> omega
theorem wO_pos {r : Int} (h : isR r = true) : 1 ≤ wO r := by
  rcases isR_forms h with ⟨a, b⟩ | ⟨a, b⟩ | ⟨a, b⟩ | ⟨a, b⟩
  · rw [wO_1 a b]; omega
  · rw [wO_2 a b]; omega
  · rw [wO_3 h a b]; omega
  · rw [wO_4 a b]; omega
theorem wO_zero {r : Int} : wO r = 0 ↔ isR r = false := by
  constructor
  · intro h; cases hr : isR r
    · rfl
    · have := wO_pos hr; omega
  · exact wO_0

/-- Decode, form by form. -/
theorem dec_c0 {c : UInt8} {t : List UInt8} (h : wA (ub c) = 0) : dec (c :: t) = (0, 0, 6) := by
  rw [dec, if_pos h]
theorem wA_1 {c : Int} (h : c < 128) : wA c = 1 := by unfold wA; rw [if_pos h]
theorem wA_0 {c : Int} (h : (128 ≤ c ∧ c < 194) ∨ 244 < c) : wA c = 0 := by
  unfold wA; rw [if_neg (by omega)]; (repeat' split) <;> omega
theorem wA_2 {c : Int} (h : 194 ≤ c) (h2 : c < 224) : wA c = 2 := by unfold wA; rw [if_neg (by omega), if_neg (by omega), if_pos h2]
theorem wA_3 {c : Int} (h : 224 ≤ c) (h2 : c < 240) : wA c = 3 := by unfold wA; rw [if_neg (by omega), if_neg (by omega), if_neg (by omega), if_pos h2]
theorem wA_4 {c : Int} (h : 240 ≤ c) (h2 : c ≤ 244) : wA c = 4 := by unfold wA; rw [if_neg (by omega), if_neg (by omega), if_neg (by omega), if_neg (by omega), if_pos h2]
theorem wA_forms (c : Int) : c < 128 ∨ ((128 ≤ c ∧ c < 194) ∨ 244 < c) ∨ (194 ≤ c ∧ c < 224) ∨ (224 ≤ c ∧ c < 240) ∨ (240 ≤ c ∧ c ≤ 244) := by omega
theorem dec_c1 {c : UInt8} {t : List UInt8} (h : ub c < 128) : dec (c :: t) = (ub c, 1, 0) := by
  rw [dec, wA_1 h, if_neg (by decide)]; simp [decGo, mkB]
/-- The rest of two, three and four bytes. -/
def two (c : Int) : List UInt8 → Int × Nat × Int
  | [] => (0, 0, 320)
  | d :: _ => if 128 ≤ ub d ∧ ub d ≤ 191 then ((c - 192) * 64 + (ub d - 128), 2, 0) else (0, 0, 6)
def three (c : Int) : List UInt8 → Int × Nat × Int
  | [] => (0, 0, 320)
  | [d] => if loBR c ≤ ub d ∧ ub d ≤ hiBR c then (0, 0, 320) else (0, 0, 6)
  | d :: e :: _ => if loBR c ≤ ub d ∧ ub d ≤ hiBR c then if 128 ≤ ub e ∧ ub e ≤ 191 then (((c - 224) * 64 + (ub d - 128)) * 64 + (ub e - 128), 3, 0) else (0, 0, 6) else (0, 0, 6)
def four (c : Int) : List UInt8 → Int × Nat × Int
  | [] => (0, 0, 320)
  | [d] => if loBR c ≤ ub d ∧ ub d ≤ hiBR c then (0, 0, 320) else (0, 0, 6)
  | [d, e] => if loBR c ≤ ub d ∧ ub d ≤ hiBR c then if 128 ≤ ub e ∧ ub e ≤ 191 then (0, 0, 320) else (0, 0, 6) else (0, 0, 6)
  | d :: e :: f :: _ => if loBR c ≤ ub d ∧ ub d ≤ hiBR c then if 128 ≤ ub e ∧ ub e ≤ 191 then if 128 ≤ ub f ∧ ub f ≤ 191 then ((((c - 240) * 64 + (ub d - 128)) * 64 + (ub e - 128)) * 64 + (ub f - 128), 4, 0) else (0, 0, 6) else (0, 0, 6) else (0, 0, 6)
theorem lohi_2 {c : Int} (h : 194 ≤ c) (h2 : c < 224) : loBR c = 128 ∧ hiBR c = 191 := by
  unfold loBR hiBR; refine ⟨?_, ?_⟩ <;> (repeat' split) <;> omega
theorem dec_c2 {c : UInt8} {t : List UInt8} (h : 194 ≤ ub c) (h2 : ub c < 224) : dec (c :: t) = two (ub c) t := by
  rw [dec, wA_2 h h2, if_neg (by decide), (lohi_2 h h2).1, (lohi_2 h h2).2]
  cases t with
  | nil => simp [decGo, two]
  | cons d t =>
    by_cases hd : 128 ≤ ub d ∧ ub d ≤ 191
    · simp [decGo, two, mkB, hd]
    · simp only [decGo, two, if_neg hd]; simp
theorem dec_c3 {c : UInt8} {t : List UInt8} (h : 224 ≤ ub c) (h2 : ub c < 240) : dec (c :: t) = three (ub c) t := by
  rw [dec, wA_3 h h2, if_neg (by decide)]
  match t with
  | [] => simp [decGo, three]
  | [d] =>
    by_cases hd : loBR (ub c) ≤ ub d ∧ ub d ≤ hiBR (ub c)
    · simp [decGo, three, mkB, hd]
    · simp only [decGo, three, if_neg hd]; simp
  | d :: e :: t =>
    by_cases hd : loBR (ub c) ≤ ub d ∧ ub d ≤ hiBR (ub c)
    · by_cases he : 128 ≤ ub e ∧ ub e ≤ 191
      · simp [decGo, three, mkB, hd, he]
      · simp only [decGo, three, if_pos hd, if_neg he]; simp
    · simp only [decGo, three, if_neg hd]; simp
theorem dec_c4 {c : UInt8} {t : List UInt8} (h : 240 ≤ ub c) (h2 : ub c ≤ 244) : dec (c :: t) = four (ub c) t := by
  rw [dec, wA_4 h h2, if_neg (by decide)]
  match t with
  | [] => simp [decGo, four]
  | [d] =>
    by_cases hd : loBR (ub c) ≤ ub d ∧ ub d ≤ hiBR (ub c)
    · simp [decGo, four, mkB, hd]
    · simp only [decGo, four, if_neg hd]; simp
  | [d, e] =>
    by_cases hd : loBR (ub c) ≤ ub d ∧ ub d ≤ hiBR (ub c)
    · by_cases he : 128 ≤ ub e ∧ ub e ≤ 191
      · simp [decGo, four, mkB, hd, he]
      · simp only [decGo, four, if_pos hd, if_neg he]; simp
    · simp only [decGo, four, if_neg hd]; simp
  | d :: e :: f :: t =>
    by_cases hd : loBR (ub c) ≤ ub d ∧ ub d ≤ hiBR (ub c)
    · by_cases he : 128 ≤ ub e ∧ ub e ≤ 191
      · by_cases hf : 128 ≤ ub f ∧ ub f ≤ 191
        · simp [decGo, four, mkB, hd, he, hf]
        · simp only [decGo, four, if_pos hd, if_pos he, if_neg hf]; simp
      · simp only [decGo, four, if_pos hd, if_neg he]; simp
    · simp only [decGo, four, if_neg hd]; simp
theorem lo_hi_bd (c : Int) : (c = 224 ∧ loBR c = 160 ∧ hiBR c = 191) ∨ (c = 237 ∧ loBR c = 128 ∧ hiBR c = 159) ∨ (c = 240 ∧ loBR c = 144 ∧ hiBR c = 191) ∨ (c = 244 ∧ loBR c = 128 ∧ hiBR c = 143) ∨ (c ≠ 224 ∧ c ≠ 237 ∧ c ≠ 240 ∧ c ≠ 244 ∧ loBR c = 128 ∧ hiBR c = 191) := by
  unfold loBR hiBR; (repeat' split) <;> omega

theorem trip {a b : Int} (h : a = b) (n : Nat) (e : Int) : (a, n, e) = (b, n, e) := by rw [h]
theorem dec_enc {r : Int} (hr : isR r = true) (t : List UInt8) : dec (enc r ++ t) = (r, wO r, 0) := by
  have hb := isR_iff.1 hr
  rcases isR_forms hr with ⟨a, b⟩ | ⟨a, b⟩ | ⟨a, b⟩ | ⟨a, b⟩
  · have e1 := ub_u8 (n := r) (by omega)
    rw [enc_1 a b, wO_1 a b, List.cons_append, dec_c1 (by omega), e1]
  · have e1 := ub_u8 (n := 192 + r / 64) (by omega)
    have e2 := ub_u8 (n := 128 + r % 64) (by omega)
    rw [enc_2 a b, wO_2 a b, List.cons_append, List.cons_append, dec_c2 (by omega) (by omega)]
    simp only [two]
    rw [if_pos (by omega), e1, e2]
    exact trip (by omega) _ _
  · have e1 := ub_u8 (n := 224 + r / 4096) (by omega)
    have e2 := ub_u8 (n := 128 + r / 64 % 64) (by omega)
    have e3 := ub_u8 (n := 128 + r % 64) (by omega)
    rw [enc_3 hr a b, wO_3 hr a b, List.cons_append, List.cons_append, List.cons_append, dec_c3 (by omega) (by omega)]
    have hl := lo_hi_bd (ub (u8 (224 + r / 4096)))
    simp only [three]
    rw [if_pos (by omega), if_pos (by omega), e1, e2, e3]
    exact trip (by omega) _ _
  · have e1 := ub_u8 (n := 240 + r / 262144) (by omega)
    have e2 := ub_u8 (n := 128 + r / 4096 % 64) (by omega)
    have e3 := ub_u8 (n := 128 + r / 64 % 64) (by omega)
    have e4 := ub_u8 (n := 128 + r % 64) (by omega)
    rw [enc_4 a b, wO_4 a b, List.cons_append, List.cons_append, List.cons_append, List.cons_append, dec_c4 (by omega) (by omega)]
    have hl := lo_hi_bd (ub (u8 (240 + r / 262144)))
    simp only [four]
    rw [if_pos (by omega), if_pos (by omega), if_pos (by omega), e1, e2, e3, e4]
    exact trip (by omega) _ _

theorem fst_of {a r : Int} {b n : Nat} {c e : Int} (h : (a, b, c) = (r, n, e)) : a = r ∧ b = n ∧ c = e := by
  simp only [Prod.mk.injEq] at h; exact h
theorem dec_ok : ∀ {L : List UInt8} {r : Int} {n : Nat}, dec L = (r, n, 0) → isR r = true ∧ n = wO r ∧ ∃ t, L = enc r ++ t := by
  intro L r n h
  cases L with
  | nil => have := (fst_of h).2.2; omega
  | cons c t =>
    have hc := ub_bd c
    rcases wA_forms (ub c) with h1 | h1 | ⟨h1, h2⟩ | ⟨h1, h2⟩ | ⟨h1, h2⟩
    · rw [dec_c1 h1] at h
      obtain ⟨rfl, rfl, _⟩ := fst_of h
      refine ⟨isR_iff.2 (by omega), (wO_1 (by omega) h1).symm, t, ?_⟩
      rw [enc_1 (by omega) h1, u8_eq rfl]; rfl
    · rw [dec_c0 (wA_0 h1)] at h; have := (fst_of h).2.2; omega
    · rw [dec_c2 h1 h2] at h
      match t with
      | [] => have := (fst_of h).2.2; omega
      | d :: t =>
        simp only [two] at h
        split at h
        · obtain ⟨rfl, rfl, _⟩ := fst_of h
          refine ⟨isR_iff.2 (by omega), (wO_2 (by omega) (by omega)).symm, t, ?_⟩
          rw [enc_2 (by omega) (by omega), u8_eq (c := c) (by omega), u8_eq (c := d) (by omega)]; rfl
        · have := (fst_of h).2.2; omega
    · rw [dec_c3 h1 h2] at h
      have hl := lo_hi_bd (ub c)
      match t with
      | [] => have := (fst_of h).2.2; omega
      | [d] => simp only [three] at h; split at h <;> (have := (fst_of h).2.2; omega)
      | d :: e :: t =>
        simp only [three] at h
        split at h
        · split at h
          · obtain ⟨rfl, rfl, _⟩ := fst_of h
            have hr : isR (((ub c - 224) * 64 + (ub d - 128)) * 64 + (ub e - 128)) = true := isR_iff.2 (by omega)
            refine ⟨hr, (wO_3 hr (by omega) (by omega)).symm, t, ?_⟩
            rw [enc_3 hr (by omega) (by omega), u8_eq (c := c) (by omega), u8_eq (c := d) (by omega), u8_eq (c := e) (by omega)]; rfl
          · have := (fst_of h).2.2; omega
        · have := (fst_of h).2.2; omega
    · rw [dec_c4 h1 h2] at h
      have hl := lo_hi_bd (ub c)
      match t with
      | [] => have := (fst_of h).2.2; omega
      | [d] => simp only [four] at h; split at h <;> (have := (fst_of h).2.2; omega)
      | [d, e] =>
        simp only [four] at h
        split at h
        · split at h <;> (have := (fst_of h).2.2; omega)
        · have := (fst_of h).2.2; omega
      | d :: e :: f :: t =>
        simp only [four] at h
        split at h
        · split at h
          · split at h
            · obtain ⟨rfl, rfl, _⟩ := fst_of h
              refine ⟨isR_iff.2 (by omega), (wO_4 (by omega) (by omega)).symm, t, ?_⟩
              rw [enc_4 (by omega) (by omega), u8_eq (c := c) (by omega), u8_eq (c := d) (by omega), u8_eq (c := e) (by omega), u8_eq (c := f) (by omega)]; rfl
            · have := (fst_of h).2.2; omega
          · have := (fst_of h).2.2; omega
        · have := (fst_of h).2.2; omega
theorem enc_inj {r s : Int} (hr : isR r = true) (hs : isR s = true) {t u : List UInt8} (h : enc r ++ t = enc s ++ u) : r = s := by
  have h1 := dec_enc hr t
  rw [h, dec_enc hs u] at h1
  exact (fst_of h1).1.symm
theorem no_if {P Q : Prop} [Decidable P] [Decidable Q] {x e : Int} {n : Nat} (h : (if P then ((0, 0, 6) : Int × Nat × Int) else if Q then (x, n, 0) else (0, 0, e)).2.2 ≠ 0) :
    (if P then ((0, 0, 6) : Int × Nat × Int) else if Q then (x, n, 0) else (0, 0, e)) = (0, 0, (if P then ((0, 0, 6) : Int × Nat × Int) else if Q then (x, n, 0) else (0, 0, e)).2.2) := by
  by_cases p : P
  · rw [if_pos p]
  · rw [if_neg p] at h ⊢
    by_cases q : Q
    · rw [if_pos q] at h; exact absurd rfl h
    · rw [if_neg q]
/-- With an error the rest is zero, and the error is one of three. -/
theorem dec_no {L : List UInt8} (h : (dec L).2.2 ≠ 0) : dec L = (0, 0, (dec L).2.2) := by
  cases L with
  | nil => rfl
  | cons c t =>
    rw [dec] at h ⊢
    exact no_if h
theorem decGo_err : ∀ (n : Nat) (r lo hi : Int) (t : List UInt8), (decGo n r lo hi t).2 = 0 ∨ (decGo n r lo hi t).2 = 6 ∨ (decGo n r lo hi t).2 = 320 := by
  intro n
  induction n with
  | zero => intro r lo hi t; exact .inl (by unfold decGo; rfl)
  | succ n ih =>
    intro r lo hi t
    cases t with
    | nil => exact .inr (.inr (by unfold decGo; rfl))
    | cons c t =>
      unfold decGo; split
      · exact ih _ _ _ _
      · exact .inr (.inl rfl)
theorem three_if {P Q : Prop} [Decidable P] [Decidable Q] {x e : Int} {n : Nat} (h : e = 0 ∨ e = 6 ∨ e = 320) :
    (if P then ((0, 0, 6) : Int × Nat × Int) else if Q then (x, n, 0) else (0, 0, e)).2.2 = 0 ∨ (if P then ((0, 0, 6) : Int × Nat × Int) else if Q then (x, n, 0) else (0, 0, e)).2.2 = 6 ∨ (if P then ((0, 0, 6) : Int × Nat × Int) else if Q then (x, n, 0) else (0, 0, e)).2.2 = 320 := by
  by_cases p : P
  · rw [if_pos p]; exact .inr (.inl rfl)
  · rw [if_neg p]
    by_cases q : Q
    · rw [if_pos q]; exact .inl rfl
    · rw [if_neg q]; exact h
theorem dec_err (c : UInt8) (t : List UInt8) : (dec (c :: t)).2.2 = 0 ∨ (dec (c :: t)).2.2 = 6 ∨ (dec (c :: t)).2.2 = 320 := by
  rw [dec]
  exact three_if (decGo_err _ _ _ _ _)
theorem dec_bd (L : List UInt8) : 0 ≤ (dec L).1 ∧ (dec L).1 ≤ 1114111 ∧ (dec L).2.1 ≤ 4 ∧ (dec L).2.1 ≤ L.length := by
  by_cases h : (dec L).2.2 = 0
  · obtain ⟨h1, h2, t, h3⟩ := dec_ok (L := L) (r := (dec L).1) (n := (dec L).2.1) (by rw [← h])
    have := isR_iff.1 h1
    have h4 := wO_le (dec L).1
    have h5 := congrArg List.length h3
    rw [List.length_append, enc_len] at h5
    omega
  · rw [dec_no h]; simp
end Go.Proofs.YtdiinlmeoifgjaaGreatDoor

/- The runes of a text, and where they begin: plain mathematics. -/
namespace Go.Proofs.YtdiinlmeoifgjaaGreatDoor

/-- The runes up to the first bytes that are not those of a rune, and the error there. -/
def runsF : Nat → List UInt8 → List Int × Int
  | 0, _ => ([], 0)
  | f + 1, L => if L = [] then ([], 0) else if (dec L).2.2 = 0 then ((dec L).1 :: (runsF f (L.drop (dec L).2.1)).1, (runsF f (L.drop (dec L).2.1)).2) else ([], (dec L).2.2)
def runs (L : List UInt8) : List Int × Int := runsF L.length L
theorem runsF_fuel : ∀ (f g : Nat) (L : List UInt8), L.length ≤ f → L.length ≤ g → runsF f L = runsF g L := by
  intro f
  induction f with
  | zero =>
    intro g L hf hg
    obtain rfl : L = [] := List.eq_nil_of_length_eq_zero (by omega)
    cases g with
    | zero => rfl
    | succ g => rw [runsF, runsF, if_pos rfl]
  | succ f ih =>
    intro g L hf hg
    cases g with
    | zero =>
      obtain rfl : L = [] := List.eq_nil_of_length_eq_zero (by omega)
      rw [runsF, runsF, if_pos rfl]
    | succ g =>
      rw [runsF, runsF]
      by_cases h0 : L = []
      · rw [if_pos h0, if_pos h0]
      · rw [if_neg h0, if_neg h0]
        by_cases h1 : (dec L).2.2 = 0
        · rw [if_pos h1, if_pos h1]
          obtain ⟨hr, hn, _⟩ := dec_ok (L := L) (r := (dec L).1) (n := (dec L).2.1) (by rw [← h1])
          have := wO_pos hr
          have hl : L.length ≠ 0 := fun e => h0 (List.eq_nil_of_length_eq_zero e)
          have e : runsF f (L.drop (dec L).2.1) = runsF g (L.drop (dec L).2.1) := ih g _ (by rw [List.length_drop]; omega) (by rw [List.length_drop]; omega)
          rw [e]
        · rw [if_neg h1, if_neg h1]
theorem runs_nil : runs [] = ([], 0) := rfl
theorem runs_ok {L : List UInt8} {r : Int} {n : Nat} (h : dec L = (r, n, 0)) : runs L = (r :: (runs (L.drop n)).1, (runs (L.drop n)).2) := by
  obtain ⟨hr, hn, t, ht⟩ := dec_ok h
  have h0 : L ≠ [] := by rintro rfl; have := (fst_of h).2.2; omega
  obtain ⟨m, hm⟩ : ∃ m, L.length = m + 1 := ⟨L.length - 1, by have : L.length ≠ 0 := fun e => h0 (List.eq_nil_of_length_eq_zero e); omega⟩
  have := wO_pos hr
  unfold runs
  rw [hm, runsF, if_neg h0, h, if_pos rfl]
  have e : runsF m (L.drop n) = runsF (L.drop n).length (L.drop n) := runsF_fuel _ _ _ (by rw [List.length_drop]; omega) (Nat.le_refl _)
  simp only [e]
theorem runs_err {L : List UInt8} {e : Int} (h0 : L ≠ []) (he : e ≠ 0) (h : (dec L).2.2 = e) : runs L = ([], e) := by
  obtain ⟨m, hm⟩ : ∃ m, L.length = m + 1 := ⟨L.length - 1, by have : L.length ≠ 0 := fun e => h0 (List.eq_nil_of_length_eq_zero e); omega⟩
  unfold runs
  rw [hm, runsF, if_neg h0, h, if_neg he]
/-- How many bytes runes have. -/
def wid (rs : List Int) : Nat := (rs.map wO).sum
def encs (rs : List Int) : List UInt8 := rs.flatMap enc
theorem wid_nil : wid [] = 0 := rfl
theorem wid_cons (r : Int) (rs : List Int) : wid (r :: rs) = wO r + wid rs := by simp [wid]
theorem wid_app (a b : List Int) : wid (a ++ b) = wid a + wid b := by simp [wid]
theorem encs_nil : encs [] = [] := rfl
theorem encs_cons (r : Int) (rs : List Int) : encs (r :: rs) = enc r ++ encs rs := by simp [encs]
theorem encs_app (a b : List Int) : encs (a ++ b) = encs a ++ encs b := by simp [encs]
theorem encs_len : ∀ rs : List Int, (encs rs).length = wid rs
  | [] => rfl
  | r :: rs => by rw [encs_cons, wid_cons, List.length_append, enc_len, encs_len rs]

theorem runs_encs : ∀ (rs : List Int) (t : List UInt8), (∀ r ∈ rs, isR r = true) → runs (encs rs ++ t) = (rs ++ (runs t).1, (runs t).2) := by
  intro rs
  induction rs with
  | nil => intro t _; rfl
  | cons r rs ih =>
    intro t h
    have hr := h r (List.mem_cons_self ..)
    have hd := dec_enc hr (encs rs ++ t)
    rw [encs_cons, List.append_assoc, runs_ok hd]
    have e : (enc r ++ (encs rs ++ t)).drop (wO r) = encs rs ++ t := by rw [← enc_len r]; simp
    rw [e, ih t fun x hx => h x (List.mem_cons_of_mem _ hx)]; rfl
theorem runs_split : ∀ (f : Nat) (L : List UInt8), L.length ≤ f → (∀ r ∈ (runs L).1, isR r = true) ∧ L = encs (runs L).1 ++ L.drop (wid (runs L).1) ∧ ((runs L).2 = 0 → L = encs (runs L).1) ∧
    ((runs L).2 ≠ 0 → (dec (L.drop (wid (runs L).1))).2.2 = (runs L).2 ∧ L.drop (wid (runs L).1) ≠ []) := by
  intro f
  induction f with
  | zero =>
    intro L h
    obtain rfl : L = [] := List.eq_nil_of_length_eq_zero (by omega)
    exact ⟨(fun r hr => by cases hr), rfl, fun _ => rfl, fun h => absurd rfl h⟩
  | succ f ih =>
    intro L h
    by_cases h0 : L = []
    · subst h0; exact ⟨(fun r hr => by cases hr), rfl, fun _ => rfl, fun h => absurd rfl h⟩
    · by_cases h1 : (dec L).2.2 = 0
      · obtain ⟨r, n, hrn⟩ : ∃ r n, dec L = (r, n, 0) := ⟨(dec L).1, (dec L).2.1, by rw [← h1]⟩
        obtain ⟨hr, hn, t, ht⟩ := dec_ok hrn
        have hp := wO_pos hr
        have hl : L.length ≠ 0 := fun e => h0 (List.eq_nil_of_length_eq_zero e)
        obtain ⟨i1, i2, i3, i4⟩ := ih (L.drop n) (by rw [List.length_drop]; omega)
        have hdn : L.drop n = t := by rw [ht, hn, ← enc_len r]; simp
        rw [runs_ok hrn]
        refine ⟨?_, ?_, ?_, ?_⟩
        · intro x hx
          rcases List.mem_cons.1 hx with rfl | hx
          · exact hr
          · exact i1 x hx
        · simp only []
          rw [encs_cons, wid_cons, ← hn, List.append_assoc, ← List.drop_drop, ← i2, hdn]
          exact ht
        · intro h2
          rw [encs_cons, ← i3 h2, hdn]
          exact ht
        · intro h2
          rw [wid_cons, ← hn, ← List.drop_drop]
          exact i4 h2
      · rw [runs_err h0 h1 rfl]
        exact ⟨(fun r hr => by cases hr), rfl, fun h => absurd h h1, fun _ => ⟨rfl, h0⟩⟩
theorem runs_all (L : List UInt8) : ∀ r ∈ (runs L).1, isR r = true := (runs_split _ L (Nat.le_refl _)).1
theorem runs_whole {L : List UInt8} (h : (runs L).2 = 0) : L = encs (runs L).1 := (runs_split _ L (Nat.le_refl _)).2.2.1 h
theorem runs_of_encs {rs : List Int} (h : ∀ r ∈ rs, isR r = true) : runs (encs rs) = (rs, 0) := by
  have := runs_encs rs [] h
  rw [List.append_nil, runs_nil, List.append_nil] at this; exact this
theorem wid_le (L : List UInt8) : wid (runs L).1 ≤ L.length := by
  have h := congrArg List.length (runs_split _ L (Nat.le_refl _)).2.1
  rw [List.length_append, encs_len] at h; omega
theorem runs_len_le (L : List UInt8) : (runs L).1.length ≤ L.length := by
  have h := wid_le L
  have : ∀ rs : List Int, (∀ r ∈ rs, isR r = true) → rs.length ≤ wid rs := by
    intro rs
    induction rs with
    | nil => intro _; exact Nat.zero_le _
    | cons r rs ih => intro hh; rw [wid_cons, List.length_cons]; have := wO_pos (hh r (List.mem_cons_self ..)); have := ih fun x hx => hh x (List.mem_cons_of_mem _ hx); omega
  have := this _ (runs_all L); omega
theorem runs_e (L : List UInt8) : (runs L).2 = 0 ∨ (runs L).2 = 6 ∨ (runs L).2 = 320 := by
  by_cases h : (runs L).2 = 0
  · exact .inl h
  · obtain ⟨h1, h2⟩ := (runs_split _ L (Nat.le_refl _)).2.2.2 h
    cases hL : L.drop (wid (runs L).1) with
    | nil => exact absurd hL h2
    | cons c t => rw [hL] at h1; rw [← h1]; exact dec_err c t

/-- What Check returns. -/
def chkS (L : List UInt8) : Nat × Int := if 8000 < L.length then (0, 3) else (wid (runs L).1, (runs L).2)
theorem chkS_e (L : List UInt8) : (chkS L).2 = 0 ∨ (chkS L).2 = 6 ∨ (chkS L).2 = 320 ∨ (chkS L).2 = 3 := by
  unfold chkS; split
  · exact .inr (.inr (.inr rfl))
  · rcases runs_e L with h | h | h
    · exact .inl h
    · exact .inr (.inl h)
    · exact .inr (.inr (.inl h))
/-- A place in the walk over a text: what has been read, and what is left. -/
def At (L : List UInt8) (pre : List Int) (k : Nat) : Prop := k = wid pre ∧ runs L = (pre ++ (runs (L.drop k)).1, (runs (L.drop k)).2) ∧ k ≤ L.length
theorem At.start (L : List UInt8) : At L [] 0 := ⟨rfl, by simp, Nat.zero_le _⟩
theorem At.ok {L : List UInt8} {pre : List Int} {k n : Nat} {r : Int} (h : At L pre k) (hd : dec (L.drop k) = (r, n, 0)) : At L (pre ++ [r]) (k + n) := by
  obtain ⟨h1, h2, h3⟩ := h
  obtain ⟨hr, hn, t, ht⟩ := dec_ok hd
  have hl := congrArg List.length ht
  rw [List.length_append, enc_len, List.length_drop] at hl
  refine ⟨by rw [wid_app, wid_cons, wid_nil, ← h1, ← hn]; omega, ?_, by omega⟩
  rw [h2, runs_ok hd, List.drop_drop, List.append_assoc]; rfl
theorem At.err {L : List UInt8} {pre : List Int} {k : Nat} {e : Int} (h : At L pre k) (hk : k < L.length) (he : e ≠ 0) (hd : (dec (L.drop k)).2.2 = e) : runs L = (pre, e) ∧ wid (runs L).1 = k := by
  obtain ⟨h1, h2, h3⟩ := h
  rw [runs_err (fun h => by have := congrArg List.length h; rw [List.length_drop, List.length_nil] at this; omega) he hd, List.append_nil] at h2
  exact ⟨h2, by rw [h2]; exact h1.symm⟩
theorem At.stop {L : List UInt8} {pre : List Int} {k : Nat} (h : At L pre k) (hk : L.length ≤ k) : runs L = (pre, 0) ∧ wid (runs L).1 = k := by
  obtain ⟨h1, h2, h3⟩ := h
  rw [List.drop_of_length_le hk, runs_nil, List.append_nil] at h2
  exact ⟨h2, by rw [h2]; exact h1.symm⟩

/-- Where runes begin, from k on; without the end. -/
def begs : Nat → List Int → List Nat
  | _, [] => []
  | k, r :: rs => k :: begs (k + wO r) rs
theorem begs_app : ∀ (a b : List Int) (k : Nat), begs k (a ++ b) = begs k a ++ begs (k + wid a) b := by
  intro a
  induction a with
  | nil => intro b k; rfl
  | cons r a ih => intro b k; rw [List.cons_append, begs, begs, ih, wid_cons, List.cons_append, Nat.add_assoc]
theorem begs_len : ∀ (rs : List Int) (k : Nat), (begs k rs).length = rs.length
  | [], _ => rfl
  | _ :: rs, k => by rw [begs, List.length_cons, List.length_cons, begs_len rs]
/-- The starts. -/
def stS (L : List UInt8) : List Nat := begs 0 (runs L).1 ++ [L.length]
def startsS (L : List UInt8) : List Nat × Int := if (chkS L).2 = 0 then (stS L, 0) else ([], (chkS L).2)
end Go.Proofs.YtdiinlmeoifgjaaGreatDoor

/- Layer 2: the small functions: widthAfter, secondBounds, widthOf, lowBits, laterByte, the reference's Is. -/
namespace Go.Proofs.YtdiinlmeoifgjaaGreatDoor
open Go.RowKit

theorem ret_two {a b c d : Value} (h1 : a = c) (h2 : b = d) : Ending.returned (.tuple #[a, b]) = .returned (.tuple #[c, d]) := by rw [h1, h2]
theorem int_v {k : IntKind} {a b : Int} (h : a = b) : Value.int k a = .int k b := by rw [h]

theorem widthAfter_any (c : Int) (w : World) : Calls Tryz.prog 90 #[.int .u8 c] w fun e w' => e = .returned (.int .i64 (wA c : Nat)) ∧ w = w' := by
  go_enter Tryz.func90, Tryz.ntmps90
  go_wp2
  all_goals go_ret
  · exact ⟨ret_int (by rw [wA_1 (by omega)]; rfl), rfl⟩
  · exact ⟨ret_int (by rw [wA_0 (by omega)]; rfl), rfl⟩
  · exact ⟨ret_int (by rw [wA_2 (by omega) (by omega)]; rfl), rfl⟩
  · exact ⟨ret_int (by rw [wA_3 (by omega) (by omega)]; rfl), rfl⟩
  · exact ⟨ret_int (by rw [wA_4 (by omega) (by omega)]; rfl), rfl⟩
  · exact ⟨ret_int (by rw [wA_0 (by omega)]; rfl), rfl⟩
theorem secondBounds_any (c : Int) (w : World) : Calls Tryz.prog 91 #[.int .u8 c] w fun e w' => e = .returned (.tuple #[.int .u8 (loBR c), .int .u8 (hiBR c)]) ∧ w = w' := by
  have hl := lo_hi_bd c
  go_enter Tryz.func91, Tryz.ntmps91
  go_wp2
  all_goals go_ret2
  all_goals simp only [beq_iff_eq, beq_eq_false_iff_ne, ne_eq] at *
  all_goals exact ⟨ret_two (int_v (by omega)) (int_v (by omega)), trivial⟩
theorem widthOf_any (r : Int) (w : World) : Calls Tryz.prog 81 #[.int .i32 r] w fun e w' => e = .returned (.int .i64 (wO r : Nat)) ∧ w = w' := by
  go_enter Tryz.func81, Tryz.ntmps81
  go_wp2
  all_goals go_ret
  all_goals first
    | exact ⟨ret_int (by rw [wO_0 (isR_not.2 (by omega))]; rfl), rfl⟩
    | exact ⟨ret_int (by rw [wO_1 (by omega) (by omega)]; rfl), rfl⟩
    | exact ⟨ret_int (by rw [wO_2 (by omega) (by omega)]; rfl), rfl⟩
    | exact ⟨ret_int (by rw [wO_3 (isR_iff.2 (by omega)) (by omega) (by omega)]; rfl), rfl⟩
    | exact ⟨ret_int (by rw [wO_4 (by omega) (by omega)]; rfl), rfl⟩
theorem is_any (r : Int) (w : World) : Calls Tryz.prog 60 #[.int .i32 r] w fun e w' => e = .returned (.bool (isR r)) ∧ w = w' := by
  go_enter Tryz.func60, Tryz.ntmps60
  go_wp2
  all_goals go_ret
  all_goals exact ⟨ret_bool (by rw [Bool.eq_iff_iff, isR_iff]; simp; omega), rfl⟩
def latB (c : Int) : Bool := decide (128 ≤ c ∧ c < 192)
end Go.Proofs.YtdiinlmeoifgjaaGreatDoor

/- runes.Decode. -/
namespace Go.Proofs.YtdiinlmeoifgjaaGreatDoor
open Go.RowKit Go.PlainAid

/-- The slice value v holds the one-cell elements cs. -/
def RowAt (w : World) (v : Value) (cs : List Value) : Prop :=
  (∃ a cap, v = .slice a 0 cap ∧ cs = []) ∨ ∃ g off n cap, v = .slice (some ⟨g, off, none⟩) n cap ∧ n = cs.length ∧ g < w.heap.size ∧ ∀ j u, cs[j]? = some u → w.cell? ⟨g, off + j, none⟩ = some u
theorem RowAt.below {B : Nat} {w w' : World} {v : Value} {l : List Value} (h : RowAt w v l) (hb : Below B w w') (hB : w.heap.size ≤ B) : RowAt w' v l := by
  rcases h with h | ⟨g, off, n, cap, e, hn, hg, hc⟩
  · exact .inl h
  · exact .inr ⟨g, off, n, cap, e, hn, Nat.lt_of_lt_of_le hg hb.size, fun j u hj => (hb.cell (p := ⟨g, off + j, none⟩) (by show g < B; omega)).trans (hc j u hj)⟩
theorem RowAt.slice {w : World} {v : Value} {l : List Value} (h : RowAt w v l) : ∃ a c, v = .slice a l.length c := by
  rcases h with ⟨a, c, e, rfl⟩ | ⟨g, off, n, cap, e, rfl, _⟩
  · exact ⟨_, _, e⟩
  · exact ⟨_, _, e⟩
theorem RowAt.own {w : World} {B : Nat} {e : TypeId} {v : Value} {n : Nat} {l : List Value} (h : w.ownsRow B e 1 v n l) : RowAt w v l := by
  obtain ⟨hl, h⟩ := h
  rcases h with ⟨rfl, h⟩ | ⟨g, cap, cur, rfl, _, hg, _, _, _, ht⟩
  · exact .inl ⟨_, _, rfl, List.eq_nil_of_length_eq_zero (by simp at hl; omega)⟩
  · refine .inr ⟨g, 0, _, cap, rfl, by simpa using hl.symm, (Array.getElem?_eq_some_iff.1 hg).1, fun j u hj => ?_⟩
    rw [← ht] at hj
    have hj' : cur.toList[j]? = some u := by
      rw [List.getElem?_take] at hj
      split at hj
      · exact hj
      · cases hj
    simp only [World.cell?, hg, Nat.zero_add, Option.isSome_none]
    simpa using hj'
/-- A list of bytes. -/
def BytesAt (w : World) (v : Value) (l : List UInt8) : Prop := RowAt w v (l.map bc)
theorem bc_at {l : List UInt8} {k : Nat} {c : UInt8} (h : l[k]? = some c) : (l.map bc)[k]? = some (.int .u8 (ub c)) := by
  rw [List.getElem?_map, h]; rfl
theorem drop_cons {α : Type} {l : List α} {k : Nat} (h : k < l.length) : l.drop k = l[k] :: l.drop (k + 1) := List.drop_eq_getElem_cons h

/-- The table of layer 2 in memory. -/
def MarksTab (w : World) : Prop := ∃ t fr, w.heap[1]? = some (.cells #[.int .i32 0, .int .i32 0, .int .i32 192, .int .i32 224, .int .i32 240] t fr)
theorem marks_cell {w : World} (h : MarksTab w) {n : Nat} (hn : n ≤ 4) : w.cell? ⟨1, n, none⟩ = some (.int .i32 (mkB n)) := by
  obtain ⟨t, fr, h⟩ := h
  have hn' : n = 0 ∨ n = 1 ∨ n = 2 ∨ n = 3 ∨ n = 4 := by omega
  rcases hn' with rfl | rfl | rfl | rfl | rfl <;> simp [World.cell?, h, mkB]
theorem marks_below {B : Nat} {w w' : World} (h : MarksTab w) (hb : Below B w w') (hB : 1 < B) : MarksTab w' := by
  obtain ⟨t, fr, h⟩ := h; exact ⟨t, fr, (hb.block _ hB).trans h⟩

/-- Decode at an index. -/
def decAt (l : List UInt8) (i : Int) : Int × Nat × Int := if i < 0 then (0, 0, 7) else dec (l.drop i.toNat)
theorem decAt_out {l : List UInt8} {i : Int} (h : i < 0 ∨ (l.length : Int) ≤ i) : decAt l i = (0, 0, 7) := by
  unfold decAt
  by_cases h0 : i < 0
  · rw [if_pos h0]
  · rw [if_neg h0, List.drop_of_length_le (by omega)]; rfl
theorem decAt_in {l : List UInt8} {k : Nat} : decAt l (k : Int) = dec (l.drop k) := by
  unfold decAt; rw [if_neg (by omega), Int.toNat_natCast]
def decV (x : Int × Nat × Int) : Value := .tuple #[.int .i32 x.1, .int .i64 (x.2.1 : Int), .int .i64 x.2.2]
theorem ret_dec {x y : Int × Nat × Int} (h : x = y) : Ending.returned (decV x) = .returned (decV y) := by rw [h]

/-- The bounds of the number while it is read. -/
def rb (i : Nat) : Int := if i ≤ 1 then 127 else if i = 2 then 8191 else if i = 3 then 524287 else 33554431
theorem rb_succ {i : Nat} {r d : Int} (h1 : 1 ≤ i) (hi : i < 4) (h : r ≤ rb i) (hd : d ≤ 63) : r * 64 + d ≤ rb (i + 1) := by
  have : i = 1 ∨ i = 2 ∨ i = 3 := by omega
  rcases this with rfl | rfl | rfl <;> simp [rb] at h ⊢ <;> omega
theorem rb_le {i : Nat} (hi : i < 4) : rb i ≤ 524287 := by unfold rb; (repeat' split) <;> omega

theorem dec_go {c : UInt8} {t : List UInt8} {n : Nat} {r e : Int} (hn : wA (ub c) = n) (h0 : n ≠ 0) (h : decGo (n - 1) (ub c - mkB n) (loBR (ub c)) (hiBR (ub c)) t = (r, e)) :
    dec (c :: t) = if e = 0 then (r, n, 0) else (0, 0, e) := by
  subst hn
  rw [dec, if_neg h0, h]
theorem mk_bd {c : UInt8} {n : Nat} (hn : wA (ub c) = n) (h0 : n ≠ 0) : 0 ≤ ub c - mkB n ∧ ub c - mkB n ≤ 127 ∧ n ≤ 4 := by
  have hc := ub_bd c
  subst hn
  rcases wA_forms (ub c) with h1 | h1 | ⟨h1, h2⟩ | ⟨h1, h2⟩ | ⟨h1, h2⟩
  · rw [wA_1 h1]; simp [mkB]; omega
  · exact absurd (wA_0 h1) h0
  · rw [wA_2 h1 h2]; simp [mkB]; omega
  · rw [wA_3 h1 h2]; simp [mkB]; omega
  · rw [wA_4 h1 h2]; simp [mkB]; omega

set_option maxHeartbeats 1600000 in
theorem decode_out (a : Option Addr) (l : List UInt8) (n cap : Nat) (i : Int) (w : World) (hn : n = l.length) (h : i < 0 ∨ (n : Int) ≤ i) :
    Calls Tryz.prog 79 #[.slice a n cap, .int .i64 i] w fun e w' => e = .returned (decV (decAt l i)) ∧ Below w.heap.size w w' := by
  rw [decAt_out (by omega)]
  by_cases h0 : i < 0
  · go_enter Tryz.func79, Tryz.ntmps79
    go_wp2
    go_ret3
    exact ⟨rfl, Below.refl _ _⟩
  · have h1 : (n : Int) ≤ i := by omega
    clear h
    go_enter Tryz.func79, Tryz.ntmps79
    go_wp2
    go_ret3
    exact ⟨rfl, Below.refl _ _⟩
end Go.Proofs.YtdiinlmeoifgjaaGreatDoor

/- runes.Decode at an index that the list has; whole. -/
namespace Go.Proofs.YtdiinlmeoifgjaaGreatDoor
open Go.RowKit Go.PlainAid

theorem below_drewN (w : World) (n : Nat) : Below w.heap.size w (w.drewN n) := by
  have h := Below.refl w.heap.size w
  exact ⟨h.os, h.tape, h.output, h.size, h.block⟩

set_option maxRecDepth 100000 in
set_option maxHeartbeats 1600000 in
theorem decode_in (g off : Nat) (l : List UInt8) (n cap k : Nat) (w : World) (hn : n = l.length) (hk : k < n) (hl : l.length ≤ 1000000000) (hm : MarksTab w)
    (hc : ∀ j u, (l.map bc)[j]? = some u → w.cell? ⟨g, off + j, none⟩ = some u) :
    Calls Tryz.prog 79 #[.slice (some ⟨g, off, none⟩) n cap, .int .i64 (k : Int)] w fun e w' => e = .returned (decV (decAt l k)) ∧ Below w.heap.size w w' := by
  rw [decAt_in]
  have hkl : k < l.length := by omega
  obtain ⟨c, hcc⟩ : ∃ c, c = l[k] := ⟨_, rfl⟩
  have hL : l.drop k = c :: l.drop (k + 1) := by rw [drop_cons hkl, hcc]
  have hget : l[k]? = some c := by rw [List.getElem?_eq_getElem hkl, hcc]
  rw [hL]
  have HC : Hid (∀ j c, l[j]? = some c → w.cell? ⟨g, off + j, none⟩ = some (.int .u8 (ub c))) := Lib.hid fun j c h => hc j _ (bc_at h)
  have c0 : w.cell? ⟨g, off + k, none⟩ = some (.int .u8 (ub c)) := HC.out _ _ hget
  have hcb := ub_bd c
  obtain ⟨m, hwm⟩ : ∃ m, wA (ub c) = m := ⟨_, rfl⟩
  have HW := Lib.hid hwm
  have CW : Hid (∀ w, Calls Tryz.prog 90 #[.int .u8 (ub c)] w fun e w' => e = .returned (.int .i64 (m : Int)) ∧ w = w') := Lib.hid (by
    rw [← hwm]; exact fun w => widthAfter_any (ub c) w)
  clear hc hcc hget hL
  by_cases hm0 : m = 0
  · have HD : Hid (dec (c :: l.drop (k + 1)) = (0, 0, 6)) := Lib.hid (dec_c0 (by rw [hwm, hm0]))
    clear hwm
    have CW0 : Hid (∀ w, Calls Tryz.prog 90 #[.int .u8 (ub c)] w fun e w' => e = .returned (.int .i64 0) ∧ w = w') := Lib.hid (by have := CW.out; rw [hm0] at this; exact this)
    clear CW HW hm0 hm
    go_enter Tryz.func79, Tryz.ntmps79
    go_wp2_with (go_at_call 90; refine (CW0.out _).mono ?_; rintro e w' ⟨rfl, rfl⟩)
    go_ret3
    exact ⟨ret_dec HD.out.symm, Below.refl _ _⟩
  · have hb := mk_bd hwm hm0
    have hgo : Hid (∀ r e, decGo (m - 1) (ub c - mkB m) (loBR (ub c)) (hiBR (ub c)) (l.drop (k + 1)) = (r, e) → dec (c :: l.drop (k + 1)) = if e = 0 then (r, m, 0) else (0, 0, e)) := Lib.hid fun r e h => dec_go hwm hm0 h
    have c1 := marks_cell hm (n := m) hb.2.2
    obtain ⟨mm, hmm⟩ : ∃ mm, mm = mkB m := ⟨_, rfl⟩
    rw [← hmm] at hb c1 hgo
    obtain ⟨b1, b2, b3⟩ := hb
    obtain ⟨r0, hr0⟩ : ∃ r0, r0 = ub c - mm := ⟨_, rfl⟩
    have hlo := lo_hi_bd (ub c)
    obtain ⟨lo, hlo1⟩ : ∃ lo, lo = loBR (ub c) := ⟨_, rfl⟩
    obtain ⟨hi, hhi1⟩ : ∃ hi, hi = hiBR (ub c) := ⟨_, rfl⟩
    have CS : Hid (∀ w, Calls Tryz.prog 91 #[.int .u8 (ub c)] w fun e w' => e = .returned (.tuple #[.int .u8 lo, .int .u8 hi]) ∧ w = w') := Lib.hid (by
      rw [hlo1, hhi1]; exact fun w => secondBounds_any (ub c) w)
    rw [← hr0] at b1 b2
    rw [← hr0, ← hlo1, ← hhi1] at hgo
    rw [← hlo1, ← hhi1] at hlo
    have hlo2 : 128 ≤ lo ∧ lo ≤ 255 ∧ 0 ≤ hi ∧ hi ≤ 191 := by omega
    obtain ⟨lb1, lb2, lb3, lb4⟩ := hlo2
    have hw1 : IntKind.i32.wrap (ub c - mm) = r0 := by rw [← hr0]; exact IntWalk.i32_in _ (by omega)
    have hz : ((m : Int) == 0) = false := beq_eq_false_iff_ne.2 (by omega)
    have hmz : 1 ≤ m := by omega
    clear hwm hm0 hmm hlo hlo1 hhi1 hr0 hm HW
    go_enter Tryz.func79, Tryz.ntmps79
    go_wp2_with (go_at_call 90; refine (CW.out _).mono ?_; rintro e w' ⟨rfl, rfl⟩)
    go_quiet (fail)
    go_wp2_with (go_at_call 91; refine (CS.out _).mono ?_; rintro e w' ⟨rfl, rfl⟩)
    go_loop [4, 5, 7, 8, 9] (fun x4 x5 x7 x8 x9 => ∃ (i : Nat) (r a b : Int), x4 = .int .i32 r ∧ x5 = .int .i64 m ∧ x7 = .int .u8 a ∧ x8 = .int .u8 b ∧ x9 = .int .i64 i ∧ 1 ≤ i ∧ i ≤ m ∧ k + i ≤ n ∧ 0 ≤ r ∧ r ≤ rb i ∧ 128 ≤ a ∧ a ≤ 255 ∧ 0 ≤ b ∧ b ≤ 191 ∧
      Hid (∀ y, decGo (m - i) r a b (l.drop (k + i)) = y → dec (c :: l.drop (k + 1)) = if y.2 = 0 then (y.1, m, 0) else (0, 0, y.2))) (fun _ _ _ _ x9 => m - (intOf x9).toNat)
    case atStart => exact ⟨1, r0, lo, hi, rfl, rfl, rfl, rfl, rfl, by omega, by omega, by omega, b1, b2, lb1, lb2, lb3, lb4, Lib.hid fun y h => hgo.out y.1 y.2 h⟩
    case round =>
      obtain ⟨i, r, a, b, rfl, rfl, rfl, rfl, rfl, h1, him, hkn, hr0, hr1, ha0, ha1, hb0, hb1, HG⟩ := hrel
      by_cases hi : i < m
      · have hrb := rb_le (i := i) (by omega)
        have HQ : Hid (m - i = (m - i - 1) + 1) := Lib.hid (by omega)
        by_cases hend : k + i = n
        · have HD : Hid (dec (c :: l.drop (k + 1)) = (0, 0, 320)) := Lib.hid (by
            rw [HG.out (0, 320) (by rw [List.drop_of_length_le (by omega), HQ.out, decGo]), if_neg (by decide)])
          have he : ((k : Int) + (i : Int) == (l.length : Int)) = true := beq_iff_eq.2 (by omega)
          go_wp2
          go_ret3
          exact ⟨ret_dec HD.out.symm, below_drewN _ _⟩
        · obtain ⟨d, hd⟩ : ∃ d, l[k + i]? = some d := ⟨_, List.getElem?_eq_getElem (by omega)⟩
          have hdr : l.drop (k + i) = d :: l.drop (k + (i + 1)) := by
            have h1 : k + i < l.length := by omega
            rw [drop_cons h1, show k + i + 1 = k + (i + 1) by omega]
            rw [List.getElem?_eq_getElem h1] at hd; rw [Option.some.inj hd]
          have c2 := HC.out _ _ hd
          have hdb := ub_bd d
          have he : ((k : Int) + (i : Int) == (l.length : Int)) = false := beq_eq_false_iff_ne.2 (by omega)
          have hlt1 : (k : Int) + (i : Int) < (l.length : Int) := by omega
          have hlt2 : (0 : Int) ≤ (k : Int) + (i : Int) := by omega
          have htn : ((k : Int) + (i : Int)).toNat = k + i := by omega
          have HS : Hid (∀ y, decGo (m - i) r a b (l.drop (k + i)) = y ↔ (if a ≤ ub d ∧ ub d ≤ b then decGo (m - (i + 1)) (r * 64 + (ub d - 128)) 128 191 (l.drop (k + (i + 1))) else (0, 6)) = y) := Lib.hid fun y => by
            rw [HQ.out, hdr, decGo, show m - i - 1 = m - (i + 1) by omega]
          clear hd hdr hend
          by_cases hok : a ≤ ub d ∧ ub d ≤ b
          · have HN : Hid (∀ y, decGo (m - (i + 1)) (r * 64 + (ub d - 128)) 128 191 (l.drop (k + (i + 1))) = y → dec (c :: l.drop (k + 1)) = if y.2 = 0 then (y.1, m, 0) else (0, 0, y.2)) := Lib.hid fun y h =>
              HG.out y ((HS.out y).2 (by rw [if_pos hok]; exact h))
            have HB : Hid (r * 64 + (ub d - 128) ≤ rb (i + 1)) := Lib.hid (rb_succ h1 (by omega) hr1 (by omega))
            obtain ⟨k1, k2⟩ := hok
            go_wp2
            go_round
            case rel => exact ⟨i + 1, _, _, _, rfl, rfl, rfl, rfl, by go_num, by omega, by omega, by omega, by omega, HB.out, by omega, by omega, by omega, by omega, HN⟩
            case measure => simp [intOf]; omega
          · have HD : Hid (dec (c :: l.drop (k + 1)) = (0, 0, 6)) := Lib.hid (by
              rw [HG.out (0, 6) ((HS.out _).2 (by rw [if_neg hok])), if_neg (by decide)])
            have hok' : ub d < a ∨ b < ub d := by omega
            clear hok
            go_wp2
            all_goals
              go_ret3
              exact ⟨ret_dec HD.out.symm, below_drewN _ _⟩
      · obtain rfl : i = m := by omega
        have HD : Hid (dec (c :: l.drop (k + 1)) = (r, i, 0)) := Lib.hid (by
          rw [HG.out (r, 0) (by rw [Nat.sub_self, decGo]), if_pos rfl])
        go_wp2
        go_ret3
        exact ⟨ret_dec HD.out.symm, below_drewN _ _⟩

theorem decode_any (v : Value) (l : List UInt8) (i : Int) (w : World) (h : BytesAt w v l) (hl : l.length ≤ 1000000000) (hm : MarksTab w) :
    Calls Tryz.prog 79 #[v, .int .i64 i] w fun e w' => e = .returned (decV (decAt l i)) ∧ Below w.heap.size w w' := by
  by_cases hi : i < 0 ∨ (l.length : Int) ≤ i
  · obtain ⟨a, cap, rfl⟩ := h.slice
    exact decode_out a l _ cap i w (by simp) (by simpa using hi)
  · obtain ⟨k, rfl⟩ : ∃ k : Nat, i = k := ⟨i.toNat, by omega⟩
    rcases h with ⟨a, cap, rfl, hn⟩ | ⟨g, off, n, cap, rfl, hn, hg, hc⟩
    · have := congrArg List.length hn
      simp at this; subst this; simp at hi
    · exact decode_in g off l n cap k w (by simpa using hn) (by simp at hn; omega) hl hm hc
end Go.Proofs.YtdiinlmeoifgjaaGreatDoor

/- runes.Encode. -/
namespace Go.Proofs.YtdiinlmeoifgjaaGreatDoor
open Go.RowKit Go.PlainAid

theorem bc_u8 {n m : Int} (h : 0 ≤ n ∧ n < 256) (e : m = n) : Value.int .u8 m = bc (u8 n) := by
  have := ub_u8 h
  unfold bc; unfold ub at this; rw [this, e]
/-- What Encode returns. -/
def EncV (r : Int) (w : World) (e : Ending) (w' : World) : Prop :=
  ∃ v, e = .returned (.tuple #[v, .int .i64 (if isR r then 0 else 7)]) ∧ w'.ownsRow w.heap.size 5 1 v (enc r).length ((enc r).map bc) ∧ Below w.heap.size w w'

theorem own_new (w : World) (l : List UInt8) (a : Array Value) (t : TypeId) (n : Nat) (ha : a = (l.map bc).toArray) (hn : n = l.length) (hl : l.length ≤ 4) :
    (w.alloc (.cells a t)).ownsRow w.heap.size t 1 (.slice (some ⟨w.heap.size, 0, none⟩) n n) l.length (l.map bc) := by
  subst ha hn
  exact ⟨by simp, .inr ⟨_, _, _, rfl, Nat.le_refl _, World.alloc_heap_new _ _, Nat.le_refl _, by unfold maxLen; omega, by simp, by rw [Nat.mul_one, ← List.length_map (f := bc), List.take_length]⟩⟩
theorem enc_new (r : Int) (w : World) (a : Array Value) (n : Nat) (hr : isR r = true) (ha : a = ((enc r).map bc).toArray) (hn : n = wO r) :
    EncV r w (.returned (.tuple #[.slice (some ⟨w.heap.size, 0, none⟩) n n, .int .i64 0])) (w.alloc (.cells a 5)) :=
  ⟨_, by rw [hr]; rfl, own_new w (enc r) a _ n ha (by rw [enc_len, hn]) (by rw [enc_len]; exact wO_le r), (Below.refl _ _).alloc (Nat.le_refl _) _⟩
end Go.Proofs.YtdiinlmeoifgjaaGreatDoor
