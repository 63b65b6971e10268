/- Runes and their bytes: what the contracts of layer 2 speak of. Plain mathematics. -/
import Derived.Test.YtemoeohchhpilaaDoorKit
namespace Go.Proofs.YtemoeohchhpilaaDoor

def ub (c : UInt8) : Int := (c.toNat : Int)
def u8 (n : Int) : UInt8 := UInt8.ofNat n.toNat
theorem ub_bd (c : UInt8) : 0 ≤ ub c ∧ ub c < 256 := by unfold ub; have := c.toNat_lt; omega
theorem ub_u8 {n : Int} (h : 0 ≤ n ∧ n < 256) : ub (u8 n) = n := by
  unfold ub u8; rw [UInt8.toNat_ofNat']; omega
theorem u8_eq {n : Int} {c : UInt8} (h : n = ub c) : u8 n = c := by
  subst h; unfold u8 ub; simp
theorem ub_inj {a b : UInt8} (h : ub a = ub b) : a = b := by
  unfold ub at h; exact UInt8.toNat_inj.1 (by omega)

/-- How many bytes the runes have that begin with a byte. -/
def wA (c : Int) : Nat := if c < 128 then 1 else if c < 194 then 0 else if c < 224 then 2 else if c < 240 then 3 else if c ≤ 244 then 4 else 0
/-- What the first byte has beside the number in it. -/
def mkB (n : Nat) : Int := if n = 2 then 192 else if n = 3 then 224 else if n = 4 then 240 else 0
def loB (c : Int) : Int := if c = 224 then 160 else if c = 240 then 144 else 128
def hiB (c : Int) : Int := if c = 237 then 159 else if c = 244 then 143 else 191

/-- The later bytes of a rune. -/
def decGo : Nat → Int → Int → Int → List UInt8 → Int × Int
  | 0, r, _, _, _ => (r, 0)
  | _ + 1, _, _, _, [] => (0, 320)
  | n + 1, r, lo, hi, c :: t => if lo ≤ ub c ∧ ub c ≤ hi then decGo n (r * 64 + (ub c - 128)) 128 191 t else (0, 6)
/-- Decode of a list of bytes from its beginning. -/
def dec : List UInt8 → Int × Nat × Int
  | [] => (0, 0, 7)
  | c :: t => if wA (ub c) = 0 then (0, 0, 6) else
    if (decGo (wA (ub c) - 1) (ub c - mkB (wA (ub c))) (loB (ub c)) (hiB (ub c)) t).2 = 0 then ((decGo (wA (ub c) - 1) (ub c - mkB (wA (ub c))) (loB (ub c)) (hiB (ub c)) t).1, wA (ub c), 0)
    else (0, 0, (decGo (wA (ub c) - 1) (ub c - mkB (wA (ub c))) (loB (ub c)) (hiB (ub c)) t).2)

def isR (r : Int) : Bool := decide (0 ≤ r ∧ r ≤ 1114111 ∧ ¬ (55296 ≤ r ∧ r ≤ 57343))
theorem isR_iff {r : Int} : isR r = true ↔ 0 ≤ r ∧ r ≤ 1114111 ∧ ¬ (55296 ≤ r ∧ r ≤ 57343) := decide_eq_true_iff
theorem isR_not {r : Int} : isR r = false ↔ ¬ (0 ≤ r ∧ r ≤ 1114111 ∧ ¬ (55296 ≤ r ∧ r ≤ 57343)) := decide_eq_false_iff_not
/-- How many bytes a rune has. -/
def wO (r : Int) : Nat := if isR r = false then 0 else if r < 128 then 1 else if r < 2048 then 2 else if r < 65536 then 3 else 4
/-- The bytes of a rune. -/
def enc (r : Int) : List UInt8 := if isR r = false then [] else if r < 128 then [u8 r] else if r < 2048 then [u8 (192 + r / 64), u8 (128 + r % 64)]
  else if r < 65536 then [u8 (224 + r / 4096), u8 (128 + r / 64 % 64), u8 (128 + r % 64)]
  else [u8 (240 + r / 262144), u8 (128 + r / 4096 % 64), u8 (128 + r / 64 % 64), u8 (128 + r % 64)]

theorem wO_0 {r : Int} (h : isR r = false) : wO r = 0 := by unfold wO; rw [if_pos h]
theorem enc_0 {r : Int} (h : isR r = false) : enc r = [] := by unfold enc; rw [if_pos h]
theorem wO_1 {r : Int} (h0 : 0 ≤ r) (h : r < 128) : wO r = 1 := by
  unfold wO; rw [isR_iff.2 (by omega), if_neg (by simp), if_pos h]
theorem enc_1 {r : Int} (h0 : 0 ≤ r) (h : r < 128) : enc r = [u8 r] := by
  unfold enc; rw [isR_iff.2 (by omega), if_neg (by simp), if_pos h]
theorem wO_2 {r : Int} (h0 : 128 ≤ r) (h : r < 2048) : wO r = 2 := by
  unfold wO; rw [isR_iff.2 (by omega), if_neg (by simp), if_neg (by omega), if_pos h]
theorem enc_2 {r : Int} (h0 : 128 ≤ r) (h : r < 2048) : enc r = [u8 (192 + r / 64), u8 (128 + r % 64)] := by
  unfold enc; rw [isR_iff.2 (by omega), if_neg (by simp), if_neg (by omega), if_pos h]
theorem wO_3 {r : Int} (hr : isR r = true) (h0 : 2048 ≤ r) (h : r < 65536) : wO r = 3 := by
  unfold wO; rw [hr, if_neg (by simp), if_neg (by omega), if_neg (by omega), if_pos h]
theorem enc_3 {r : Int} (hr : isR r = true) (h0 : 2048 ≤ r) (h : r < 65536) : enc r = [u8 (224 + r / 4096), u8 (128 + r / 64 % 64), u8 (128 + r % 64)] := by
  unfold enc; rw [hr, if_neg (by simp), if_neg (by omega), if_neg (by omega), if_pos h]
theorem wO_4 {r : Int} (h0 : 65536 ≤ r) (h : r ≤ 1114111) : wO r = 4 := by
  unfold wO; rw [isR_iff.2 (by omega), if_neg (by simp), if_neg (by omega), if_neg (by omega), if_neg (by omega)]
theorem enc_4 {r : Int} (h0 : 65536 ≤ r) (h : r ≤ 1114111) : enc r = [u8 (240 + r / 262144), u8 (128 + r / 4096 % 64), u8 (128 + r / 64 % 64), u8 (128 + r % 64)] := by
  unfold enc; rw [isR_iff.2 (by omega), if_neg (by simp), if_neg (by omega), if_neg (by omega), if_neg (by omega)]
/-- The four forms of a rune. -/
theorem isR_forms {r : Int} (h : isR r = true) : (0 ≤ r ∧ r < 128) ∨ (128 ≤ r ∧ r < 2048) ∨ (2048 ≤ r ∧ r < 65536) ∨ (65536 ≤ r ∧ r ≤ 1114111) := by
  have := isR_iff.1 h; omega
theorem enc_len (r : Int) : (enc r).length = wO r := by
  cases hr : isR r
  · rw [enc_0 hr, wO_0 hr]; rfl
  · rcases isR_forms hr with ⟨a, b⟩ | ⟨a, b⟩ | ⟨a, b⟩ | ⟨a, b⟩
    · rw [enc_1 a b, wO_1 a b]; rfl
    · rw [enc_2 a b, wO_2 a b]; rfl
    · rw [enc_3 hr a b, wO_3 hr a b]; rfl
    · rw [enc_4 a b, wO_4 a b]; rfl
theorem wO_le (r : Int) : wO r ≤ 4 := by unfold wO; (repeat' split) <;> omega
theorem wO_pos {r : Int} (h : isR r = true) : 1 ≤ wO r := by
  rcases isR_forms h with ⟨a, b⟩ | ⟨a, b⟩ | ⟨a, b⟩ | ⟨a, b⟩
  · rw [wO_1 a b]; omega
  · rw [wO_2 a b]; omega
  · rw [wO_3 h a b]; omega
  · rw [wO_4 a b]; omega
theorem wO_zero {r : Int} : wO r = 0 ↔ isR r = false := by
  constructor
  · intro h; cases hr : isR r
    · rfl
    · have := wO_pos hr; omega
  · exact wO_0

/-- Decode, form by form. -/
theorem dec_c0 {c : UInt8} {t : List UInt8} (h : wA (ub c) = 0) : dec (c :: t) = (0, 0, 6) := by
  rw [dec, if_pos h]
theorem wA_1 {c : Int} (h : c < 128) : wA c = 1 := by unfold wA; rw [if_pos h]
theorem wA_0 {c : Int} (h : (128 ≤ c ∧ c < 194) ∨ 244 < c) : wA c = 0 := by
  unfold wA; rw [if_neg (by omega)]; (repeat' split) <;> omega
theorem wA_2 {c : Int} (h : 194 ≤ c) (h2 : c < 224) : wA c = 2 := by unfold wA; rw [if_neg (by omega), if_neg (by omega), if_pos h2]
theorem wA_3 {c : Int} (h : 224 ≤ c) (h2 : c < 240) : wA c = 3 := by unfold wA; rw [if_neg (by omega), if_neg (by omega), if_neg (by omega), if_pos h2]
theorem wA_4 {c : Int} (h : 240 ≤ c) (h2 : c ≤ 244) : wA c = 4 := by unfold wA; rw [if_neg (by omega), if_neg (by omega), if_neg (by omega), if_neg (by omega), if_pos h2]
theorem wA_forms (c : Int) : c < 128 ∨ ((128 ≤ c ∧ c < 194) ∨ 244 < c) ∨ (194 ≤ c ∧ c < 224) ∨ (224 ≤ c ∧ c < 240) ∨ (240 ≤ c ∧ c ≤ 244) := by omega
theorem dec_c1 {c : UInt8} {t : List UInt8} (h : ub c < 128) : dec (c :: t) = (ub c, 1, 0) := by
  rw [dec, wA_1 h, if_neg (by decide)]; simp [decGo, mkB]
/-- The rest of two, three and four bytes. -/
def two (c : Int) : List UInt8 → Int × Nat × Int
  | [] => (0, 0, 320)
  | d :: _ => if 128 ≤ ub d ∧ ub d ≤ 191 then ((c - 192) * 64 + (ub d - 128), 2, 0) else (0, 0, 6)
def three (c : Int) : List UInt8 → Int × Nat × Int
  | [] => (0, 0, 320)
  | [d] => if loB c ≤ ub d ∧ ub d ≤ hiB c then (0, 0, 320) else (0, 0, 6)
  | d :: e :: _ => if loB c ≤ ub d ∧ ub d ≤ hiB c then if 128 ≤ ub e ∧ ub e ≤ 191 then (((c - 224) * 64 + (ub d - 128)) * 64 + (ub e - 128), 3, 0) else (0, 0, 6) else (0, 0, 6)
def four (c : Int) : List UInt8 → Int × Nat × Int
  | [] => (0, 0, 320)
  | [d] => if loB c ≤ ub d ∧ ub d ≤ hiB c then (0, 0, 320) else (0, 0, 6)
  | [d, e] => if loB c ≤ ub d ∧ ub d ≤ hiB c then if 128 ≤ ub e ∧ ub e ≤ 191 then (0, 0, 320) else (0, 0, 6) else (0, 0, 6)
  | d :: e :: f :: _ => if loB c ≤ ub d ∧ ub d ≤ hiB c then if 128 ≤ ub e ∧ ub e ≤ 191 then if 128 ≤ ub f ∧ ub f ≤ 191 then ((((c - 240) * 64 + (ub d - 128)) * 64 + (ub e - 128)) * 64 + (ub f - 128), 4, 0) else (0, 0, 6) else (0, 0, 6) else (0, 0, 6)
theorem lohi_2 {c : Int} (h : 194 ≤ c) (h2 : c < 224) : loB c = 128 ∧ hiB c = 191 := by
  unfold loB hiB; refine ⟨?_, ?_⟩ <;> (repeat' split) <;> omega
theorem dec_c2 {c : UInt8} {t : List UInt8} (h : 194 ≤ ub c) (h2 : ub c < 224) : dec (c :: t) = two (ub c) t := by
  rw [dec, wA_2 h h2, if_neg (by decide), (lohi_2 h h2).1, (lohi_2 h h2).2]
  cases t with
  | nil => simp [decGo, two]
  | cons d t =>
    by_cases hd : 128 ≤ ub d ∧ ub d ≤ 191
    · simp [decGo, two, mkB, hd]
    · simp only [decGo, two, if_neg hd]; simp
theorem dec_c3 {c : UInt8} {t : List UInt8} (h : 224 ≤ ub c) (h2 : ub c < 240) : dec (c :: t) = three (ub c) t := by
  rw [dec, wA_3 h h2, if_neg (by decide)]
  match t with
  | [] => simp [decGo, three]
  | [d] =>
    by_cases hd : loB (ub c) ≤ ub d ∧ ub d ≤ hiB (ub c)
    · simp [decGo, three, mkB, hd]
    · simp only [decGo, three, if_neg hd]; simp
  | d :: e :: t =>
    by_cases hd : loB (ub c) ≤ ub d ∧ ub d ≤ hiB (ub c)
    · by_cases he : 128 ≤ ub e ∧ ub e ≤ 191
      · simp [decGo, three, mkB, hd, he]
      · simp only [decGo, three, if_pos hd, if_neg he]; simp
    · simp only [decGo, three, if_neg hd]; simp
theorem dec_c4 {c : UInt8} {t : List UInt8} (h : 240 ≤ ub c) (h2 : ub c ≤ 244) : dec (c :: t) = four (ub c) t := by
  rw [dec, wA_4 h h2, if_neg (by decide)]
  match t with
  | [] => simp [decGo, four]
  | [d] =>
    by_cases hd : loB (ub c) ≤ ub d ∧ ub d ≤ hiB (ub c)
    · simp [decGo, four, mkB, hd]
    · simp only [decGo, four, if_neg hd]; simp
  | [d, e] =>
    by_cases hd : loB (ub c) ≤ ub d ∧ ub d ≤ hiB (ub c)
    · by_cases he : 128 ≤ ub e ∧ ub e ≤ 191
      · simp [decGo, four, mkB, hd, he]
      · simp only [decGo, four, if_pos hd, if_neg he]; simp
    · simp only [decGo, four, if_neg hd]; simp
  | d :: e :: f :: t =>
    by_cases hd : loB (ub c) ≤ ub d ∧ ub d ≤ hiB (ub c)
    · by_cases he : 128 ≤ ub e ∧ ub e ≤ 191
      · by_cases hf : 128 ≤ ub f ∧ ub f ≤ 191
        · simp [decGo, four, mkB, hd, he, hf]
        · simp only [decGo, four, if_pos hd, if_pos he, if_neg hf]; simp
      · simp only [decGo, four, if_pos hd, if_neg he]; simp
    · simp only [decGo, four, if_neg hd]; simp
theorem lo_hi_bd (c : Int) : (c = 224 ∧ loB c = 160 ∧ hiB c = 191) ∨ (c = 237 ∧ loB c = 128 ∧ hiB c = 159) ∨ (c = 240 ∧ loB c = 144 ∧ hiB c = 191) ∨ (c = 244 ∧ loB c = 128 ∧ hiB c = 143) ∨ (c ≠ 224 ∧ c ≠ 237 ∧ c ≠ 240 ∧ c ≠ 244 ∧ loB c = 128 ∧ hiB c = 191) := by
  unfold loB hiB; (repeat' split) <;> omega

theorem trip {a b : Int} (h : a = b) (n : Nat) (e : Int) : (a, n, e) = (b, n, e) := by rw [h]
theorem dec_enc {r : Int} (hr : isR r = true) (t : List UInt8) : dec (enc r ++ t) = (r, wO r, 0) := by
  have hb := isR_iff.1 hr
  rcases isR_forms hr with ⟨a, b⟩ | ⟨a, b⟩ | ⟨a, b⟩ | ⟨a, b⟩
  · have e1 := ub_u8 (n := r) (by omega)
    rw [enc_1 a b, wO_1 a b, List.cons_append, dec_c1 (by omega), e1]
  · have e1 := ub_u8 (n := 192 + r / 64) (by omega)
    have e2 := ub_u8 (n := 128 + r % 64) (by omega)
    rw [enc_2 a b, wO_2 a b, List.cons_append, List.cons_append, dec_c2 (by omega) (by omega)]
    simp only [two]
    rw [if_pos (by omega), e1, e2]
    exact trip (by omega) _ _
  · have e1 := ub_u8 (n := 224 + r / 4096) (by omega)
    have e2 := ub_u8 (n := 128 + r / 64 % 64) (by omega)
    have e3 := ub_u8 (n := 128 + r % 64) (by omega)
    rw [enc_3 hr a b, wO_3 hr a b, List.cons_append, List.cons_append, List.cons_append, dec_c3 (by omega) (by omega)]
    have hl := lo_hi_bd (ub (u8 (224 + r / 4096)))
    simp only [three]
    rw [if_pos (by omega), if_pos (by omega), e1, e2, e3]
    exact trip (by omega) _ _
  · have e1 := ub_u8 (n := 240 + r / 262144) (by omega)
    have e2 := ub_u8 (n := 128 + r / 4096 % 64) (by omega)
    have e3 := ub_u8 (n := 128 + r / 64 % 64) (by omega)
    have e4 := ub_u8 (n := 128 + r % 64) (by omega)
    rw [enc_4 a b, wO_4 a b, List.cons_append, List.cons_append, List.cons_append, List.cons_append, dec_c4 (by omega) (by omega)]
    have hl := lo_hi_bd (ub (u8 (240 + r / 262144)))
    simp only [four]
    rw [if_pos (by omega), if_pos (by omega), if_pos (by omega), e1, e2, e3, e4]
    exact trip (by omega) _ _

theorem fst_of {a r : Int} {b n : Nat} {c e : Int} (h : (a, b, c) = (r, n, e)) : a = r ∧ b = n ∧ c = e := by
  simp only [Prod.mk.injEq] at h; exact h
theorem dec_ok : ∀ {L : List UInt8} {r : Int} {n : Nat}, dec L = (r, n, 0) → isR r = true ∧ n = wO r ∧ ∃ t, L = enc r ++ t := by
  intro L r n h
  cases L with
  | nil => have := (fst_of h).2.2; omega
  | cons c t =>
    have hc := ub_bd c
    rcases wA_forms (ub c) with h1 | h1 | ⟨h1, h2⟩ | ⟨h1, h2⟩ | ⟨h1, h2⟩
    · rw [dec_c1 h1] at h
      obtain ⟨rfl, rfl, _⟩ := fst_of h
      refine ⟨isR_iff.2 (by omega), (wO_1 (by omega) h1).symm, t, ?_⟩
      rw [enc_1 (by omega) h1, u8_eq rfl]; rfl
    · rw [dec_c0 (wA_0 h1)] at h; have := (fst_of h).2.2; omega
    · rw [dec_c2 h1 h2] at h
      match t with
      | [] => have := (fst_of h).2.2; omega
      | d :: t =>
        simp only [two] at h
        split at h
        · obtain ⟨rfl, rfl, _⟩ := fst_of h
          refine ⟨isR_iff.2 (by omega), (wO_2 (by omega) (by omega)).symm, t, ?_⟩
          rw [enc_2 (by omega) (by omega), u8_eq (c := c) (by omega), u8_eq (c := d) (by omega)]; rfl
        · have := (fst_of h).2.2; omega
    · rw [dec_c3 h1 h2] at h
      have hl := lo_hi_bd (ub c)
      match t with
      | [] => have := (fst_of h).2.2; omega
      | [d] => simp only [three] at h; split at h <;> (have := (fst_of h).2.2; omega)
      | d :: e :: t =>
        simp only [three] at h
        split at h
        · split at h
          · obtain ⟨rfl, rfl, _⟩ := fst_of h
            have hr : isR (((ub c - 224) * 64 + (ub d - 128)) * 64 + (ub e - 128)) = true := isR_iff.2 (by omega)
            refine ⟨hr, (wO_3 hr (by omega) (by omega)).symm, t, ?_⟩
            rw [enc_3 hr (by omega) (by omega), u8_eq (c := c) (by omega), u8_eq (c := d) (by omega), u8_eq (c := e) (by omega)]; rfl
          · have := (fst_of h).2.2; omega
        · have := (fst_of h).2.2; omega
    · rw [dec_c4 h1 h2] at h
      have hl := lo_hi_bd (ub c)
      match t with
      | [] => have := (fst_of h).2.2; omega
      | [d] => simp only [four] at h; split at h <;> (have := (fst_of h).2.2; omega)
      | [d, e] =>
        simp only [four] at h
        split at h
        · split at h <;> (have := (fst_of h).2.2; omega)
        · have := (fst_of h).2.2; omega
      | d :: e :: f :: t =>
        simp only [four] at h
        split at h
        · split at h
          · split at h
            · obtain ⟨rfl, rfl, _⟩ := fst_of h
              refine ⟨isR_iff.2 (by omega), (wO_4 (by omega) (by omega)).symm, t, ?_⟩
              rw [enc_4 (by omega) (by omega), u8_eq (c := c) (by omega), u8_eq (c := d) (by omega), u8_eq (c := e) (by omega), u8_eq (c := f) (by omega)]; rfl
            · have := (fst_of h).2.2; omega
          · have := (fst_of h).2.2; omega
        · have := (fst_of h).2.2; omega
theorem enc_inj {r s : Int} (hr : isR r = true) (hs : isR s = true) {t u : List UInt8} (h : enc r ++ t = enc s ++ u) : r = s := by
  have h1 := dec_enc hr t
  rw [h, dec_enc hs u] at h1
  exact (fst_of h1).1.symm
theorem no_if {P Q : Prop} [Decidable P] [Decidable Q] {x e : Int} {n : Nat} (h : (if P then ((0, 0, 6) : Int × Nat × Int) else if Q then (x, n, 0) else (0, 0, e)).2.2 ≠ 0) :
    (if P then ((0, 0, 6) : Int × Nat × Int) else if Q then (x, n, 0) else (0, 0, e)) = (0, 0, (if P then ((0, 0, 6) : Int × Nat × Int) else if Q then (x, n, 0) else (0, 0, e)).2.2) := by
  by_cases p : P
  · rw [if_pos p]
  · rw [if_neg p] at h ⊢
    by_cases q : Q
    · rw [if_pos q] at h; exact absurd rfl h
    · rw [if_neg q]
/-- With an error the rest is zero, and the error is one of three. -/
theorem dec_no {L : List UInt8} (h : (dec L).2.2 ≠ 0) : dec L = (0, 0, (dec L).2.2) := by
  cases L with
  | nil => rfl
  | cons c t =>
    rw [dec] at h ⊢
    exact no_if h
theorem decGo_err : ∀ (n : Nat) (r lo hi : Int) (t : List UInt8), (decGo n r lo hi t).2 = 0 ∨ (decGo n r lo hi t).2 = 6 ∨ (decGo n r lo hi t).2 = 320 := by
  intro n
  induction n with
  | zero => intro r lo hi t; exact .inl (by unfold decGo; rfl)
  | succ n ih =>
    intro r lo hi t
    cases t with
    | nil => exact .inr (.inr (by unfold decGo; rfl))
    | cons c t =>
      unfold decGo; split
      · exact ih _ _ _ _
      · exact .inr (.inl rfl)
theorem three_if {P Q : Prop} [Decidable P] [Decidable Q] {x e : Int} {n : Nat} (h : e = 0 ∨ e = 6 ∨ e = 320) :
    (if P then ((0, 0, 6) : Int × Nat × Int) else if Q then (x, n, 0) else (0, 0, e)).2.2 = 0 ∨ (if P then ((0, 0, 6) : Int × Nat × Int) else if Q then (x, n, 0) else (0, 0, e)).2.2 = 6 ∨ (if P then ((0, 0, 6) : Int × Nat × Int) else if Q then (x, n, 0) else (0, 0, e)).2.2 = 320 := by
  by_cases p : P
  · rw [if_pos p]; exact .inr (.inl rfl)
  · rw [if_neg p]
    by_cases q : Q
    · rw [if_pos q]; exact .inl rfl
    · rw [if_neg q]; exact h
theorem dec_err (c : UInt8) (t : List UInt8) : (dec (c :: t)).2.2 = 0 ∨ (dec (c :: t)).2.2 = 6 ∨ (dec (c :: t)).2.2 = 320 := by
  rw [dec]
  exact three_if (decGo_err _ _ _ _ _)
theorem dec_bd (L : List UInt8) : 0 ≤ (dec L).1 ∧ (dec L).1 ≤ 1114111 ∧ (dec L).2.1 ≤ 4 ∧ (dec L).2.1 ≤ L.length := by
  by_cases h : (dec L).2.2 = 0
  · obtain ⟨h1, h2, t, h3⟩ := dec_ok (L := L) (r := (dec L).1) (n := (dec L).2.1) (by rw [← h])
    have := isR_iff.1 h1
    have h4 := wO_le (dec L).1
    have h5 := congrArg List.length h3
    rw [List.length_append, enc_len] at h5
    omega
  · rw [dec_no h]; simp
end Go.Proofs.YtemoeohchhpilaaDoor
