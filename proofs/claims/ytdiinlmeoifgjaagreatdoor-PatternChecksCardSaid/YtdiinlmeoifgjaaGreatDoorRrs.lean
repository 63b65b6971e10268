/- What the reference's number, stands, begins and Decode return: plain mathematics. -/
import Derived.Test.YtdiinlmeoifgjaaGreatDoorZc
namespace Go.Proofs.YtdiinlmeoifgjaaGreatDoor

/-- A first byte that says that there are n bytes. -/
def inRg (n : Nat) (c : Int) : Bool := decide ((n = 2 ∧ 192 ≤ c ∧ c < 224) ∨ (n = 3 ∧ 224 ≤ c ∧ c < 240) ∨ (n = 4 ∧ 240 ≤ c ∧ c < 248))
def accG : Nat → Int → List UInt8 → Int
  | 0, r, _ => r
  | _ + 1, _, [] => -1
  | n + 1, r, c :: t => if 128 ≤ ub c ∧ ub c < 192 then accG n (64 * r + ub c - 128) t else -1
def numS : List UInt8 → Int
  | [] => -1
  | c :: t => if inRg (t.length + 1) (ub c) then accG t.length (ub c - mkB (t.length + 1)) t else if t.length = 0 ∧ ub c < 128 then ub c else -1
def stdS (L : List UInt8) : Int × Bool := if isR (numS L) then (numS L, decide (L = enc (numS L))) else (0, false)
theorem accG_neg : ∀ (n : Nat) (r : Int) (t : List UInt8), 0 ≤ r → -1 ≤ accG n r t := by
  intro n
  induction n with
  | zero => intro r t h; unfold accG; omega
  | succ n ih =>
    intro r t h
    cases t with
    | nil => unfold accG; omega
    | cons c t => unfold accG; split
                  · exact ih _ _ (by omega)
                  · omega
theorem num_enc {r : Int} (hr : isR r = true) : numS (enc r) = r := by
  have hb := isR_iff.1 hr
  rcases isR_forms hr with ⟨a, b⟩ | ⟨a, b⟩ | ⟨a, b⟩ | ⟨a, b⟩
  · have e1 := ub_u8 (n := r) (by omega)
    rw [enc_1 a b, numS, if_neg (by simp [inRg]), if_pos (by simp; omega), e1]
  · have e1 := ub_u8 (n := 192 + r / 64) (by omega)
    have e2 := ub_u8 (n := 128 + r % 64) (by omega)
    rw [enc_2 a b, numS, if_pos (by simp [inRg, e1]; omega)]
    simp only [List.length_cons, List.length_nil, accG, mkB]
    rw [if_pos (by omega), e1, e2]
    simp; omega
  · have e1 := ub_u8 (n := 224 + r / 4096) (by omega)
    have e2 := ub_u8 (n := 128 + r / 64 % 64) (by omega)
    have e3 := ub_u8 (n := 128 + r % 64) (by omega)
    rw [enc_3 hr a b, numS, if_pos (by simp [inRg, e1]; omega)]
    simp only [List.length_cons, List.length_nil, accG, mkB]
    rw [if_pos (by omega), if_pos (by omega), e1, e2, e3]
    simp; omega
  · have e1 := ub_u8 (n := 240 + r / 262144) (by omega)
    have e2 := ub_u8 (n := 128 + r / 4096 % 64) (by omega)
    have e3 := ub_u8 (n := 128 + r / 64 % 64) (by omega)
    have e4 := ub_u8 (n := 128 + r % 64) (by omega)
    rw [enc_4 a b, numS, if_pos (by simp [inRg, e1]; omega)]
    simp only [List.length_cons, List.length_nil, accG, mkB]
    rw [if_pos (by omega), if_pos (by omega), if_pos (by omega), e1, e2, e3, e4]
    simp; omega
theorem std_enc {r : Int} (hr : isR r = true) : stdS (enc r) = (r, true) := by
  unfold stdS; rw [num_enc hr, hr, if_pos rfl, decide_eq_true rfl]
theorem std_yes {L : List UInt8} (h : (stdS L).2 = true) : isR (stdS L).1 = true ∧ L = enc (stdS L).1 := by
  unfold stdS at h ⊢
  cases hr : isR (numS L)
  · rw [hr] at h; cases h
  · rw [hr, if_pos rfl] at h; rw [if_pos rfl]; exact ⟨hr, of_decide_eq_true h⟩
/-- Whether bytes are those of a rune, by Decode. -/
theorem std_dec (L : List UInt8) : (stdS L).2 = true ↔ (dec L).2.2 = 0 ∧ (dec L).2.1 = L.length := by
  constructor
  · intro h
    obtain ⟨h1, h2⟩ := std_yes h
    have h3 := dec_enc h1 []
    rw [List.append_nil, ← h2] at h3
    rw [h3]
    exact ⟨rfl, by conv => rhs; rw [h2, enc_len]⟩
  · rintro ⟨h1, h2⟩
    obtain ⟨hr, hn, t, ht⟩ := dec_ok (L := L) (r := (dec L).1) (n := (dec L).2.1) (by rw [← h1])
    have : t = [] := by
      have hl := congrArg List.length ht
      rw [List.length_append, enc_len, ← hn, h2] at hl
      exact List.eq_nil_of_length_eq_zero (by omega)
    rw [this, List.append_nil] at ht
    rw [ht, std_enc hr]
/-- How many bytes the reference expects. -/
def manyS (c : Int) : Nat := if 192 ≤ c ∧ c < 224 then 2 else if 224 ≤ c ∧ c < 240 then 3 else if 240 ≤ c ∧ c < 248 then 4 else 0
def fillS (L : List UInt8) (m : Nat) (x : UInt8) : List UInt8 := L ++ List.replicate (m - L.length) x
def begS (L : List UInt8) : Bool := match L with
  | [] => false
  | c :: t => if manyS (ub c) ≤ t.length + 1 then false else (stdS (fillS (c :: t) (manyS (ub c)) 128)).2 || (stdS (fillS (c :: t) (manyS (ub c)) 191)).2
theorem std_b (L : List UInt8) : (stdS L).2 = decide ((dec L).2.2 = 0 ∧ (dec L).2.1 = L.length) := by
  rw [Bool.eq_iff_iff, decide_eq_true_iff]; exact std_dec L
theorem many_2 {c : Int} (h : 192 ≤ c) (h2 : c < 224) : manyS c = 2 := by unfold manyS; rw [if_pos ⟨h, h2⟩]
theorem many_3 {c : Int} (h : 224 ≤ c) (h2 : c < 240) : manyS c = 3 := by unfold manyS; rw [if_neg (by omega), if_pos ⟨h, h2⟩]
theorem many_4 {c : Int} (h : 240 ≤ c) (h2 : c < 248) : manyS c = 4 := by unfold manyS; rw [if_neg (by omega), if_neg (by omega), if_pos ⟨h, h2⟩]
theorem ub128 : ub 128 = 128 := rfl
theorem ub191 : ub 191 = 191 := rfl
theorem fill_1 (c x : UInt8) : fillS [c] 2 x = [c, x] := rfl
theorem fill_2 (c x : UInt8) : fillS [c] 3 x = [c, x, x] := rfl
theorem fill_3 (c d x : UInt8) : fillS [c, d] 3 x = [c, d, x] := rfl
theorem fill_4 (c x : UInt8) : fillS [c] 4 x = [c, x, x, x] := rfl
theorem fill_5 (c d x : UInt8) : fillS [c, d] 4 x = [c, d, x, x] := rfl
theorem fill_6 (c d e x : UInt8) : fillS [c, d, e] 4 x = [c, d, e, x] := rfl
/-- begins is true where Decode asks for more bytes. -/
theorem beg_dec {c : UInt8} {t : List UInt8} (hl : t.length < 3) (hno : (dec (c :: t)).2.2 ≠ 0) : begS (c :: t) = decide ((dec (c :: t)).2.2 = 320) := by
  have hc := ub_bd c
  rcases wA_forms (ub c) with h1 | h1 | ⟨h1, h2⟩ | ⟨h1, h2⟩ | ⟨h1, h2⟩
  · rw [dec_c1 h1] at hno; exact absurd rfl hno
  · have h0 : ∀ u, dec (c :: u) = (0, 0, 6) := fun u => dec_c0 (wA_0 h1)
    rw [h0]
    have hb : ∀ m x, (stdS (fillS (c :: t) m x)).2 = false := by
      intro m x
      rw [std_b]
      have : fillS (c :: t) m x = c :: (t ++ List.replicate (m - (c :: t).length) x) := rfl
      rw [this, h0]; simp
    rw [begS]
    split
    · simp
    · rw [hb, hb]; simp
  · rw [dec_c2 h1 h2] at hno ⊢
    rw [begS, many_2 (by omega) h2]
    cases t with
    | nil => rw [if_neg (by simp), fill_1, std_b, dec_c2 h1 h2]; simp [two, ub128]
    | cons d u =>
      rw [if_pos (by simp)]
      by_cases h : 128 ≤ ub d ∧ ub d ≤ 191
      · have e : (two (ub c) (d :: u)).2.2 = 0 := by rw [two, if_pos h]
        exact absurd e hno
      · have e : two (ub c) (d :: u) = (0, 0, 6) := by rw [two, if_neg h]
        rw [e]; rfl
  · have hlh := lo_hi_bd (ub c)
    rw [dec_c3 h1 h2] at hno ⊢
    rw [begS, many_3 h1 h2]
    match t, hl with
    | [], _ =>
      have e3 : three (ub c) [] = (0, 0, 320) := rfl
      rw [if_neg (by simp), fill_2, fill_2, std_b, std_b, dec_c3 h1 h2, dec_c3 h1 h2, e3]
      by_cases hx : loBR (ub c) ≤ 128 ∧ 128 ≤ hiBR (ub c)
      · obtain ⟨x, e1⟩ : ∃ x, three (ub c) [128, 128] = (x, 3, 0) := ⟨_, by rw [three, ub128, if_pos hx, if_pos (by omega)]⟩
        rw [e1]; simp
      · obtain ⟨x, e1⟩ : ∃ x, three (ub c) [191, 191] = (x, 3, 0) := ⟨_, by rw [three, ub191, if_pos (by omega), if_pos (by omega)]⟩
        rw [e1]; simp
    | [d], _ =>
      rw [if_neg (by simp), fill_3, fill_3, std_b, std_b, dec_c3 h1 h2, dec_c3 h1 h2]
      by_cases hx : loBR (ub c) ≤ ub d ∧ ub d ≤ hiBR (ub c)
      · obtain ⟨x, e1⟩ : ∃ x, three (ub c) [d, 128] = (x, 3, 0) := ⟨_, by rw [three, ub128, if_pos hx, if_pos (by omega)]⟩
        have e2 : three (ub c) [d] = (0, 0, 320) := by rw [three, if_pos hx]
        rw [e1, e2]; simp
      · have e1 : three (ub c) [d, 128] = (0, 0, 6) := by rw [three, if_neg hx]
        have e2 : three (ub c) [d] = (0, 0, 6) := by rw [three, if_neg hx]
        have e3 : three (ub c) [d, 191] = (0, 0, 6) := by rw [three, if_neg hx]
        rw [e1, e2, e3]; simp
    | [d, e], _ =>
      rw [if_pos (by simp)]
      by_cases hx : loBR (ub c) ≤ ub d ∧ ub d ≤ hiBR (ub c)
      · by_cases hy : 128 ≤ ub e ∧ ub e ≤ 191
        · have e1 : (three (ub c) [d, e]).2.2 = 0 := by rw [three, if_pos hx, if_pos hy]
          exact absurd e1 hno
        · have e1 : three (ub c) [d, e] = (0, 0, 6) := by rw [three, if_pos hx, if_neg hy]
          rw [e1]; rfl
      · have e1 : three (ub c) [d, e] = (0, 0, 6) := by rw [three, if_neg hx]
        rw [e1]; rfl
  · have hlh := lo_hi_bd (ub c)
    rw [dec_c4 h1 h2] at hno ⊢
    rw [begS, many_4 h1 (by omega)]
    match t, hl with
    | [], _ =>
      have e3 : four (ub c) [] = (0, 0, 320) := rfl
      rw [if_neg (by simp), fill_4, fill_4, std_b, std_b, dec_c4 h1 h2, dec_c4 h1 h2, e3]
      by_cases hx : loBR (ub c) ≤ 128 ∧ 128 ≤ hiBR (ub c)
      · obtain ⟨x, e1⟩ : ∃ x, four (ub c) [128, 128, 128] = (x, 4, 0) := ⟨_, by rw [four, ub128, if_pos hx, if_pos (by omega), if_pos (by omega)]⟩
        rw [e1]; simp
      · obtain ⟨x, e1⟩ : ∃ x, four (ub c) [191, 191, 191] = (x, 4, 0) := ⟨_, by rw [four, ub191, if_pos (by omega), if_pos (by omega), if_pos (by omega)]⟩
        rw [e1]; simp
    | [d], _ =>
      rw [if_neg (by simp), fill_5, fill_5, std_b, std_b, dec_c4 h1 h2, dec_c4 h1 h2]
      by_cases hx : loBR (ub c) ≤ ub d ∧ ub d ≤ hiBR (ub c)
      · obtain ⟨x, e1⟩ : ∃ x, four (ub c) [d, 128, 128] = (x, 4, 0) := ⟨_, by rw [four, ub128, if_pos hx, if_pos (by omega), if_pos (by omega)]⟩
        have e2 : four (ub c) [d] = (0, 0, 320) := by rw [four, if_pos hx]
        rw [e1, e2]; simp
      · have e1 : four (ub c) [d, 128, 128] = (0, 0, 6) := by rw [four, if_neg hx]
        have e2 : four (ub c) [d] = (0, 0, 6) := by rw [four, if_neg hx]
        have e3 : four (ub c) [d, 191, 191] = (0, 0, 6) := by rw [four, if_neg hx]
        rw [e1, e2, e3]; simp
    | [d, e], _ =>
      rw [if_neg (by simp), fill_6, fill_6, std_b, std_b, dec_c4 h1 h2, dec_c4 h1 h2]
      by_cases hx : loBR (ub c) ≤ ub d ∧ ub d ≤ hiBR (ub c)
      · by_cases hy : 128 ≤ ub e ∧ ub e ≤ 191
        · obtain ⟨x, e1⟩ : ∃ x, four (ub c) [d, e, 128] = (x, 4, 0) := ⟨_, by rw [four, ub128, if_pos hx, if_pos hy, if_pos (by omega)]⟩
          have e2 : four (ub c) [d, e] = (0, 0, 320) := by rw [four, if_pos hx, if_pos hy]
          rw [e1, e2]; simp
        · have e1 : four (ub c) [d, e, 128] = (0, 0, 6) := by rw [four, if_pos hx, if_neg hy]
          have e2 : four (ub c) [d, e] = (0, 0, 6) := by rw [four, if_pos hx, if_neg hy]
          have e3 : four (ub c) [d, e, 191] = (0, 0, 6) := by rw [four, if_pos hx, if_neg hy]
          rw [e1, e2, e3]; simp
      · have e1 : four (ub c) [d, e, 128] = (0, 0, 6) := by rw [four, if_neg hx]
        have e2 : four (ub c) [d, e] = (0, 0, 6) := by rw [four, if_neg hx]
        have e3 : four (ub c) [d, e, 191] = (0, 0, 6) := by rw [four, if_neg hx]
        rw [e1, e2, e3]; simp
/-- Decode asks for more bytes only where fewer than four are left. -/
theorem dec_more {c : UInt8} {t : List UInt8} (h : (dec (c :: t)).2.2 = 320) : t.length < 3 := by
  rcases wA_forms (ub c) with h1 | h1 | ⟨h1, h2⟩ | ⟨h1, h2⟩ | ⟨h1, h2⟩
  · rw [dec_c1 h1] at h; simp at h
  · rw [dec_c0 (wA_0 h1)] at h; simp at h
  · rw [dec_c2 h1 h2] at h
    cases t with
    | nil => simp
    | cons d u => simp only [two] at h; split at h <;> simp at h
  · rw [dec_c3 h1 h2] at h
    match t with
    | [] => simp
    | [d] => simp
    | d :: e :: u =>
      simp only [three] at h
      split at h
      · split at h <;> simp at h
      · simp at h
  · rw [dec_c4 h1 h2] at h
    match t with
    | [] => simp
    | [d] => simp
    | [d, e] => simp
    | d :: e :: f :: u =>
      simp only [four] at h
      split at h
      · split at h
        · split at h <;> simp at h
        · simp at h
      · simp at h
/-- The rune that stands at the beginning of a list, by its first n bytes. -/
theorem std_take {L : List UInt8} {n : Nat} (hn : n ≤ L.length) : (stdS (L.take n)).2 = true → dec L = ((stdS (L.take n)).1, n, 0) := by
  intro h
  obtain ⟨h1, h2⟩ := std_yes h
  have h3 := dec_enc h1 (L.drop n)
  rw [← h2, List.take_append_drop] at h3
  rw [h3, ← enc_len, ← h2, List.length_take, Nat.min_eq_left hn]
theorem std_none {L : List UInt8} (h : ∀ n, 1 ≤ n → n ≤ 4 → n ≤ L.length → (stdS (L.take n)).2 = false) : (dec L).2.2 ≠ 0 := by
  intro h0
  obtain ⟨r, n, hrn⟩ : ∃ r n, dec L = (r, n, 0) := ⟨(dec L).1, (dec L).2.1, by rw [← h0]⟩
  obtain ⟨hr, hn, t, ht⟩ := dec_ok hrn
  have hp := wO_pos hr
  have hl := congrArg List.length ht
  rw [List.length_append, enc_len] at hl
  have := h (wO r) hp (wO_le _) (by omega)
  have e : L.take (wO r) = enc r := by rw [ht, ← enc_len]; simp
  rw [e, std_enc hr] at this
  cases this
end Go.Proofs.YtdiinlmeoifgjaaGreatDoor
