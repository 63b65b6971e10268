/- The lexer's mathematics: runs of runes, words, spaces and comments, tokens of a text. -/
import Derived.Test.YtemoeohchhpilaaDoorLi
namespace Go.Proofs.YtemoeohchhpilaaDoor

theorem dec_wd {L : List UInt8} (h : (dec L).2.2 = 0) : 1 ≤ (dec L).2.1 ∧ (dec L).2.1 ≤ L.length ∧ isR (dec L).1 = true := by
  obtain ⟨h1, h2, _⟩ := dec_ok (L := L) (r := (dec L).1) (n := (dec L).2.1) (by rw [← h])
  exact ⟨by rw [h2]; exact wO_pos h1, (dec_bd L).2.2.2, h1⟩
theorem dec_nil : dec [] = (0, 0, 7) := rfl
/-- The length of the longest run of runes as asked at the beginning. -/
def runF (p : Int → Bool) : Nat → List UInt8 → Nat
  | 0, _ => 0
  | f + 1, L => if (dec L).2.2 = 0 ∧ p (dec L).1 = true then (dec L).2.1 + runF p f (L.drop (dec L).2.1) else 0
def runN (p : Int → Bool) (L : List UInt8) : Nat := runF p L.length L
theorem runF_fuel (p : Int → Bool) : ∀ (f g : Nat) (L : List UInt8), L.length ≤ f → L.length ≤ g → runF p f L = runF p g L := by
  intro f
  induction f with
  | zero =>
    intro g L hf hg
    obtain rfl : L = [] := List.eq_nil_of_length_eq_zero (by omega)
    cases g with
    | zero => rfl
    | succ g => rw [runF, runF, if_neg (by rw [dec_nil]; simp)]
  | succ f ih =>
    intro g L hf hg
    cases g with
    | zero =>
      obtain rfl : L = [] := List.eq_nil_of_length_eq_zero (by omega)
      rw [runF, runF, if_neg (by rw [dec_nil]; simp)]
    | succ g =>
      rw [runF, runF]
      by_cases h : (dec L).2.2 = 0 ∧ p (dec L).1 = true
      · have := dec_wd h.1
        rw [if_pos h, if_pos h, ih g _ (by rw [List.length_drop]; omega) (by rw [List.length_drop]; omega)]
      · rw [if_neg h, if_neg h]
theorem runN_eq (p : Int → Bool) (L : List UInt8) : runN p L = if (dec L).2.2 = 0 ∧ p (dec L).1 = true then (dec L).2.1 + runN p (L.drop (dec L).2.1) else 0 := by
  unfold runN
  by_cases h : (dec L).2.2 = 0 ∧ p (dec L).1 = true
  · have := dec_wd h.1
    obtain ⟨m, hm⟩ : ∃ m, L.length = m + 1 := ⟨L.length - 1, by omega⟩
    rw [if_pos h, hm, runF, if_pos h, runF_fuel p m (L.drop (dec L).2.1).length _ (by rw [List.length_drop]; omega) (Nat.le_refl _)]
  · rw [if_neg h]
    cases hm : L.length with
    | zero => rfl
    | succ m => rw [runF, if_neg h]
theorem runN_step {p : Int → Bool} {L : List UInt8} (h : (dec L).2.2 = 0) (hp : p (dec L).1 = true) : runN p L = (dec L).2.1 + runN p (L.drop (dec L).2.1) := by
  rw [runN_eq, if_pos ⟨h, hp⟩]
theorem runN_stop {p : Int → Bool} {L : List UInt8} (h : ¬ ((dec L).2.2 = 0 ∧ p (dec L).1 = true)) : runN p L = 0 := by
  rw [runN_eq, if_neg h]
theorem runF_le (p : Int → Bool) : ∀ (f : Nat) (L : List UInt8), runF p f L ≤ L.length := by
  intro f
  induction f with
  | zero => intro L; exact Nat.zero_le _
  | succ f ih =>
    intro L
    rw [runF]
    split
    · rename_i h
      have := dec_wd h.1
      have h2 := ih (L.drop (dec L).2.1)
      rw [List.length_drop] at h2
      omega
    · exact Nat.zero_le _
theorem runN_le (p : Int → Bool) (L : List UInt8) : runN p L ≤ L.length := runF_le p _ L

/-- The class of the rune at the beginning; 0: none begins there. -/
def clsL (L : List UInt8) : Int := if (dec L).2.2 = 0 then clsS (dec L).1 else 0
def wdL (L : List UInt8) : Nat := (dec L).2.1
/-- The class as the program has it, and the width. -/
def clsP (L : List UInt8) : Int × Nat := if (dec L).2.2 = 0 then (clsS (dec L).1, (dec L).2.1) else (10, 1)
def isWc (c : Int) : Bool := c == 9 || c == 7 || c == 8
def isWr (r : Int) : Bool := symC r
theorem isWr_c (r : Int) : isWr r = isWc (clsS r) := rfl
def notLf (r : Int) : Bool := decide (r ≠ 10)
def wordN (L : List UInt8) : Nat := runN isWr L
def lineN (L : List UInt8) : Nat := runN notLf L

/-- Spaces and comments. -/
def spF : Nat → List UInt8 → Nat
  | 0, _ => 0
  | f + 1, L => if (clsP L).1 = 1 then (clsP L).2 + spF f (L.drop (clsP L).2) else if (clsP L).1 = 6 then (clsP L).2 + (lineN (L.drop (clsP L).2) + spF f (L.drop ((clsP L).2 + lineN (L.drop (clsP L).2)))) else 0
def spN (L : List UInt8) : Nat := spF L.length L
theorem clsP_pos (L : List UInt8) : 1 ≤ (clsP L).2 := by
  unfold clsP; split
  · rename_i h; exact (dec_wd h).1
  · exact Nat.le_refl _
theorem clsP_nil : clsP [] = (10, 1) := rfl
theorem clsP_in {L : List UInt8} (h : (clsP L).1 ≠ 10) : (dec L).2.2 = 0 ∧ clsP L = (clsS (dec L).1, (dec L).2.1) := by
  unfold clsP at *
  by_cases h2 : (dec L).2.2 = 0
  · rw [if_pos h2]; exact ⟨h2, rfl⟩
  · rw [if_neg h2] at h; exact absurd rfl h
theorem clsP_len {L : List UInt8} (h : L ≠ []) : (clsP L).2 ≤ L.length := by
  unfold clsP; split
  · exact (dec_bd L).2.2.2
  · have := List.length_pos_iff.2 h; show 1 ≤ L.length; omega
theorem spF_fuel : ∀ (f g : Nat) (L : List UInt8), L.length ≤ f → L.length ≤ g → spF f L = spF g L := by
  intro f
  induction f with
  | zero =>
    intro g L hf hg
    obtain rfl : L = [] := List.eq_nil_of_length_eq_zero (by omega)
    cases g with
    | zero => rfl
    | succ g => rw [spF, spF, if_neg (by rw [clsP_nil]; decide), if_neg (by rw [clsP_nil]; decide)]
  | succ f ih =>
    intro g L hf hg
    cases g with
    | zero =>
      obtain rfl : L = [] := List.eq_nil_of_length_eq_zero (by omega)
      rw [spF, spF, if_neg (by rw [clsP_nil]; decide), if_neg (by rw [clsP_nil]; decide)]
    | succ g =>
      have := clsP_pos L
      rw [spF, spF]
      by_cases h : (clsP L).1 = 1
      · rw [if_pos h, if_pos h, ih g _ (by rw [List.length_drop]; omega) (by rw [List.length_drop]; omega)]
      · rw [if_neg h, if_neg h]
        by_cases h : (clsP L).1 = 6
        · rw [if_pos h, if_pos h, ih g _ (by rw [List.length_drop]; omega) (by rw [List.length_drop]; omega)]
        · rw [if_neg h, if_neg h]
theorem spN_eq (L : List UInt8) : spN L = if (clsP L).1 = 1 then (clsP L).2 + spN (L.drop (clsP L).2) else if (clsP L).1 = 6 then (clsP L).2 + (lineN (L.drop (clsP L).2) + spN (L.drop ((clsP L).2 + lineN (L.drop (clsP L).2)))) else 0 := by
  have hp := clsP_pos L
  unfold spN
  cases hm : L.length with
  | zero =>
    obtain rfl : L = [] := List.eq_nil_of_length_eq_zero hm
    rw [if_neg (by rw [clsP_nil]; decide), if_neg (by rw [clsP_nil]; decide)]; rfl
  | succ m =>
    rw [spF]
    by_cases h : (clsP L).1 = 1
    · rw [if_pos h, if_pos h, spF_fuel m (L.drop (clsP L).2).length _ (by rw [List.length_drop]; omega) (Nat.le_refl _)]
    · rw [if_neg h, if_neg h]
      by_cases h : (clsP L).1 = 6
      · rw [if_pos h, if_pos h, spF_fuel m (L.drop ((clsP L).2 + lineN (L.drop (clsP L).2))).length _ (by rw [List.length_drop]; omega) (Nat.le_refl _)]
      · rw [if_neg h, if_neg h]
theorem spN_space {L : List UInt8} (h : (clsP L).1 = 1) : spN L = (clsP L).2 + spN (L.drop (clsP L).2) := by rw [spN_eq, if_pos h]
theorem spN_semi {L : List UInt8} (h : (clsP L).1 = 6) : spN L = (clsP L).2 + (lineN (L.drop (clsP L).2) + spN (L.drop ((clsP L).2 + lineN (L.drop (clsP L).2)))) := by
  rw [spN_eq, if_neg (by omega), if_pos h]
theorem spN_stop {L : List UInt8} (h1 : (clsP L).1 ≠ 1) (h6 : (clsP L).1 ≠ 6) : spN L = 0 := by
  rw [spN_eq, if_neg h1, if_neg h6]
theorem spN_nil : spN [] = 0 := rfl
theorem spN_le (L : List UInt8) : spN L ≤ L.length := by
  suffices H : ∀ (f : Nat) (L : List UInt8), spF f L ≤ L.length from H _ L
  intro f
  induction f with
  | zero => intro L; exact Nat.zero_le _
  | succ f ih =>
    intro L
    rw [spF]
    by_cases hL : L = []
    · subst hL; rw [if_neg (by rw [clsP_nil]; decide), if_neg (by rw [clsP_nil]; decide)]; exact Nat.zero_le _
    have hw := clsP_len hL
    split
    · have := ih (L.drop (clsP L).2); rw [List.length_drop] at this; omega
    · split
      · have h1 := ih (L.drop ((clsP L).2 + lineN (L.drop (clsP L).2)))
        have h2 := runN_le notLf (L.drop (clsP L).2)
        rw [List.length_drop] at h1 h2
        unfold lineN at *
        omega
      · exact Nat.zero_le _

/-- A token's kind, number and string; and how it fails. -/
abbrev Tb := Int × Int × List UInt8 × Int
/-- The marks: text, kind, number. -/
def marksS : List (List UInt8 × Int × Int) := [([40], 1, 1), ([91], 1, 2), ([41], 2, 1), ([93], 2, 2), ([39], 3, 0), ([35, 59], 4, 0), ([35, 102], 6, 0), ([35, 116], 6, 1)]
def mkGo : List (List UInt8 × Int × Int) → List UInt8 → Tb
  | [], _ => (0, 0, [], 6)
  | m :: r, x => if m.1 = x then (m.2.1, m.2.2, [], 0) else mkGo r x
def mkT (x : List UInt8) : Tb := mkGo marksS x
def wordT (x : List UInt8) : Tb := if (intE x).2 = 0 then (5, (intE x).1, [], 0) else if (intE x).2 = 7 then (0, 0, [], 7) else if 24 < x.length then (0, 0, [], 3) else (7, 0, x, 0)
/-- How long a token is, and what. -/
def tokN (L : List UInt8) : Nat := if isWc (clsP L).1 = true then (clsP L).2 + wordN (L.drop (clsP L).2) else if (clsP L).1 = 5 then (if (L.drop (clsP L).2).head? = some 59 then (clsP L).2 + 1 else (clsP L).2 + wordN (L.drop (clsP L).2)) else (clsP L).2
def tokT (L : List UInt8) : Tb := if isWc (clsP L).1 = true then wordT (L.take (tokN L)) else mkT (L.take (tokN L))
theorem tokN_pos (L : List UInt8) : 1 ≤ tokN L := by
  have := clsP_pos L
  unfold tokN; (repeat' split) <;> omega
theorem tokN_le {L : List UInt8} (h : L ≠ []) : tokN L ≤ L.length := by
  have h1 := clsP_len h
  have h2 := runN_le isWr (L.drop (clsP L).2)
  rw [List.length_drop] at h2
  unfold tokN wordN
  split
  · omega
  · split
    · split
      · rename_i h3
        have h4 : 0 < (L.drop (clsP L).2).length := by
          cases hq : L.drop (clsP L).2 with
          | nil => rw [hq] at h3; cases h3
          | cons a r => simp
        rw [List.length_drop] at h4
        omega
      · omega
    · omega

/-- A token: kind, from, to, number, string. -/
abbrev Tok := Int × Int × Int × Int × List UInt8
/-- The first token of a text, that stands off bytes behind the beginning: the token, or the span of the fault alone; the error, 4 for none. -/
def firstS (off : Nat) (L : List UInt8) : Tok × Int :=
  if L.drop (spN L) = [] then ((0, 0, 0, 0, []), 4)
  else (((tokT (L.drop (spN L))).1, ((off + spN L : Nat) : Int), ((off + (spN L + tokN (L.drop (spN L))) : Nat) : Int), (tokT (L.drop (spN L))).2.1, (tokT (L.drop (spN L))).2.2.1), (tokT (L.drop (spN L))).2.2.2)
/-- All tokens, or the span of the fault and the error. -/
def lexF : Nat → Nat → List UInt8 → List Tok × (Int × Int) × Int
  | 0, _, _ => ([], (0, 0), 0)
  | f + 1, off, L =>
    if (firstS off L).2 = 4 then ([], (0, 0), 0)
    else if (firstS off L).2 = 0 then
      (if (lexF f (off + (spN L + tokN (L.drop (spN L)))) (L.drop (spN L + tokN (L.drop (spN L))))).2.2 = 0 then ((firstS off L).1 :: (lexF f (off + (spN L + tokN (L.drop (spN L)))) (L.drop (spN L + tokN (L.drop (spN L))))).1, (0, 0), 0)
       else lexF f (off + (spN L + tokN (L.drop (spN L)))) (L.drop (spN L + tokN (L.drop (spN L)))))
    else ([], ((firstS off L).1.2.1, (firstS off L).1.2.2.1), (firstS off L).2)
def lexO (off : Nat) (L : List UInt8) : List Tok × (Int × Int) × Int := lexF L.length off L
def lexS (L : List UInt8) : List Tok × (Int × Int) × Int := if 8000 < L.length then ([], (0, 0), 3) else lexO 0 L
theorem firstS_nil (off : Nat) : firstS off [] = ((0, 0, 0, 0, []), 4) := rfl
theorem mkGo_e : ∀ (M : List (List UInt8 × Int × Int)) (x : List UInt8), (mkGo M x).2.2.2 = 0 ∨ mkGo M x = (0, 0, [], 6) := by
  intro M
  induction M with
  | nil => intro x; exact .inr rfl
  | cons m r ih =>
    intro x
    rw [mkGo]
    split
    · exact .inl rfl
    · exact ih x
theorem wordT_e (x : List UInt8) : (wordT x).2.2.2 = 0 ∨ wordT x = (0, 0, [], 7) ∨ wordT x = (0, 0, [], 3) := by
  unfold wordT
  (repeat' split)
  · exact .inl rfl
  · exact .inr (.inl rfl)
  · exact .inr (.inr rfl)
  · exact .inl rfl
/-- The errors of a token. -/
theorem tokT_e (L : List UInt8) : (tokT L).2.2.2 = 0 ∨ ∃ e, (e = 6 ∨ e = 7 ∨ e = 3) ∧ tokT L = (0, 0, [], e) := by
  unfold tokT
  split
  · rcases wordT_e (L.take (tokN L)) with h | h | h
    · exact .inl h
    · exact .inr ⟨7, by simp, h⟩
    · exact .inr ⟨3, by simp, h⟩
  · rcases mkGo_e marksS (L.take (tokN L)) with h | h
    · exact .inl h
    · exact .inr ⟨6, by simp, h⟩
theorem firstS_none {off : Nat} {L : List UInt8} : (firstS off L).2 = 4 ↔ L.drop (spN L) = [] := by
  unfold firstS
  split
  · rename_i h; exact ⟨fun _ => h, fun _ => rfl⟩
  · rename_i h
    refine ⟨fun h2 => ?_, fun h2 => absurd h2 h⟩
    rcases tokT_e (L.drop (spN L)) with h3 | ⟨e, h3, h4⟩
    · simp only at h2; omega
    · simp only [h4] at h2; omega
theorem firstS_pos {off : Nat} {L : List UInt8} (h : L.drop (spN L) ≠ []) : firstS off L = (((tokT (L.drop (spN L))).1, ((off + spN L : Nat) : Int), ((off + (spN L + tokN (L.drop (spN L))) : Nat) : Int), (tokT (L.drop (spN L))).2.1, (tokT (L.drop (spN L))).2.2.1), (tokT (L.drop (spN L))).2.2.2) := by
  unfold firstS; rw [if_neg h]
theorem stepN_le {L : List UInt8} (h : L.drop (spN L) ≠ []) : spN L + tokN (L.drop (spN L)) ≤ L.length ∧ 1 ≤ spN L + tokN (L.drop (spN L)) := by
  have h1 := tokN_le h
  have h2 := tokN_pos (L.drop (spN L))
  have h3 := spN_le L
  rw [List.length_drop] at h1
  omega
theorem lexF_fuel : ∀ (f g off : Nat) (L : List UInt8), L.length ≤ f → L.length ≤ g → lexF f off L = lexF g off L := by
  intro f
  induction f with
  | zero =>
    intro g off L hf hg
    obtain rfl : L = [] := List.eq_nil_of_length_eq_zero (by omega)
    cases g with
    | zero => rfl
    | succ g => rw [lexF, lexF, if_pos (by rw [firstS_nil])]
  | succ f ih =>
    intro g off L hf hg
    cases g with
    | zero =>
      obtain rfl : L = [] := List.eq_nil_of_length_eq_zero (by omega)
      rw [lexF, lexF, if_pos (by rw [firstS_nil])]
    | succ g =>
      rw [lexF, lexF]
      by_cases h4 : (firstS off L).2 = 4
      · rw [if_pos h4, if_pos h4]
      · have hs := stepN_le (fun h => h4 (firstS_none.2 h))
        rw [if_neg h4, if_neg h4, ih g _ (L.drop (spN L + tokN (L.drop (spN L)))) (by rw [List.length_drop]; omega) (by rw [List.length_drop]; omega)]
theorem lexO_eq (off : Nat) (L : List UInt8) : lexO off L =
    if (firstS off L).2 = 4 then ([], (0, 0), 0)
    else if (firstS off L).2 = 0 then
      (if (lexO (off + (spN L + tokN (L.drop (spN L)))) (L.drop (spN L + tokN (L.drop (spN L))))).2.2 = 0 then ((firstS off L).1 :: (lexO (off + (spN L + tokN (L.drop (spN L)))) (L.drop (spN L + tokN (L.drop (spN L))))).1, (0, 0), 0)
       else lexO (off + (spN L + tokN (L.drop (spN L)))) (L.drop (spN L + tokN (L.drop (spN L)))))
    else ([], ((firstS off L).1.2.1, (firstS off L).1.2.2.1), (firstS off L).2) := by
  unfold lexO
  cases hm : L.length with
  | zero =>
    obtain rfl : L = [] := List.eq_nil_of_length_eq_zero hm
    rw [if_pos (by rw [firstS_nil])]; rfl
  | succ m =>
    rw [lexF]
    by_cases h4 : (firstS off L).2 = 4
    · rw [if_pos h4, if_pos h4]
    · have hs := stepN_le (fun h => h4 (firstS_none.2 h))
      rw [if_neg h4, if_neg h4, lexF_fuel m (L.drop (spN L + tokN (L.drop (spN L)))).length _ (L.drop (spN L + tokN (L.drop (spN L)))) (by rw [List.length_drop]; omega) (Nat.le_refl _)]
theorem lexO_none {off : Nat} {L : List UInt8} (h : (firstS off L).2 = 4) : lexO off L = ([], (0, 0), 0) := by rw [lexO_eq, if_pos h]
theorem lexO_bad {off : Nat} {L : List UInt8} (h : (firstS off L).2 ≠ 4) (h0 : (firstS off L).2 ≠ 0) : lexO off L = ([], ((firstS off L).1.2.1, (firstS off L).1.2.2.1), (firstS off L).2) := by rw [lexO_eq, if_neg h, if_neg h0]
theorem lexO_ok {off : Nat} {L : List UInt8} (h0 : (firstS off L).2 = 0) : lexO off L = if (lexO (off + (spN L + tokN (L.drop (spN L)))) (L.drop (spN L + tokN (L.drop (spN L))))).2.2 = 0 then ((firstS off L).1 :: (lexO (off + (spN L + tokN (L.drop (spN L)))) (L.drop (spN L + tokN (L.drop (spN L))))).1, (0, 0), 0)
       else lexO (off + (spN L + tokN (L.drop (spN L)))) (L.drop (spN L + tokN (L.drop (spN L)))) := by rw [lexO_eq, if_neg (by omega), if_pos h0]

/-- How marks are written. -/
def txGo : List (List UInt8 × Int × Int) → Int → Int → List UInt8
  | [], _, _ => []
  | m :: r, k, n => if m.2.1 = k ∧ m.2.2 = n then m.1 else txGo r k n
end Go.Proofs.YtemoeohchhpilaaDoor
