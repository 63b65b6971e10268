/- LexerLexes: spaces and tokens as the reference reads them (mathematics). -/
import Derived.Test.YtemoeohchhpilaaDoorLnx
namespace Go.Proofs.YtemoeohchhpilaaDoor

theorem spL_space {L : List UInt8} (h : clsL L = 1) : (dec L).2.2 = 0 ∧ spN L = (dec L).2.1 + spN (L.drop (dec L).2.1) := by
  by_cases h0 : (dec L).2.2 = 0
  · rw [clsL_in h0] at h
    have e := clsP_ok h0
    have := spN_space (L := L) (by rw [e]; exact h)
    rw [e] at this
    exact ⟨h0, this⟩
  · rw [clsL_no h0] at h; cases h
/-- What is left of a comment, and the spaces behind it. -/
def lsN (L : List UInt8) : Nat := lineN L + spN (L.drop (lineN L))
theorem spL_semi {L : List UInt8} (h : clsL L = 6) : (∃ t, L = 59 :: t) ∧ spN L = lsN L := by
  by_cases h0 : (dec L).2.2 = 0
  · rw [clsL_in h0] at h
    have e := clsP_ok h0
    have h6 : (clsP L).1 = 6 := by rw [e]; exact h
    obtain ⟨t, ht, _⟩ := head_semi h6
    exact ⟨⟨t, ht⟩, spN_line h6⟩
  · rw [clsL_no h0] at h; cases h
theorem spL_stop {L : List UInt8} (h1 : clsL L ≠ 1) (h6 : clsL L ≠ 6) : spN L = 0 := by
  by_cases h0 : (dec L).2.2 = 0
  · rw [clsL_in h0] at h1 h6
    have e := clsP_ok h0
    exact spN_stop (by rw [e]; exact h1) (by rw [e]; exact h6)
  · exact (line_bad h0).2
theorem lsN_nil : lsN [] = 0 := rfl
theorem lsN_10 (t : List UInt8) : lsN (10 :: t) = spN (10 :: t) := by unfold lsN; rw [line_10, List.drop_zero, Nat.zero_add]
theorem lsN_lo {c : UInt8} {t : List UInt8} (h : ub c < 128) (h10 : c ≠ 10) : lsN (c :: t) = 1 + lsN t := by
  unfold lsN; rw [line_lo h h10, Nat.add_comm 1 (lineN t), List.drop_succ_cons]; omega
theorem lsN_hi {L : List UInt8} (h0 : (dec L).2.2 = 0) (hr : (dec L).1 ≠ 10) : lsN L = (dec L).2.1 + lsN (L.drop (dec L).2.1) := by
  unfold lsN; rw [line_hi h0 hr, ← List.drop_drop]; omega
theorem lsN_bad {L : List UInt8} (h0 : (dec L).2.2 ≠ 0) : lsN L = 0 := by
  unfold lsN; rw [(line_bad h0).1, List.drop_zero, (line_bad h0).2]
theorem dec_hi {c : UInt8} {t : List UInt8} (h : 128 ≤ ub c) (h0 : (dec (c :: t)).2.2 = 0) : (dec (c :: t)).1 ≠ 10 := by
  obtain ⟨c', t', e, h1⟩ := dec_head h0
  obtain ⟨rfl, rfl⟩ := List.cons.inj e
  rcases h1 with ⟨h1, _⟩ | ⟨_, h1, _⟩ <;> omega

/-- What the reference's first returns at a place. -/
def rfV (m : Nat) (M : List UInt8) : Value := if (tokT M).2.2.2 = 0 then .tuple #[tokA ((tokT M).1, (m : Int), ((m + tokN M : Nat) : Int), (tokT M).2.1, (tokT M).2.2.1), .agg #[.int .i64 0, .int .i64 0], .int .i64 0]
  else .tuple #[tokA (0, 0, 0, 0, []), .agg #[.int .i64 (m : Int), .int .i64 ((m + tokN M : Nat) : Int)], .int .i64 (tokT M).2.2.2]
theorem nx_first {l : List UInt8} {k m : Nat} (hm : k + spN (l.drop k) = m) (hne : l.drop m ≠ []) : nxV k (l.drop k) = rfV m (l.drop m) := by
  have e : (l.drop k).drop (spN (l.drop k)) = l.drop m := by rw [List.drop_drop, hm]
  have h := firstS_pos (off := k) (L := l.drop k) (by rw [e]; exact hne)
  rw [e] at h
  have e1 : ((k + spN (l.drop k) : Nat) : Int) = (m : Int) := by rw [hm]
  have e2 : ((k + (spN (l.drop k) + tokN (l.drop m)) : Nat) : Int) = ((m + tokN (l.drop m) : Nat) : Int) := by rw [← hm]; congr 1; omega
  unfold nxV rfV
  rw [h]
  simp only [e1, e2]
theorem nx_none {l : List UInt8} {k : Nat} (hm : l.length ≤ k + spN (l.drop k)) : nxV k (l.drop k) = .tuple #[tokA (0, 0, 0, 0, []), .agg #[.int .i64 0, .int .i64 0], .int .i64 4] := by
  have e : (l.drop k).drop (spN (l.drop k)) = [] := by rw [List.drop_drop]; exact List.drop_of_length_le hm
  have h : firstS k (l.drop k) = ((0, 0, 0, 0, []), 4) := by unfold firstS; rw [if_pos e]
  unfold nxV; rw [h, if_neg (by decide)]
theorem rfV_ok {m q : Nat} {M : List UInt8} {k n : Int} {s : List UInt8} (h1 : tokN M = q) (h2 : tokT M = (k, n, s, 0)) : rfV m M = .tuple #[tokA (k, (m : Int), ((m + q : Nat) : Int), n, s), .agg #[.int .i64 0, .int .i64 0], .int .i64 0] := by
  unfold rfV; rw [h1, h2, if_pos rfl]
theorem rfV_no {m q : Nat} {M : List UInt8} {e : Int} (h1 : tokN M = q) (h2 : (tokT M).2.2.2 = e) (he : e ≠ 0) : rfV m M = .tuple #[tokA (0, 0, 0, 0, []), .agg #[.int .i64 (m : Int), .int .i64 ((m + q : Nat) : Int)], .int .i64 e] := by
  unfold rfV; rw [h1, h2, if_neg he]
/-- What Next returns of any text, at any place. -/
def nxS (l : List UInt8) (k : Int) : Value := if 8000 < l.length then .tuple #[tokA (0, 0, 0, 0, []), .agg #[.int .i64 0, .int .i64 0], .int .i64 3]
  else if k < 0 ∨ (l.length : Int) < k then .tuple #[tokA (0, 0, 0, 0, []), .agg #[.int .i64 0, .int .i64 0], .int .i64 7]
  else nxV k.toNat (l.drop k.toNat)
theorem nxS_long {l : List UInt8} {k : Int} (h : 8000 < l.length) : nxS l k = .tuple #[tokA (0, 0, 0, 0, []), .agg #[.int .i64 0, .int .i64 0], .int .i64 3] := by unfold nxS; rw [if_pos h]
theorem nxS_out {l : List UInt8} {k : Int} (h : ¬ 8000 < l.length) (h2 : k < 0 ∨ (l.length : Int) < k) : nxS l k = .tuple #[tokA (0, 0, 0, 0, []), .agg #[.int .i64 0, .int .i64 0], .int .i64 7] := by unfold nxS; rw [if_neg h, if_pos h2]
theorem nxS_in {l : List UInt8} {k : Nat} (h : ¬ 8000 < l.length) (h2 : k ≤ l.length) : nxS l (k : Int) = nxV k (l.drop k) := by unfold nxS; rw [if_neg h, if_neg (by omega), Int.toNat_natCast]
/-- What the reference's first finds, class by class. -/
theorem tok_cls {M : List UInt8} (hne : M ≠ []) :
    ((dec M).2.2 ≠ 0 ∧ clsL M = 0 ∧ tokN M = 1 ∧ tokT M = (0, 0, [], 6)) ∨
    ((dec M).2.2 = 0 ∧ clsP M = (clsL M, (dec M).2.1)) := by
  by_cases h0 : (dec M).2.2 = 0
  · right; exact ⟨h0, by rw [clsL_in h0, clsP_ok h0]⟩
  · left
    have e := clsP_no h0
    obtain ⟨t1, t2⟩ := tok_other (L := M) hne (by rw [e]; rfl) (by rw [e]; decide) (by rw [e]; decide) (by rw [e]; decide) (by rw [e]; decide)
    rw [e] at t1
    exact ⟨h0, clsL_no h0, t1, t2⟩
end Go.Proofs.YtemoeohchhpilaaDoor
