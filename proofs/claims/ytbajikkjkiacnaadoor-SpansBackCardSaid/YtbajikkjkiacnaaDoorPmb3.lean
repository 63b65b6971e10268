/- Mathematics of lines: with bytes 10 between them they are the text. -/
import Derived.Test.YtbajikkjkiacnaaDoorPmb2
import Derived.Test.YtbajikkjkiacnaaDoorPconv
namespace Go.Proofs.YtbajikkjkiacnaaDoor

theorem linesF_head (L : List UInt8) : ∀ (a i : Int), ∃ t rest, linesF a i L = (a, t) :: rest := by
  induction L with
  | nil => intro a i; exact ⟨i, [], rfl⟩
  | cons c L ih =>
    intro a i
    rw [linesF]
    split
    · exact ⟨i, _, rfl⟩
    · exact ih a (i + 1)
theorem linesF_next (L : List UInt8) : ∀ (a i : Int) (n : Nat) (s s' : Sp), (linesF a i L)[n]? = some s → (linesF a i L)[n + 1]? = some s' → i ≤ s.2 ∧ s'.1 = s.2 + 1 ∧ L[(s.2 - i).toNat]? = some 10 := by
  induction L with
  | nil =>
    intro a i n s s' _ h2
    have : [(a, i)][n + 1]? = some s' := h2
    simp at this
  | cons c L ih =>
    intro a i n s s' h1 h2
    rw [linesF] at h1 h2
    split at h1
    · rename_i hc
      rw [if_pos hc] at h2
      cases n with
      | zero =>
        simp only [List.getElem?_cons_zero, Option.some.injEq] at h1
        subst h1
        simp only [List.getElem?_cons_succ] at h2
        obtain ⟨t, rest, e⟩ := linesF_head L (i + 1) (i + 1)
        rw [e] at h2
        simp at h2
        subst h2
        exact ⟨Int.le_refl _, rfl, by simp [ten_iff.1 hc]⟩
      | succ n =>
        simp only [List.getElem?_cons_succ] at h1 h2
        obtain ⟨i1, i2, i3⟩ := ih (i + 1) (i + 1) n s s' h1 h2
        refine ⟨by omega, i2, ?_⟩
        rw [show (s.2 - i).toNat = (s.2 - (i + 1)).toNat + 1 by omega, List.getElem?_cons_succ]; exact i3
    · rename_i hc
      rw [if_neg hc] at h2
      obtain ⟨i1, i2, i3⟩ := ih a (i + 1) n s s' h1 h2
      refine ⟨by omega, i2, ?_⟩
      rw [show (s.2 - i).toNat = (s.2 - (i + 1)).toNat + 1 by omega, List.getElem?_cons_succ]; exact i3
theorem linesF_last (L : List UInt8) : ∀ (a i : Int) (n : Nat) (s : Sp), (linesF a i L)[n]? = some s → n + 1 = (linesF a i L).length → s.2 = i + L.length := by
  induction L with
  | nil =>
    intro a i n s h1 h2
    have h3 : n + 1 = 1 := h2
    obtain rfl : n = 0 := by omega
    have : [(a, i)][0]? = some s := h1
    simp at this
    rw [← this]; simp
  | cons c L ih =>
    intro a i n s h1 h2
    rw [linesF] at h1 h2
    split at h1
    · rename_i hc
      rw [if_pos hc] at h2
      cases n with
      | zero =>
        obtain ⟨t, rest, e⟩ := linesF_head L (i + 1) (i + 1)
        rw [e] at h2
        simp at h2
      | succ n =>
        simp only [List.getElem?_cons_succ] at h1
        have := ih (i + 1) (i + 1) n s h1 (by simpa using h2)
        rw [this, List.length_cons]; omega
    · rename_i hc
      rw [if_neg hc] at h2
      rw [ih a (i + 1) n s h1 h2, List.length_cons]; omega

/-- The text up to the end of the first k lines. -/
def jn (l : List UInt8) (k : Nat) : List UInt8 := if k = 0 then [] else l.take (gs (linesG l) (k - 1)).2.toNat
theorem take_step {l : List UInt8} {t t' : Nat} (h : l[t]? = some 10) (h2 : t + 1 ≤ t') : l.take t ++ [10] ++ (l.take t').drop (t + 1) = l.take t' := by
  have e : l.take t ++ [10] = (l.take t').take (t + 1) := by
    rw [List.take_take, Nat.min_eq_left h2, List.take_add_one, h]; rfl
  rw [e, List.take_append_drop]
/-- What the loop over lines needs of one. -/
theorem line_step {l : List UInt8} (h0 : (chkS l).2 = 0) {k : Nat} {s : Sp} (hs : (linesG l)[k]? = some s) :
    cutP l s = (segL l s, 0) ∧ (k = 0 → segL l s = jn l 1) ∧ (1 ≤ k → jn l k ++ [10] ++ segL l s = jn l (k + 1)) := by
  obtain ⟨_, hg⟩ := lines_ok h0
  have hs2 := hs
  rw [hg] at hs2
  obtain ⟨p, x, q, i1, i2, i3, i4, i5, i6⟩ := line_at _ (runs l).1 0 (Nat.le_refl _) (runs_all l) _ s hs2
  rw [Nat.zero_add] at i2
  have hw := congrArg List.length (runs_whole (chk_len h0).2)
  rw [encs_len, i1, wid_app, wid_app] at hw
  refine ⟨?_, ?_, ?_⟩
  · have o1 := on_at h0 (a := p) (b := x ++ q) (by rw [i1, List.append_assoc])
    have o2 := on_at h0 (a := p ++ x) (b := q) i1
    rw [wid_app] at o2
    have hc : checkS l.length s = 0 := by
      rw [i2]; unfold checkS isS; simp only
      rw [decide_eq_true (by omega), if_neg (by simp), if_neg (by omega)]
    unfold cutP
    rw [if_neg (by simpa using h0), hc, if_neg (by simp), if_pos (by rw [i2]; exact ⟨o1, o2⟩)]
  · rintro rfl
    unfold jn
    rw [if_neg (by omega), gs_at hs]
    obtain ⟨t, rest, e⟩ := linesF_head l 0 0
    have : (linesF 0 0 l)[0]? = some s := hs
    rw [e] at this
    simp at this
    unfold segL
    rw [← this]; rfl
  · intro hk
    unfold jn
    rw [if_neg (by omega), if_neg (by omega), Nat.add_sub_cancel, gs_at hs]
    obtain ⟨s0, hs0⟩ : ∃ s0, (linesG l)[k - 1]? = some s0 := ⟨_, List.getElem?_eq_getElem (by have := (List.getElem?_eq_some_iff.1 hs).1; omega)⟩
    rw [gs_at hs0]
    have hn := linesF_next l 0 0 (k - 1) s0 s hs0 (by rw [show k - 1 + 1 = k by omega]; exact hs)
    obtain ⟨n1, n2, n3⟩ := hn
    rw [Int.sub_zero] at n3
    have hle : s.1 ≤ s.2 := by rw [i2]; simp only; omega
    unfold segL
    have := take_step n3 (t' := s.2.toNat) (by omega)
    rw [show s.1.toNat = s0.2.toNat + 1 by omega]; exact this
theorem jn_len (l : List UInt8) (k : Nat) : (jn l k).length ≤ l.length := by
  unfold jn; split
  · simp
  · rw [List.length_take]; omega
theorem jn_all (l : List UInt8) : jn l (linesG l).length = l := by
  obtain ⟨t, rest, e⟩ := linesF_head l 0 0
  have hl : 1 ≤ (linesG l).length := by unfold linesG; rw [e]; simp
  obtain ⟨s, hs⟩ : ∃ s, (linesG l)[(linesG l).length - 1]? = some s := ⟨_, List.getElem?_eq_getElem (by omega)⟩
  have := linesF_last l 0 0 _ s hs (by unfold linesG at hl ⊢; omega)
  unfold jn
  rw [if_neg (by omega), gs_at hs, this, List.take_of_length_le (by omega)]
theorem lines_pos (l : List UInt8) : 1 ≤ (linesG l).length := by
  obtain ⟨t, rest, e⟩ := linesF_head l 0 0
  unfold linesG; rw [e]; simp
end Go.Proofs.YtbajikkjkiacnaaDoor
