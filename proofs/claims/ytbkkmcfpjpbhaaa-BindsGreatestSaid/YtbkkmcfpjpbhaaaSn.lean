/- Pairs of bytes: cuts, order; the reference's sets (mathematics). -/
import Derived.Test.YtbkkmcfpjpbhaaaSm
namespace Go.Proofs.Ytbkkmcfpjpbhaaa

theorem setL_take : ∀ (k : Nat) (l : List Nat), (setL l).take (2 * k) = setL (l.take k)
  | 0, l => by simp [setL]
  | k + 1, [] => by simp [setL]
  | k + 1, n :: t => by rw [show 2 * (k + 1) = 2 * k + 1 + 1 by omega, setL, List.take_succ_cons, List.take_succ_cons, setL_take k t, List.take_succ_cons, setL]
theorem setL_drop : ∀ (k : Nat) (l : List Nat), (setL l).drop (2 * k) = setL (l.drop k)
  | 0, l => by simp
  | k + 1, [] => by simp [setL]
  | k + 1, n :: t => by rw [show 2 * (k + 1) = 2 * k + 1 + 1 by omega, setL, List.drop_succ_cons, List.drop_succ_cons, setL_drop k t, List.drop_succ_cons]
theorem setL_cut {l : List Nat} {k n : Nat} (h : l[k]? = some n) : ((setL l).drop (2 * k)).take 2 = [hiB n, loB n] := by
  obtain ⟨hk, e⟩ := List.getElem?_eq_some_iff.1 h
  rw [setL_drop, List.drop_eq_getElem_cons hk, e, setL]; rfl
theorem pair_inj {m n : Nat} (hm : m < 65536) (hn : n < 65536) : [hiB m, loB m] = [hiB n, loB n] ↔ m = n := by
  constructor
  · intro h
    have h2 := congrArg idsL h
    have e1 := ids_set [m] (by simpa using hm)
    have e2 := ids_set [n] (by simpa using hn)
    rw [setL, setL] at e1 e2
    rw [e1, e2] at h2; simpa using h2
  · rintro rfl; rfl
theorem pair_less {m n : Nat} (hm : m < 65536) (hn : n < 65536) : Op.bytesLess [hiB m, loB m] [hiB n, loB n] = decide (m < n) := by
  have a1 := hi_nat hm
  have a2 := lo_nat m
  have b1 := hi_nat hn
  have b2 := lo_nat n
  have e : (hiB m == hiB n) = decide (m / 256 = n / 256) := by
    rw [Bool.eq_iff_iff, beq_iff_eq, decide_eq_true_iff, ← UInt8.toNat_inj, a1, b1]
  simp only [Op.bytesLess, UInt8.lt_iff_toNat_lt, a1, a2, b1, b2, e, Bool.and_false, Bool.or_false]
  rw [Bool.eq_iff_iff, Bool.or_eq_true, Bool.and_eq_true]
  simp only [decide_eq_true_iff]
  omega
theorem set_inj {l m : List Nat} (hl : ∀ n ∈ l, n < 65536) (hm : ∀ n ∈ m, n < 65536) : setL l = setL m ↔ l = m :=
  ⟨fun h => by have := congrArg idsL h; rwa [ids_set l hl, ids_set m hm] at this, fun h => by rw [h]⟩
/-- Each number of the list is less than the next one. -/
theorem asc_at : ∀ (l : List Nat), asc l ↔ ∀ (i a b : Nat), l[i]? = some a → l[i + 1]? = some b → a < b := by
  intro l
  induction l with
  | nil => simp [asc_nil]
  | cons x l ih =>
    cases l with
    | nil => simp [asc_one]
    | cons y l =>
      rw [asc_cons, ih]
      constructor
      · rintro ⟨h1, h2⟩ i a b ha hb
        cases i with
        | zero =>
          simp at ha hb; subst ha hb; exact h1 _ (List.mem_cons_self ..)
        | succ i => exact h2 i a b (by simpa using ha) (by simpa using hb)
      · intro h
        have ht : ∀ (i a b : Nat), (y :: l)[i]? = some a → (y :: l)[i + 1]? = some b → a < b := fun i a b ha hb => h (i + 1) a b (by simpa using ha) (by simpa using hb)
        refine ⟨fun z hz => ?_, ht⟩
        have hxy := h 0 x y rfl rfl
        rcases List.mem_cons.1 hz with rfl | hz
        · exact hxy
        · have := (asc_cons.1 (ih.2 ht)).1 z hz; omega
/-- The error of Check. -/
def chkE (s : List UInt8) : Int := if s.length % 2 ≠ 0 ∨ ¬ asc (idsL s) then 6 else if 20000 < s.length then 3 else 0
theorem chkE_odd {s : List UInt8} (h : s.length % 2 ≠ 0) : chkE s = 6 := by unfold chkE; rw [if_pos (.inl h)]
theorem chkE_no {s : List UInt8} (h : ¬ asc (idsL s)) : chkE s = 6 := by unfold chkE; rw [if_pos (.inr h)]
theorem chkE_asc {s : List UInt8} (h : s.length % 2 = 0) (ha : asc (idsL s)) : chkE s = if 20000 < s.length then 3 else 0 := by unfold chkE; rw [if_neg (by rintro (h1 | h1); exact h1 h; exact h1 ha)]
/-- A set: its scopes. -/
theorem chkE_ok {s : List UInt8} (h : chkE s = 0) : ∃ l, s = setL l ∧ asc l ∧ (∀ n ∈ l, n < 65536) ∧ l.length ≤ 10000 := by
  unfold chkE at h
  split at h
  · cases h
  split at h
  · cases h
  rename_i h1 h2
  have h3 : s.length % 2 = 0 := by
    by_cases e : s.length % 2 = 0
    · exact e
    · exact absurd (.inl e) h1
  have h4 : asc (idsL s) := by
    by_cases e : asc (idsL s)
    · exact e
    · exact absurd (.inr e) h1
  exact ⟨idsL s, (set_ids s h3).symm, h4, ids_lt s, by rw [ids_len]; omega⟩
theorem chkE_set {l : List Nat} (ha : asc l) (hl : ∀ n ∈ l, n < 65536) : chkE (setL l) = if 10000 < l.length then 3 else 0 := by
  rw [chkE_asc (by rw [setL_len]; omega) (by rw [ids_set l hl]; exact ha), setL_len]
  by_cases h : 10000 < l.length
  · rw [if_pos h, if_pos (by omega)]
  · rw [if_neg h, if_neg (by omega)]
theorem chkE_3 (s : List UInt8) : chkE s = 0 ∨ chkE s = 6 ∨ chkE s = 3 := by
  unfold chkE; (repeat' split) <;> simp
/-- With a scope: as the reference puts it in. -/
theorem put_in {l : List Nat} {n i : Nat} (ha : asc l) (hn : n ∉ l) (h1 : ∀ k a, k < i → l[k]? = some a → a < n) (h2 : ∀ a, l[i]? = some a → n < a) : l.take i ++ n :: l.drop i = mg true true true l [n] := by
  have hin : ∀ z, z ∈ l.take i ↔ ∃ k, k < i ∧ l[k]? = some z := by
    intro z
    rw [List.mem_iff_getElem?]
    constructor
    · rintro ⟨k, hk⟩
      rw [List.getElem?_take] at hk
      split at hk
      · exact ⟨k, by assumption, hk⟩
      · cases hk
    · rintro ⟨k, h, hk⟩
      exact ⟨k, by rw [List.getElem?_take, if_pos h]; exact hk⟩
  have e := (List.take_append_drop i l)
  have hat := ha
  rw [← e] at hat
  unfold asc at hat
  obtain ⟨t1, t2, t3⟩ := List.pairwise_append.1 hat
  have hd : ∀ z ∈ l.drop i, n < z := by
    intro z hz
    cases hq : l.drop i with
    | nil => rw [hq] at hz; cases hz
    | cons a r =>
      rw [hq] at hz t2
      have ha0 : l[i]? = some a := by
        have : (l.drop i)[0]? = some a := by rw [hq]; rfl
        rw [List.getElem?_drop] at this; simpa using this
      have := h2 a ha0
      rcases List.mem_cons.1 hz with rfl | hz
      · exact this
      · have := (asc_cons.1 t2).1 z hz; omega
  have ht : ∀ z ∈ l.take i, z < n := fun z hz => by
    obtain ⟨k, hk, he⟩ := (hin z).1 hz
    exact h1 k z hk he
  refine asc_ext ?_ (asc_mg' ha (asc_one n)) fun z => ?_
  · refine List.pairwise_append.2 ⟨t1, asc_cons.2 ⟨hd, t2⟩, fun x hx y hy => ?_⟩
    rcases List.mem_cons.1 hy with rfl | hy
    · exact ht x hx
    · exact t3 x hx y hy
  · rw [mem_mg' ha (asc_one n), List.mem_append, List.mem_cons]
    have hm : z ∈ l ↔ z ∈ l.take i ∨ z ∈ l.drop i := by rw [← List.mem_append, e]
    simp only [List.mem_singleton, and_true]
    rw [hm]
    by_cases h3 : z ∈ l.take i
    · have h4 : z ≠ n := by rintro rfl; exact hn (List.mem_of_mem_take h3)
      simp [h3, h4]
    · by_cases h4 : z = n
      · subst h4
        have : z ∉ l.drop i := fun h => hn (by rw [← e]; exact List.mem_append_right _ h)
        simp [h3, this]
      · by_cases h5 : z ∈ l.drop i <;> simp [h3, h4, h5]
theorem put_have {l : List Nat} {n : Nat} (ha : asc l) (hn : n ∈ l) : l = mg true true true l [n] := by
  refine asc_ext ha (asc_mg' ha (asc_one n)) fun z => ?_
  rw [mem_mg' ha (asc_one n)]
  simp only [List.mem_singleton, and_true]
  by_cases h : z = n
  · subst h; simp [hn]
  · simp [h]
theorem cut_out {l : List Nat} {n i : Nat} (ha : asc l) (hi : l[i]? = some n) : l.take i ++ l.drop (i + 1) = mg true false false l [n] := by
  obtain ⟨hk, e⟩ := List.getElem?_eq_some_iff.1 hi
  have hs : l = l.take i ++ n :: l.drop (i + 1) := by
    rw [← e, ← List.drop_eq_getElem_cons hk, List.take_append_drop]
  have hat : asc (l.take i ++ n :: l.drop (i + 1)) := by rw [← hs]; exact ha
  obtain ⟨t1, t2, t3⟩ := List.pairwise_append.1 hat
  obtain ⟨t4, t5⟩ := asc_cons.1 t2
  refine asc_ext (List.pairwise_append.2 ⟨t1, t5, fun x hx y hy => t3 x hx y (List.mem_cons_of_mem _ hy)⟩) (asc_mg' ha (asc_one n)) fun z => ?_
  rw [mem_mg' ha (asc_one n)]
  have hm : z ∈ l ↔ z ∈ l.take i ∨ z = n ∨ z ∈ l.drop (i + 1) := by
    conv => lhs; rw [hs]
    rw [List.mem_append, List.mem_cons]
  simp only [List.mem_singleton, List.mem_append, and_true]
  rw [hm]
  by_cases h : z = n
  · subst h
    have n1 : z ∉ l.take i := fun h => absurd (t3 z h z (List.mem_cons_self ..)) (Nat.lt_irrefl _)
    have n2 : z ∉ l.drop (i + 1) := fun h => absurd (t4 z h) (Nat.lt_irrefl _)
    simp [n1, n2]
  · simp [h]
theorem cut_not {l : List Nat} {n : Nat} (ha : asc l) (hn : n ∉ l) : l = mg true false false l [n] := by
  refine asc_ext ha (asc_mg' ha (asc_one n)) fun z => ?_
  rw [mem_mg' ha (asc_one n)]
  simp only [List.mem_singleton, and_true]
  by_cases h : z = n
  · subst h; simp [hn]
  · simp [h]
end Go.Proofs.Ytbkkmcfpjpbhaaa
