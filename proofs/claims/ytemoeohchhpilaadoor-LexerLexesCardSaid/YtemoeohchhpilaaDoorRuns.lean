/- The runes of a text, and where they begin: plain mathematics. -/
import Derived.Test.YtemoeohchhpilaaDoorRu
namespace Go.Proofs.YtemoeohchhpilaaDoor

/-- The runes up to the first bytes that are not those of a rune, and the error there. -/
def runsF : Nat → List UInt8 → List Int × Int
  | 0, _ => ([], 0)
  | f + 1, L => if L = [] then ([], 0) else if (dec L).2.2 = 0 then ((dec L).1 :: (runsF f (L.drop (dec L).2.1)).1, (runsF f (L.drop (dec L).2.1)).2) else ([], (dec L).2.2)
def runs (L : List UInt8) : List Int × Int := runsF L.length L
theorem runsF_fuel : ∀ (f g : Nat) (L : List UInt8), L.length ≤ f → L.length ≤ g → runsF f L = runsF g L := by
  intro f
  induction f with
  | zero =>
    intro g L hf hg
    obtain rfl : L = [] := List.eq_nil_of_length_eq_zero (by omega)
    cases g with
    | zero => rfl
    | succ g => rw [runsF, runsF, if_pos rfl]
  | succ f ih =>
    intro g L hf hg
    cases g with
    | zero =>
      obtain rfl : L = [] := List.eq_nil_of_length_eq_zero (by omega)
      rw [runsF, runsF, if_pos rfl]
    | succ g =>
      rw [runsF, runsF]
      by_cases h0 : L = []
      · rw [if_pos h0, if_pos h0]
      · rw [if_neg h0, if_neg h0]
        by_cases h1 : (dec L).2.2 = 0
        · rw [if_pos h1, if_pos h1]
          obtain ⟨hr, hn, _⟩ := dec_ok (L := L) (r := (dec L).1) (n := (dec L).2.1) (by rw [← h1])
          have := wO_pos hr
          have hl : L.length ≠ 0 := fun e => h0 (List.eq_nil_of_length_eq_zero e)
          have e : runsF f (L.drop (dec L).2.1) = runsF g (L.drop (dec L).2.1) := ih g _ (by rw [List.length_drop]; omega) (by rw [List.length_drop]; omega)
          rw [e]
        · rw [if_neg h1, if_neg h1]
theorem runs_nil : runs [] = ([], 0) := rfl
theorem runs_ok {L : List UInt8} {r : Int} {n : Nat} (h : dec L = (r, n, 0)) : runs L = (r :: (runs (L.drop n)).1, (runs (L.drop n)).2) := by
  obtain ⟨hr, hn, t, ht⟩ := dec_ok h
  have h0 : L ≠ [] := by rintro rfl; have := (fst_of h).2.2; omega
  obtain ⟨m, hm⟩ : ∃ m, L.length = m + 1 := ⟨L.length - 1, by have : L.length ≠ 0 := fun e => h0 (List.eq_nil_of_length_eq_zero e); omega⟩
  have := wO_pos hr
  unfold runs
  rw [hm, runsF, if_neg h0, h, if_pos rfl]
  have e : runsF m (L.drop n) = runsF (L.drop n).length (L.drop n) := runsF_fuel _ _ _ (by rw [List.length_drop]; omega) (Nat.le_refl _)
  simp only [e]
theorem runs_err {L : List UInt8} {e : Int} (h0 : L ≠ []) (he : e ≠ 0) (h : (dec L).2.2 = e) : runs L = ([], e) := by
  obtain ⟨m, hm⟩ : ∃ m, L.length = m + 1 := ⟨L.length - 1, by have : L.length ≠ 0 := fun e => h0 (List.eq_nil_of_length_eq_zero e); omega⟩
  unfold runs
  rw [hm, runsF, if_neg h0, h, if_neg he]
/-- How many bytes runes have. -/
def wid (rs : List Int) : Nat := (rs.map wO).sum
def encs (rs : List Int) : List UInt8 := rs.flatMap enc
theorem wid_nil : wid [] = 0 := rfl
theorem wid_cons (r : Int) (rs : List Int) : wid (r :: rs) = wO r + wid rs := by simp [wid]
theorem wid_app (a b : List Int) : wid (a ++ b) = wid a + wid b := by simp [wid]
theorem encs_nil : encs [] = [] := rfl
theorem encs_cons (r : Int) (rs : List Int) : encs (r :: rs) = enc r ++ encs rs := by simp [encs]
theorem encs_app (a b : List Int) : encs (a ++ b) = encs a ++ encs b := by simp [encs]
theorem encs_len : ∀ rs : List Int, (encs rs).length = wid rs
  | [] => rfl
  | r :: rs => by rw [encs_cons, wid_cons, List.length_append, enc_len, encs_len rs]

theorem runs_encs : ∀ (rs : List Int) (t : List UInt8), (∀ r ∈ rs, isR r = true) → runs (encs rs ++ t) = (rs ++ (runs t).1, (runs t).2) := by
  intro rs
  induction rs with
  | nil => intro t _; rfl
  | cons r rs ih =>
    intro t h
    have hr := h r (List.mem_cons_self ..)
    have hd := dec_enc hr (encs rs ++ t)
    rw [encs_cons, List.append_assoc, runs_ok hd]
    have e : (enc r ++ (encs rs ++ t)).drop (wO r) = encs rs ++ t := by rw [← enc_len r]; simp
    rw [e, ih t fun x hx => h x (List.mem_cons_of_mem _ hx)]; rfl
theorem runs_split : ∀ (f : Nat) (L : List UInt8), L.length ≤ f → (∀ r ∈ (runs L).1, isR r = true) ∧ L = encs (runs L).1 ++ L.drop (wid (runs L).1) ∧ ((runs L).2 = 0 → L = encs (runs L).1) ∧
    ((runs L).2 ≠ 0 → (dec (L.drop (wid (runs L).1))).2.2 = (runs L).2 ∧ L.drop (wid (runs L).1) ≠ []) := by
  intro f
  induction f with
  | zero =>
    intro L h
    obtain rfl : L = [] := List.eq_nil_of_length_eq_zero (by omega)
    exact ⟨(fun r hr => by cases hr), rfl, fun _ => rfl, fun h => absurd rfl h⟩
  | succ f ih =>
    intro L h
    by_cases h0 : L = []
    · subst h0; exact ⟨(fun r hr => by cases hr), rfl, fun _ => rfl, fun h => absurd rfl h⟩
    · by_cases h1 : (dec L).2.2 = 0
      · obtain ⟨r, n, hrn⟩ : ∃ r n, dec L = (r, n, 0) := ⟨(dec L).1, (dec L).2.1, by rw [← h1]⟩
        obtain ⟨hr, hn, t, ht⟩ := dec_ok hrn
        have hp := wO_pos hr
        have hl : L.length ≠ 0 := fun e => h0 (List.eq_nil_of_length_eq_zero e)
        obtain ⟨i1, i2, i3, i4⟩ := ih (L.drop n) (by rw [List.length_drop]; omega)
        have hdn : L.drop n = t := by rw [ht, hn, ← enc_len r]; simp
        rw [runs_ok hrn]
        refine ⟨?_, ?_, ?_, ?_⟩
        · intro x hx
          rcases List.mem_cons.1 hx with rfl | hx
          · exact hr
          · exact i1 x hx
        · simp only []
          rw [encs_cons, wid_cons, ← hn, List.append_assoc, ← List.drop_drop, ← i2, hdn]
          exact ht
        · intro h2
          rw [encs_cons, ← i3 h2, hdn]
          exact ht
        · intro h2
          rw [wid_cons, ← hn, ← List.drop_drop]
          exact i4 h2
      · rw [runs_err h0 h1 rfl]
        exact ⟨(fun r hr => by cases hr), rfl, fun h => absurd h h1, fun _ => ⟨rfl, h0⟩⟩
theorem runs_all (L : List UInt8) : ∀ r ∈ (runs L).1, isR r = true := (runs_split _ L (Nat.le_refl _)).1
theorem runs_whole {L : List UInt8} (h : (runs L).2 = 0) : L = encs (runs L).1 := (runs_split _ L (Nat.le_refl _)).2.2.1 h
theorem runs_of_encs {rs : List Int} (h : ∀ r ∈ rs, isR r = true) : runs (encs rs) = (rs, 0) := by
  have := runs_encs rs [] h
  rw [List.append_nil, runs_nil, List.append_nil] at this; exact this
theorem wid_le (L : List UInt8) : wid (runs L).1 ≤ L.length := by
  have h := congrArg List.length (runs_split _ L (Nat.le_refl _)).2.1
  rw [List.length_append, encs_len] at h; omega
theorem runs_len_le (L : List UInt8) : (runs L).1.length ≤ L.length := by
  have h := wid_le L
  have : ∀ rs : List Int, (∀ r ∈ rs, isR r = true) → rs.length ≤ wid rs := by
    intro rs
    induction rs with
    | nil => intro _; exact Nat.zero_le _
    | cons r rs ih => intro hh; rw [wid_cons, List.length_cons]; have := wO_pos (hh r (List.mem_cons_self ..)); have := ih fun x hx => hh x (List.mem_cons_of_mem _ hx); omega
  have := this _ (runs_all L); omega
theorem runs_e (L : List UInt8) : (runs L).2 = 0 ∨ (runs L).2 = 6 ∨ (runs L).2 = 320 := by
  by_cases h : (runs L).2 = 0
  · exact .inl h
  · obtain ⟨h1, h2⟩ := (runs_split _ L (Nat.le_refl _)).2.2.2 h
    cases hL : L.drop (wid (runs L).1) with
    | nil => exact absurd hL h2
    | cons c t => rw [hL] at h1; rw [← h1]; exact dec_err c t

/-- What Check returns. -/
def chkS (L : List UInt8) : Nat × Int := if 8000 < L.length then (0, 3) else (wid (runs L).1, (runs L).2)
theorem chkS_e (L : List UInt8) : (chkS L).2 = 0 ∨ (chkS L).2 = 6 ∨ (chkS L).2 = 320 ∨ (chkS L).2 = 3 := by
  unfold chkS; split
  · exact .inr (.inr (.inr rfl))
  · rcases runs_e L with h | h | h
    · exact .inl h
    · exact .inr (.inl h)
    · exact .inr (.inr (.inl h))
/-- A place in the walk over a text: what has been read, and what is left. -/
def At (L : List UInt8) (pre : List Int) (k : Nat) : Prop := k = wid pre ∧ runs L = (pre ++ (runs (L.drop k)).1, (runs (L.drop k)).2) ∧ k ≤ L.length
theorem At.start (L : List UInt8) : At L [] 0 := ⟨rfl, by simp, Nat.zero_le _⟩
theorem At.ok {L : List UInt8} {pre : List Int} {k n : Nat} {r : Int} (h : At L pre k) (hd : dec (L.drop k) = (r, n, 0)) : At L (pre ++ [r]) (k + n) := by
  obtain ⟨h1, h2, h3⟩ := h
  obtain ⟨hr, hn, t, ht⟩ := dec_ok hd
  have hl := congrArg List.length ht
  rw [List.length_append, enc_len, List.length_drop] at hl
  refine ⟨by rw [wid_app, wid_cons, wid_nil, ← h1, ← hn]; omega, ?_, by omega⟩
  rw [h2, runs_ok hd, List.drop_drop, List.append_assoc]; rfl
theorem At.err {L : List UInt8} {pre : List Int} {k : Nat} {e : Int} (h : At L pre k) (hk : k < L.length) (he : e ≠ 0) (hd : (dec (L.drop k)).2.2 = e) : runs L = (pre, e) ∧ wid (runs L).1 = k := by
  obtain ⟨h1, h2, h3⟩ := h
  rw [runs_err (fun h => by have := congrArg List.length h; rw [List.length_drop, List.length_nil] at this; omega) he hd, List.append_nil] at h2
  exact ⟨h2, by rw [h2]; exact h1.symm⟩
theorem At.stop {L : List UInt8} {pre : List Int} {k : Nat} (h : At L pre k) (hk : L.length ≤ k) : runs L = (pre, 0) ∧ wid (runs L).1 = k := by
  obtain ⟨h1, h2, h3⟩ := h
  rw [List.drop_of_length_le hk, runs_nil, List.append_nil] at h2
  exact ⟨h2, by rw [h2]; exact h1.symm⟩

/-- Where runes begin, from k on; without the end. -/
def begs : Nat → List Int → List Nat
  | _, [] => []
  | k, r :: rs => k :: begs (k + wO r) rs
theorem begs_app : ∀ (a b : List Int) (k : Nat), begs k (a ++ b) = begs k a ++ begs (k + wid a) b := by
  intro a
  induction a with
  | nil => intro b k; rfl
  | cons r a ih => intro b k; rw [List.cons_append, begs, begs, ih, wid_cons, List.cons_append, Nat.add_assoc]
theorem begs_len : ∀ (rs : List Int) (k : Nat), (begs k rs).length = rs.length
  | [], _ => rfl
  | _ :: rs, k => by rw [begs, List.length_cons, List.length_cons, begs_len rs]
/-- The starts. -/
def stS (L : List UInt8) : List Nat := begs 0 (runs L).1 ++ [L.length]
def startsS (L : List UInt8) : List Nat × Int := if (chkS L).2 = 0 then (stS L, 0) else ([], (chkS L).2)
end Go.Proofs.YtemoeohchhpilaaDoor
