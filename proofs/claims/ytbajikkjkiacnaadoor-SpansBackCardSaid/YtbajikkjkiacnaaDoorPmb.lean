/- Mathematics of lines and places: a text as lines of runes. -/
import Derived.Test.YtbajikkjkiacnaaDoorPcover
namespace Go.Proofs.YtbajikkjkiacnaaDoor

/-- Line ends. -/
def Lend (p : List Int) : Prop := p = [] ∨ ∃ p', p = p' ++ [10]
/-- A place: what is before its line, and what is before it in its line. -/
theorem decomp : ∀ (a : List Int), ∃ p u, a = p ++ u ∧ Lend p ∧ 10 ∉ u := by
  intro a
  induction a with
  | nil => exact ⟨[], [], rfl, .inl rfl, by simp⟩
  | cons r a ih =>
    obtain ⟨p, u, e, h1, h2⟩ := ih
    by_cases h : r = 10
    · refine ⟨10 :: p, u, by rw [h, e]; rfl, ?_, h2⟩
      rcases h1 with rfl | ⟨p', rfl⟩
      · exact .inr ⟨[], rfl⟩
      · exact .inr ⟨10 :: p', rfl⟩
    · rcases h1 with rfl | ⟨p', rfl⟩
      · refine ⟨[], r :: u, by rw [e]; rfl, .inl rfl, ?_⟩
        intro hm
        rcases List.mem_cons.1 hm with hm | hm
        · exact h hm.symm
        · exact h2 hm
      · exact ⟨r :: (p' ++ [10]), u, by rw [e]; rfl, .inr ⟨r :: p', rfl⟩, h2⟩

theorem enc_ten : enc 10 = [10] := by rw [enc_1 (by omega) (by omega)]; rfl
theorem wO_ten : wO 10 = 1 := wO_1 (by omega) (by omega)
theorem isR_ten : isR 10 = true := by rw [isR_iff]; omega
/-- Bytes 10 are runes 10. -/
theorem enc_not {r : Int} (hr : isR r = true) (h : r ≠ 10) : ∀ c ∈ enc r, (c.toNat : Int) ≠ 10 := by
  intro c hc
  show ub c ≠ 10
  rcases enc_shape hr with ⟨a, e, h1, h2, h3⟩ | ⟨a, b, e, h1, h2, h3, h4⟩ | ⟨a, b, d, e, h1, h2, h3, h4, h5⟩ | ⟨a, b, d, f, e, h1, h2, h3, h4, h5, h6⟩
  · rw [e] at hc; simp only [List.mem_singleton] at hc; subst hc; omega
  · rw [e] at hc; simp only [List.mem_cons, List.not_mem_nil, or_false] at hc; rcases hc with rfl | rfl <;> omega
  · rw [e] at hc; simp only [List.mem_cons, List.not_mem_nil, or_false] at hc; rcases hc with rfl | rfl | rfl <;> omega
  · rw [e] at hc; simp only [List.mem_cons, List.not_mem_nil, or_false] at hc; rcases hc with rfl | rfl | rfl | rfl <;> omega
theorem encs_not {u : List Int} (hr : ∀ r ∈ u, isR r = true) (h : 10 ∉ u) : ∀ c ∈ encs u, (c.toNat : Int) ≠ 10 := by
  intro c hc
  unfold encs at hc
  obtain ⟨r, hru, hcr⟩ := List.mem_flatMap.1 hc
  exact enc_not (hr r hru) (fun e => h (e ▸ hru)) c hcr
theorem ten_iff {c : UInt8} : (c.toNat : Int) = 10 ↔ c = 10 := by
  constructor
  · intro h; apply UInt8.toNat_inj.1; have : (10 : UInt8).toNat = 10 := rfl; omega
  · rintro rfl; rfl
theorem count_encs : ∀ (a : List Int), (∀ r ∈ a, isR r = true) → (encs a).count 10 = a.count 10 := by
  intro a
  induction a with
  | nil => intro _; rfl
  | cons r a ih =>
    intro h
    have ih' := ih fun x hx => h x (List.mem_cons_of_mem _ hx)
    rw [encs_cons, List.count_append, ih']
    by_cases e : r = 10
    · subst e
      rw [enc_ten, List.count_cons_self]; simp [Nat.add_comm]
    · have h0 : (enc r).count 10 = 0 := by
        rw [List.count_eq_zero]
        intro hm
        exact enc_not (h r (List.mem_cons_self ..)) e 10 hm rfl
      rw [h0, List.count_cons_of_ne e, Nat.zero_add]

/-- The lines of runes, as spans. -/
theorem linesF_no : ∀ (L : List UInt8) (t : List UInt8) (a i : Int), (∀ c ∈ L, (c.toNat : Int) ≠ 10) → linesF a i (L ++ t) = linesF a (i + L.length) t := by
  intro L
  induction L with
  | nil => intro t a i _; simp
  | cons c L ih =>
    intro t a i h
    rw [List.cons_append, linesF, if_neg (h c (List.mem_cons_self ..)), ih t a (i + 1) fun x hx => h x (List.mem_cons_of_mem _ hx)]
    congr 1; simp only [List.length_cons]; omega
theorem linesF_ten (t : List UInt8) (a i : Int) : linesF a i (10 :: t) = (a, i) :: linesF (i + 1) (i + 1) t := by
  rw [linesF, if_pos (show ((10 : UInt8).toNat : Int) = 10 from rfl)]
/-- The first line. -/
theorem first_line : ∀ (rs : List Int), ∃ x q, rs = x ++ q ∧ 10 ∉ x ∧ (q = [] ∨ ∃ q', q = 10 :: q') := by
  intro rs
  induction rs with
  | nil => exact ⟨[], [], rfl, by simp, .inl rfl⟩
  | cons r rs ih =>
    by_cases e : r = 10
    · exact ⟨[], r :: rs, rfl, by simp, .inr ⟨rs, by rw [e]⟩⟩
    · obtain ⟨x, q, h1, h2, h3⟩ := ih
      exact ⟨r :: x, q, by rw [h1]; rfl, by
        intro hm
        rcases List.mem_cons.1 hm with hm | hm
        · exact e hm.symm
        · exact h2 hm, h3⟩
theorem linesF_first {x q : List Int} (hx : ∀ r ∈ x ++ q, isR r = true) (h : 10 ∉ x) (hq : q = [] ∨ ∃ q', q = 10 :: q') (k : Int) :
    linesF k k (encs (x ++ q)) = (k, k + wid x) :: (match q with | [] => [] | _ :: q' => linesF (k + wid x + 1) (k + wid x + 1) (encs q')) := by
  rw [encs_app, linesF_no _ _ _ _ (encs_not (fun r hr => hx r (List.mem_append_left _ hr)) h), encs_len]
  rcases hq with rfl | ⟨q', rfl⟩
  · rfl
  · rw [encs_cons, enc_ten]
    exact linesF_ten _ _ _
/-- Each line: what is before it, what is in it, what is behind it. -/
theorem line_at : ∀ (m : Nat) (rs : List Int) (k : Nat), rs.length ≤ m → (∀ r ∈ rs, isR r = true) → ∀ (n : Nat) (s : Sp), (linesF (k : Int) (k : Int) (encs rs))[n]? = some s →
    ∃ p x q, rs = p ++ x ++ q ∧ s = (((k + wid p : Nat) : Int), ((k + wid p + wid x : Nat) : Int)) ∧ p.count 10 = n ∧ Lend p ∧ 10 ∉ x ∧ (q = [] ∨ ∃ q', q = 10 :: q') := by
  intro m
  induction m with
  | zero =>
    intro rs k hl _ n s hs
    obtain rfl : rs = [] := List.eq_nil_of_length_eq_zero (by omega)
    have hs' : [((k : Int), (k : Int))][n]? = some s := hs
    cases n with
    | zero => exact ⟨[], [], [], rfl, by simp at hs'; rw [← hs']; simp [wid_nil], rfl, .inl rfl, by simp, .inl rfl⟩
    | succ n => simp at hs'
  | succ m ih =>
    intro rs k hl hr n s hs
    obtain ⟨x, q, e, h1, h2⟩ := first_line rs
    rw [e, linesF_first (by rw [← e]; exact hr) h1 h2] at hs
    cases n with
    | zero =>
      simp at hs
      exact ⟨[], x, q, by rw [e]; rfl, by rw [← hs, wid_nil]; simp, rfl, .inl rfl, h1, h2⟩
    | succ n =>
      rcases h2 with rfl | ⟨q', rfl⟩
      · simp at hs
      · simp only [List.getElem?_cons_succ] at hs
        have hc : ((k : Int) + (wid x : Int) + 1) = ((k + wid x + 1 : Nat) : Int) := by omega
        rw [hc] at hs
        obtain ⟨p, y, z, i1, i2, i3, i4, i5, i6⟩ := ih q' (k + wid x + 1) (by
          have := congrArg List.length e
          rw [List.length_append, List.length_cons] at this; omega) (fun r hr' => hr r (by rw [e]; simp [hr'])) n s hs
        refine ⟨x ++ 10 :: p, y, z, by rw [e, i1]; simp, ?_, ?_, ?_, i5, i6⟩
        · rw [i2, wid_app, wid_cons, wO_ten]
          congr 2 <;> omega
        · rw [List.count_append, List.count_cons_self, i3, List.count_eq_zero.2 h1]; omega
        · right
          rcases i4 with rfl | ⟨p', rfl⟩
          · exact ⟨x, rfl⟩
          · exact ⟨x ++ 10 :: p', by simp⟩
/-- How many lines there are. -/
theorem lines_len : ∀ (rs : List Int) (a i : Int), (∀ r ∈ rs, isR r = true) → (linesF a i (encs rs)).length = rs.count 10 + 1 := by
  intro rs
  induction rs with
  | nil => intro a i _; rfl
  | cons r rs ih =>
    intro a i h
    have hrs : ∀ x ∈ rs, isR x = true := fun x hx => h x (List.mem_cons_of_mem _ hx)
    rw [encs_cons]
    by_cases e : r = 10
    · subst e
      rw [enc_ten]
      show (linesF a i (10 :: encs rs)).length = _
      rw [linesF_ten, List.length_cons, ih _ _ hrs, List.count_cons_self]
    · rw [linesF_no _ _ _ _ (enc_not (h r (List.mem_cons_self ..)) e), ih _ _ hrs, List.count_cons_of_ne e]
/-- Two places in a text with the same number of lines before them. -/
theorem same_line {rs p x q p2 u b : List Int} (h1 : rs = p ++ x ++ q) (h2 : rs = p2 ++ u ++ b) (l1 : Lend p) (l2 : Lend p2) (c2 : 10 ∉ u) (hq : q = [] ∨ ∃ q', q = 10 :: q') (hc : p.count 10 = p2.count 10) :
    p = p2 ∧ ∃ x2, x = u ++ x2 := by
  have key : ∀ {p p2 v w : List Int}, p ++ v = p2 ++ w → Lend p → Lend p2 → p.count 10 = p2.count 10 → p = p2 := by
    intro p p2 v w e l1 l2 hc
    rcases List.append_eq_append_iff.1 e with ⟨t, e1, _⟩ | ⟨t, e1, _⟩
    · rcases List.eq_nil_or_concat t with rfl | ⟨t, r, rfl⟩
      · rw [e1, List.append_nil]
      · exfalso
        rw [List.concat_eq_append] at e1
        rcases l2 with l2 | ⟨p', l2⟩
        · rw [e1] at l2; simp at l2
        · rw [e1, ← List.append_assoc] at l2
          have hr := (List.append_inj' l2 rfl).2
          have : r = 10 := by simpa using hr
          rw [e1, List.count_append, List.count_append, this, List.count_singleton_self] at hc; omega
    · rcases List.eq_nil_or_concat t with rfl | ⟨t, r, rfl⟩
      · rw [e1, List.append_nil]
      · exfalso
        rw [List.concat_eq_append] at e1
        rcases l1 with l1 | ⟨p', l1⟩
        · rw [e1] at l1; simp at l1
        · rw [e1, ← List.append_assoc] at l1
          have hr := (List.append_inj' l1 rfl).2
          have : r = 10 := by simpa using hr
          rw [e1, List.count_append, List.count_append, this, List.count_singleton_self] at hc; omega
  have e : p ++ (x ++ q) = p2 ++ (u ++ b) := by rw [← List.append_assoc, ← List.append_assoc, ← h1, ← h2]
  obtain rfl := key e l1 l2 hc
  refine ⟨rfl, ?_⟩
  have e2 := List.append_cancel_left e
  rcases List.append_eq_append_iff.1 e2 with ⟨t, e3, e4⟩ | ⟨t, e3, _⟩
  · rcases hq with rfl | ⟨q', rfl⟩
    · obtain ⟨rfl, _⟩ : t = [] ∧ b = [] := by simpa using e4.symm
      exact ⟨[], by rw [e3]; simp⟩
    · cases t with
      | nil => exact ⟨[], by rw [e3]; simp⟩
      | cons r t =>
        rw [List.cons_append] at e4
        have := (List.cons.inj e4).1
        exact absurd (by rw [e3, ← this]; simp) c2
  · exact ⟨t, e3⟩
end Go.Proofs.YtbajikkjkiacnaaDoor
