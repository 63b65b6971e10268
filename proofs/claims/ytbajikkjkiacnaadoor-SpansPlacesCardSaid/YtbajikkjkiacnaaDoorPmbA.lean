/- Mathematics of lines and places: a text as lines of runes; Place and At lead there and back; the reference's walk over the starts. -/
import Derived.Test.YtbajikkjkiacnaaDoorPcover
import Derived.Test.YtbajikkjkiacnaaDoorPconv
namespace Go.Proofs.YtbajikkjkiacnaaDoor

/-- Line ends. -/
def Lend (p : List Int) : Prop := p = [] ∨ ∃ p', p = p' ++ [10]
/-- A place: what is before its line, and what is before it in its line. -/
theorem decomp : ∀ (a : List Int), ∃ p u, a = p ++ u ∧ Lend p ∧ 10 ∉ u := by
  intro a
  induction a with
  | nil => exact ⟨[], [], rfl, .inl rfl, by simp⟩
  | cons r a ih =>
    obtain ⟨p, u, e, h1, h2⟩ := ih
    by_cases h : r = 10
    · refine ⟨10 :: p, u, by rw [h, e]; rfl, ?_, h2⟩
      rcases h1 with rfl | ⟨p', rfl⟩
      · exact .inr ⟨[], rfl⟩
      · exact .inr ⟨10 :: p', rfl⟩
    · rcases h1 with rfl | ⟨p', rfl⟩
      · refine ⟨[], r :: u, by rw [e]; rfl, .inl rfl, ?_⟩
        intro hm
        rcases List.mem_cons.1 hm with hm | hm
        · exact h hm.symm
        · exact h2 hm
      · exact ⟨r :: (p' ++ [10]), u, by rw [e]; rfl, .inr ⟨r :: p', rfl⟩, h2⟩

theorem enc_ten : enc 10 = [10] := by rw [enc_1 (by omega) (by omega)]; rfl
theorem wO_ten : wO 10 = 1 := wO_1 (by omega) (by omega)
theorem isR_ten : isR 10 = true := by rw [isR_iff]; omega
/-- Bytes 10 are runes 10. -/
theorem enc_not {r : Int} (hr : isR r = true) (h : r ≠ 10) : ∀ c ∈ enc r, (c.toNat : Int) ≠ 10 := by
  intro c hc
  show ub c ≠ 10
  rcases enc_shape hr with ⟨a, e, h1, h2, h3⟩ | ⟨a, b, e, h1, h2, h3, h4⟩ | ⟨a, b, d, e, h1, h2, h3, h4, h5⟩ | ⟨a, b, d, f, e, h1, h2, h3, h4, h5, h6⟩
  · rw [e] at hc; simp only [List.mem_singleton] at hc; subst hc; omega
  · rw [e] at hc; simp only [List.mem_cons, List.not_mem_nil, or_false] at hc; rcases hc with rfl | rfl <;> omega
  · rw [e] at hc; simp only [List.mem_cons, List.not_mem_nil, or_false] at hc; rcases hc with rfl | rfl | rfl <;> omega
  · rw [e] at hc; simp only [List.mem_cons, List.not_mem_nil, or_false] at hc; rcases hc with rfl | rfl | rfl | rfl <;> omega
theorem encs_not {u : List Int} (hr : ∀ r ∈ u, isR r = true) (h : 10 ∉ u) : ∀ c ∈ encs u, (c.toNat : Int) ≠ 10 := by
  intro c hc
  unfold encs at hc
  obtain ⟨r, hru, hcr⟩ := List.mem_flatMap.1 hc
  exact enc_not (hr r hru) (fun e => h (e ▸ hru)) c hcr
theorem ten_iff {c : UInt8} : (c.toNat : Int) = 10 ↔ c = 10 := by
  constructor
  · intro h; apply UInt8.toNat_inj.1; have : (10 : UInt8).toNat = 10 := rfl; omega
  · rintro rfl; rfl
theorem count_encs : ∀ (a : List Int), (∀ r ∈ a, isR r = true) → (encs a).count 10 = a.count 10 := by
  intro a
  induction a with
  | nil => intro _; rfl
  | cons r a ih =>
    intro h
    have ih' := ih fun x hx => h x (List.mem_cons_of_mem _ hx)
    rw [encs_cons, List.count_append, ih']
    by_cases e : r = 10
    · subst e
      rw [enc_ten, List.count_cons_self]; simp [Nat.add_comm]
    · have h0 : (enc r).count 10 = 0 := by
        rw [List.count_eq_zero]
        intro hm
        exact enc_not (h r (List.mem_cons_self ..)) e 10 hm rfl
      rw [h0, List.count_cons_of_ne e, Nat.zero_add]

/-- The lines of runes, as spans. -/
theorem linesF_no : ∀ (L : List UInt8) (t : List UInt8) (a i : Int), (∀ c ∈ L, (c.toNat : Int) ≠ 10) → linesF a i (L ++ t) = linesF a (i + L.length) t := by
  intro L
  induction L with
  | nil => intro t a i _; simp
  | cons c L ih =>
    intro t a i h
    rw [List.cons_append, linesF, if_neg (h c (List.mem_cons_self ..)), ih t a (i + 1) fun x hx => h x (List.mem_cons_of_mem _ hx)]
    congr 1; simp only [List.length_cons]; omega
theorem linesF_ten (t : List UInt8) (a i : Int) : linesF a i (10 :: t) = (a, i) :: linesF (i + 1) (i + 1) t := by
  rw [linesF, if_pos (show ((10 : UInt8).toNat : Int) = 10 from rfl)]
/-- The first line. -/
theorem first_line : ∀ (rs : List Int), ∃ x q, rs = x ++ q ∧ 10 ∉ x ∧ (q = [] ∨ ∃ q', q = 10 :: q') := by
  intro rs
  induction rs with
  | nil => exact ⟨[], [], rfl, by simp, .inl rfl⟩
  | cons r rs ih =>
    by_cases e : r = 10
    · exact ⟨[], r :: rs, rfl, by simp, .inr ⟨rs, by rw [e]⟩⟩
    · obtain ⟨x, q, h1, h2, h3⟩ := ih
      exact ⟨r :: x, q, by rw [h1]; rfl, by
        intro hm
        rcases List.mem_cons.1 hm with hm | hm
        · exact e hm.symm
        · exact h2 hm, h3⟩
theorem linesF_first {x q : List Int} (hx : ∀ r ∈ x ++ q, isR r = true) (h : 10 ∉ x) (hq : q = [] ∨ ∃ q', q = 10 :: q') (k : Int) :
    linesF k k (encs (x ++ q)) = (k, k + wid x) :: (match q with | [] => [] | _ :: q' => linesF (k + wid x + 1) (k + wid x + 1) (encs q')) := by
  rw [encs_app, linesF_no _ _ _ _ (encs_not (fun r hr => hx r (List.mem_append_left _ hr)) h), encs_len]
  rcases hq with rfl | ⟨q', rfl⟩
  · rfl
  · rw [encs_cons, enc_ten]
    exact linesF_ten _ _ _
/-- Each line: what is before it, what is in it, what is behind it. -/
theorem line_at : ∀ (m : Nat) (rs : List Int) (k : Nat), rs.length ≤ m → (∀ r ∈ rs, isR r = true) → ∀ (n : Nat) (s : Sp), (linesF (k : Int) (k : Int) (encs rs))[n]? = some s →
    ∃ p x q, rs = p ++ x ++ q ∧ s = (((k + wid p : Nat) : Int), ((k + wid p + wid x : Nat) : Int)) ∧ p.count 10 = n ∧ Lend p ∧ 10 ∉ x ∧ (q = [] ∨ ∃ q', q = 10 :: q') := by
  intro m
  induction m with
  | zero =>
    intro rs k hl _ n s hs
    obtain rfl : rs = [] := List.eq_nil_of_length_eq_zero (by omega)
    have hs' : [((k : Int), (k : Int))][n]? = some s := hs
    cases n with
    | zero => exact ⟨[], [], [], rfl, by simp at hs'; rw [← hs']; simp [wid_nil], rfl, .inl rfl, by simp, .inl rfl⟩
    | succ n => simp at hs'
  | succ m ih =>
    intro rs k hl hr n s hs
    obtain ⟨x, q, e, h1, h2⟩ := first_line rs
    rw [e, linesF_first (by rw [← e]; exact hr) h1 h2] at hs
    cases n with
    | zero =>
      simp at hs
      exact ⟨[], x, q, by rw [e]; rfl, by rw [← hs, wid_nil]; simp, rfl, .inl rfl, h1, h2⟩
    | succ n =>
      rcases h2 with rfl | ⟨q', rfl⟩
      · simp at hs
      · simp only [List.getElem?_cons_succ] at hs
        have hc : ((k : Int) + (wid x : Int) + 1) = ((k + wid x + 1 : Nat) : Int) := by omega
        rw [hc] at hs
        obtain ⟨p, y, z, i1, i2, i3, i4, i5, i6⟩ := ih q' (k + wid x + 1) (by
          have := congrArg List.length e
          rw [List.length_append, List.length_cons] at this; omega) (fun r hr' => hr r (by rw [e]; simp [hr'])) n s hs
        refine ⟨x ++ 10 :: p, y, z, by rw [e, i1]; simp, ?_, ?_, ?_, i5, i6⟩
        · rw [i2, wid_app, wid_cons, wO_ten]
          congr 2 <;> omega
        · rw [List.count_append, List.count_cons_self, i3, List.count_eq_zero.2 h1]; omega
        · right
          rcases i4 with rfl | ⟨p', rfl⟩
          · exact ⟨x, rfl⟩
          · exact ⟨x ++ 10 :: p', by simp⟩
/-- How many lines there are. -/
theorem lines_len : ∀ (rs : List Int) (a i : Int), (∀ r ∈ rs, isR r = true) → (linesF a i (encs rs)).length = rs.count 10 + 1 := by
  intro rs
  induction rs with
  | nil => intro a i _; rfl
  | cons r rs ih =>
    intro a i h
    have hrs : ∀ x ∈ rs, isR x = true := fun x hx => h x (List.mem_cons_of_mem _ hx)
    rw [encs_cons]
    by_cases e : r = 10
    · subst e
      rw [enc_ten]
      show (linesF a i (10 :: encs rs)).length = _
      rw [linesF_ten, List.length_cons, ih _ _ hrs, List.count_cons_self]
    · rw [linesF_no _ _ _ _ (enc_not (h r (List.mem_cons_self ..)) e), ih _ _ hrs, List.count_cons_of_ne e]
/-- Two places in a text with the same number of lines before them. -/
theorem same_line {rs p x q p2 u b : List Int} (h1 : rs = p ++ x ++ q) (h2 : rs = p2 ++ u ++ b) (l1 : Lend p) (l2 : Lend p2) (c2 : 10 ∉ u) (hq : q = [] ∨ ∃ q', q = 10 :: q') (hc : p.count 10 = p2.count 10) :
    p = p2 ∧ ∃ x2, x = u ++ x2 := by
  have key : ∀ {p p2 v w : List Int}, p ++ v = p2 ++ w → Lend p → Lend p2 → p.count 10 = p2.count 10 → p = p2 := by
    intro p p2 v w e l1 l2 hc
    rcases List.append_eq_append_iff.1 e with ⟨t, e1, _⟩ | ⟨t, e1, _⟩
    · rcases List.eq_nil_or_concat t with rfl | ⟨t, r, rfl⟩
      · rw [e1, List.append_nil]
      · exfalso
        rw [List.concat_eq_append] at e1
        rcases l2 with l2 | ⟨p', l2⟩
        · rw [e1] at l2; simp at l2
        · rw [e1, ← List.append_assoc] at l2
          have hr := (List.append_inj' l2 rfl).2
          have : r = 10 := by simpa using hr
          rw [e1, List.count_append, List.count_append, this, List.count_singleton_self] at hc; omega
    · rcases List.eq_nil_or_concat t with rfl | ⟨t, r, rfl⟩
      · rw [e1, List.append_nil]
      · exfalso
        rw [List.concat_eq_append] at e1
        rcases l1 with l1 | ⟨p', l1⟩
        · rw [e1] at l1; simp at l1
        · rw [e1, ← List.append_assoc] at l1
          have hr := (List.append_inj' l1 rfl).2
          have : r = 10 := by simpa using hr
          rw [e1, List.count_append, List.count_append, this, List.count_singleton_self] at hc; omega
  have e : p ++ (x ++ q) = p2 ++ (u ++ b) := by rw [← List.append_assoc, ← List.append_assoc, ← h1, ← h2]
  obtain rfl := key e l1 l2 hc
  refine ⟨rfl, ?_⟩
  have e2 := List.append_cancel_left e
  rcases List.append_eq_append_iff.1 e2 with ⟨t, e3, e4⟩ | ⟨t, e3, _⟩
  · rcases hq with rfl | ⟨q', rfl⟩
    · obtain ⟨rfl, _⟩ : t = [] ∧ b = [] := by simpa using e4.symm
      exact ⟨[], by rw [e3]; simp⟩
    · cases t with
      | nil => exact ⟨[], by rw [e3]; simp⟩
      | cons r t =>
        rw [List.cons_append] at e4
        have := (List.cons.inj e4).1
        exact absurd (by rw [e3, ← this]; simp) c2
  · exact ⟨t, e3⟩

theorem lbS_skip (L : List UInt8) (m : Nat) : ∀ k, m ≤ k → (∀ j c, m ≤ j → j < k → L[j]? = some c → (c.toNat : Int) ≠ 10) → lbS 10 L k = lbS 10 L m := by
  intro k
  induction k with
  | zero => intro h _; rw [show m = 0 by omega]
  | succ k ih =>
    intro h hn
    by_cases e : m = k + 1
    · rw [e]
    · rw [lbS, ih (by omega) fun j c h1 h2 h3 => hn j c h1 (by omega) h3]
      cases hk : L[k]? with
      | none => rw [if_neg (by simp)]
      | some c =>
        have : ub c ≠ 10 := hn k c (by omega) (by omega) hk
        rw [if_neg (by simp [this])]
theorem lb_line {p u : List Int} (hr : ∀ r ∈ p ++ u, isR r = true) (l1 : Lend p) (h : 10 ∉ u) : lbS 10 (encs (p ++ u)) (encs (p ++ u)).length = (wid p : Int) - 1 := by
  have hu := encs_not (fun r hm => hr r (List.mem_append_right _ hm)) h
  rw [lbS_skip _ (wid p) _ (by rw [encs_len, wid_app]; omega)]
  · rcases l1 with rfl | ⟨p', rfl⟩
    · rfl
    · rw [wid_app, wid_cons, wO_ten, wid_nil]
      show lbS 10 _ (wid p' + 1) = _
      have e : (encs (p' ++ [10] ++ u))[wid p']? = some 10 := by
        rw [encs_app, encs_app, List.append_assoc, List.getElem?_append_right (by rw [encs_len]; omega), encs_len, Nat.sub_self, encs_cons, enc_ten]; rfl
      rw [lbS, e, if_pos (show decide (ub 10 = 10) = true by decide)]
      omega
  · intro j c h1 h2 h3
    rw [encs_app, List.getElem?_append_right (by rw [encs_len]; exact h1)] at h3
    exact hu c (List.mem_of_getElem? h3)
theorem chk_len {l : List UInt8} (h : (chkS l).2 = 0) : l.length ≤ 8000 ∧ (runs l).2 = 0 := by
  unfold chkS at h
  split at h
  · simp at h
  · exact ⟨by omega, h⟩
theorem chk_encs {u : List Int} (hr : ∀ r ∈ u, isR r = true) (h : wid u ≤ 8000) : chkS (encs u) = (wid u, 0) := by
  unfold chkS; rw [if_neg (by rw [encs_len]; omega), runs_of_encs hr]
theorem on_at {l : List UInt8} (h0 : (chkS l).2 = 0) {a b : List Int} (e : (runs l).1 = a ++ b) : onS l ((wid a : Nat) : Int) = (true, 0) := by
  obtain ⟨h1, h2⟩ := chk_len h0
  have hw := runs_whole h2
  have hr := runs_all l
  rw [e] at hw hr
  have hl : l.length = wid a + wid b := by rw [hw, encs_len, wid_app]
  have hb : backS l ((wid a : Nat) : Int) = ((wid a : Int), 0) := by
    unfold backS; rw [if_neg (by simpa using h0), if_neg (by omega), Int.toNat_natCast]
    have := bk_on a b hr
    rw [← hw] at this; rw [this]
  unfold onS; rw [hb]; simp
theorem place_at {l : List UInt8} (h0 : (chkS l).2 = 0) {p u b : List Int} (e : (runs l).1 = p ++ u ++ b) (l1 : Lend p) (h : 10 ∉ u) :
    placeP l ((wid (p ++ u) : Nat) : Int) = (1 + ((p.count 10 : Nat) : Int), 1 + ((u.length : Nat) : Int), 0) := by
  obtain ⟨h1, h2⟩ := chk_len h0
  have hw := runs_whole h2
  have hr := runs_all l
  rw [e] at hw hr
  have hl : l.length = wid (p ++ u) + wid b := by rw [hw, encs_len, wid_app]
  have hra : ∀ r ∈ p ++ u, isR r = true := fun r hm => hr r (List.mem_append_left _ hm)
  have hru : ∀ r ∈ u, isR r = true := fun r hm => hra r (List.mem_append_right _ hm)
  have ht : l.take (wid (p ++ u)) = encs (p ++ u) := by
    rw [hw, encs_app (p ++ u), ← encs_len (p ++ u), List.take_left']; rfl
  have hi : inL l (wid (p ++ u)) = encs u := by
    unfold inL; rw [ht, lb_line hra l1 h, show ((wid p : Int) - 1 + 1).toNat = wid p by omega, encs_app, ← encs_len p, List.drop_left']; rfl
  have hwu : wid u ≤ 8000 := by rw [wid_app] at hl; omega
  have hc : cntS (encs u) = (u.length, 0) := by
    unfold cntS; rw [chk_encs hru hwu, runs_of_encs hru]; rfl
  unfold placeP
  rw [on_at h0 e, if_neg (by simp), if_neg (by simp), Int.toNat_natCast, hi, hc, if_neg (by simp), ht, count_encs _ hra, List.count_append, List.count_eq_zero.2 h]
  rfl
theorem st_at : ∀ (u x : List Int) (k : Nat), (begs k (u ++ x) ++ [k + wid (u ++ x)])[u.length]? = some (k + wid u) := by
  intro u
  induction u with
  | nil =>
    intro x k
    cases x with
    | nil => simp [begs, wid_nil]
    | cons r x => simp [begs, wid_nil]
  | cons r u ih =>
    intro x k
    rw [List.cons_append, begs, List.cons_append, List.length_cons, List.getElem?_cons_succ, wid_cons, wid_cons, ← Nat.add_assoc, ← Nat.add_assoc]
    exact ih x (k + wO r)
theorem begs_length : ∀ (x : List Int) (k : Nat), (begs k x).length = x.length := by
  intro x
  induction x with
  | nil => intro k; rfl
  | cons r x ih => intro k; rw [begs, List.length_cons, List.length_cons, ih]
/-- A line as At reads it. -/
theorem seg_line {l : List UInt8} (h0 : (chkS l).2 = 0) {p x q : List Int} (e : (runs l).1 = p ++ x ++ q) : startsS (segL l (((wid p : Nat) : Int), ((wid p + wid x : Nat) : Int))) = (begs 0 x ++ [0 + wid x], 0) := by
  obtain ⟨h1, h2⟩ := chk_len h0
  have hw := runs_whole h2
  have hr := runs_all l
  rw [e] at hw hr
  have hl : l.length = wid p + wid x + wid q := by rw [hw, encs_len, wid_app, wid_app]
  have hrx : ∀ r ∈ x, isR r = true := fun r hm => hr r (List.mem_append_left _ (List.mem_append_right _ hm))
  have hs : segL l (((wid p : Nat) : Int), ((wid p + wid x : Nat) : Int)) = encs x := by
    unfold segL
    simp only [Int.toNat_natCast]
    rw [hw, encs_app (p ++ x), show wid p + wid x = (encs (p ++ x)).length by rw [encs_len, wid_app], List.take_left' rfl, encs_app, ← encs_len p, List.drop_left' rfl]
  rw [hs]
  unfold startsS stS
  rw [chk_encs hrx (by omega), if_pos rfl, runs_of_encs hrx, encs_len, Nat.zero_add]
theorem lines_ok {l : List UInt8} (h0 : (chkS l).2 = 0) : linesS l = (linesG l, 0) ∧ linesG l = linesF ((0 : Nat) : Int) ((0 : Nat) : Int) (encs (runs l).1) := by
  obtain ⟨h1, h2⟩ := chk_len h0
  refine ⟨by unfold linesS; rw [if_pos h0], ?_⟩
  rw [← runs_whole h2]; rfl
/-- The line of a place. -/
theorem line_of {l : List UInt8} (h0 : (chkS l).2 = 0) {p u b : List Int} (e : (runs l).1 = p ++ u ++ b) (l1 : Lend p) (h : 10 ∉ u) :
    ∃ x2 q, (runs l).1 = p ++ (u ++ x2) ++ q ∧ (linesG l)[p.count 10]? = some (((wid p : Nat) : Int), ((wid p + wid (u ++ x2) : Nat) : Int)) := by
  obtain ⟨_, hg⟩ := lines_ok h0
  have hr := runs_all l
  have hlen := lines_len (runs l).1 ((0 : Nat) : Int) ((0 : Nat) : Int) hr
  rw [← hg] at hlen
  have hc : p.count 10 < (linesG l).length := by rw [hlen, e, List.count_append, List.count_append]; omega
  obtain ⟨s, hs⟩ : ∃ s, (linesG l)[p.count 10]? = some s := ⟨_, List.getElem?_eq_getElem hc⟩
  rw [hs]
  rw [hg] at hs
  obtain ⟨p', x, q, i1, i2, i3, i4, i5, i6⟩ := line_at _ (runs l).1 0 (Nat.le_refl _) hr _ s hs
  obtain ⟨rfl, x2, rfl⟩ := same_line i1 e i4 l1 h i6 i3
  exact ⟨x2, q, i1, by rw [i2, Nat.zero_add]⟩
theorem at_place {l : List UInt8} (h0 : (chkS l).2 = 0) {p u b : List Int} (e : (runs l).1 = p ++ u ++ b) (l1 : Lend p) (h : 10 ∉ u) :
    atP l (1 + ((p.count 10 : Nat) : Int)) (1 + ((u.length : Nat) : Int)) = (((wid (p ++ u) : Nat) : Int), 0) := by
  obtain ⟨hl, _⟩ := lines_ok h0
  obtain ⟨x2, q, e2, hs⟩ := line_of h0 e l1 h
  have hn := (List.getElem?_eq_some_iff.1 hs).1
  have hg := gs_at hs
  have hst := seg_line h0 e2
  unfold atP
  rw [hl]
  simp only
  rw [if_neg (by simp), if_neg (by omega), show ((1 : Int) + ((p.count 10 : Nat) : Int) - 1).toNat = p.count 10 by omega, hg, hst]
  simp only
  rw [if_neg (by simp), if_neg (by rw [List.length_append, begs_length, List.length_append, List.length_singleton]; omega), show ((1 : Int) + ((u.length : Nat) : Int) - 1).toNat = u.length by omega]
  have := st_at u x2 0
  rw [List.getD_eq_getElem?_getD, this, wid_app]
  simp
theorem at_cases {l : List UInt8} (h0 : (chkS l).2 = 0) (i j : Int) : atP l i j = (0, 4) ∨
    ∃ p u b, (runs l).1 = p ++ u ++ b ∧ Lend p ∧ 10 ∉ u ∧ i = 1 + ((p.count 10 : Nat) : Int) ∧ j = 1 + ((u.length : Nat) : Int) := by
  obtain ⟨hl, hg⟩ := lines_ok h0
  have hr := runs_all l
  by_cases hi : i < 1 ∨ ((linesG l).length : Int) < i
  · left; unfold atP; rw [hl]; simp only; rw [if_neg (by simp), if_pos hi]
  · obtain ⟨n, hn⟩ : ∃ n : Nat, i = 1 + (n : Int) := ⟨(i - 1).toNat, by omega⟩
    obtain ⟨s, hs⟩ : ∃ s, (linesG l)[n]? = some s := ⟨_, List.getElem?_eq_getElem (by omega)⟩
    have hgs := gs_at hs
    rw [hg] at hs
    obtain ⟨p, x, q, i1, i2, i3, i4, i5, i6⟩ := line_at _ (runs l).1 0 (Nat.le_refl _) hr _ s hs
    rw [Nat.zero_add] at i2
    have hst := seg_line h0 i1
    by_cases hj : j < 1 ∨ (((begs 0 x ++ [0 + wid x]).length : Nat) : Int) < j
    · left
      unfold atP; rw [hl]; simp only
      rw [if_neg (by simp), if_neg hi, show (i - 1).toNat = n by omega, hgs, i2, hst]
      simp only
      rw [if_neg (by simp), if_pos hj]
    · right
      rw [List.length_append, begs_length, List.length_singleton] at hj
      refine ⟨p, x.take (j - 1).toNat, x.drop (j - 1).toNat ++ q, ?_, i4, fun hm => i5 (List.mem_of_mem_take hm), by rw [i3]; exact hn, by rw [List.length_take]; omega⟩
      rw [i1, List.append_assoc p (x.take _), ← List.append_assoc (x.take _), List.take_append_drop, List.append_assoc]
/-- Each start is such a place. -/
theorem start_at {l : List UInt8} (h0 : (chkS l).2 = 0) {s : Nat} (hs : s ∈ stS l) : ∃ p u b, (runs l).1 = p ++ u ++ b ∧ Lend p ∧ 10 ∉ u ∧ s = wid (p ++ u) := by
  obtain ⟨h1, h2⟩ := chk_len h0
  have hw := congrArg List.length (runs_whole h2)
  rw [encs_len] at hw
  unfold stS at hs
  rw [hw] at hs
  have := (st_mem (runs l).1 0 s (runs_all l)).1 (by rw [Nat.zero_add, Nat.zero_add]; exact hs)
  obtain ⟨a, b, e, rfl⟩ := this
  obtain ⟨p, u, rfl, l1, hu⟩ := decomp a
  exact ⟨p, u, b, e, l1, hu, rfl⟩

theorem linesF_head (L : List UInt8) : ∀ (a i : Int), ∃ t rest, linesF a i L = (a, t) :: rest := by
  induction L with
  | nil => intro a i; exact ⟨i, [], rfl⟩
  | cons c L ih =>
    intro a i
    rw [linesF]
    split
    · exact ⟨i, _, rfl⟩
    · exact ih a (i + 1)
theorem linesF_next (L : List UInt8) : ∀ (a i : Int) (n : Nat) (s s' : Sp), (linesF a i L)[n]? = some s → (linesF a i L)[n + 1]? = some s' → i ≤ s.2 ∧ s'.1 = s.2 + 1 ∧ L[(s.2 - i).toNat]? = some 10 := by
  induction L with
  | nil =>
    intro a i n s s' _ h2
    have : [(a, i)][n + 1]? = some s' := h2
    simp at this
  | cons c L ih =>
    intro a i n s s' h1 h2
    rw [linesF] at h1 h2
    split at h1
    · rename_i hc
      rw [if_pos hc] at h2
      cases n with
      | zero =>
        simp only [List.getElem?_cons_zero, Option.some.injEq] at h1
        subst h1
        simp only [List.getElem?_cons_succ] at h2
        obtain ⟨t, rest, e⟩ := linesF_head L (i + 1) (i + 1)
        rw [e] at h2
        simp at h2
        subst h2
        exact ⟨Int.le_refl _, rfl, by simp [ten_iff.1 hc]⟩
      | succ n =>
        simp only [List.getElem?_cons_succ] at h1 h2
        obtain ⟨i1, i2, i3⟩ := ih (i + 1) (i + 1) n s s' h1 h2
        refine ⟨by omega, i2, ?_⟩
        rw [show (s.2 - i).toNat = (s.2 - (i + 1)).toNat + 1 by omega, List.getElem?_cons_succ]; exact i3
    · rename_i hc
      rw [if_neg hc] at h2
      obtain ⟨i1, i2, i3⟩ := ih a (i + 1) n s s' h1 h2
      refine ⟨by omega, i2, ?_⟩
      rw [show (s.2 - i).toNat = (s.2 - (i + 1)).toNat + 1 by omega, List.getElem?_cons_succ]; exact i3
theorem linesF_last (L : List UInt8) : ∀ (a i : Int) (n : Nat) (s : Sp), (linesF a i L)[n]? = some s → n + 1 = (linesF a i L).length → s.2 = i + L.length := by
  induction L with
  | nil =>
    intro a i n s h1 h2
    have h3 : n + 1 = 1 := h2
    obtain rfl : n = 0 := by omega
    have : [(a, i)][0]? = some s := h1
    simp at this
    rw [← this]; simp
  | cons c L ih =>
    intro a i n s h1 h2
    rw [linesF] at h1 h2
    split at h1
    · rename_i hc
      rw [if_pos hc] at h2
      cases n with
      | zero =>
        obtain ⟨t, rest, e⟩ := linesF_head L (i + 1) (i + 1)
        rw [e] at h2
        simp at h2
      | succ n =>
        simp only [List.getElem?_cons_succ] at h1
        have := ih (i + 1) (i + 1) n s h1 (by simpa using h2)
        rw [this, List.length_cons]; omega
    · rename_i hc
      rw [if_neg hc] at h2
      rw [ih a (i + 1) n s h1 h2, List.length_cons]; omega

/-- The text up to the end of the first k lines. -/
def jn (l : List UInt8) (k : Nat) : List UInt8 := if k = 0 then [] else l.take (gs (linesG l) (k - 1)).2.toNat
theorem take_step {l : List UInt8} {t t' : Nat} (h : l[t]? = some 10) (h2 : t + 1 ≤ t') : l.take t ++ [10] ++ (l.take t').drop (t + 1) = l.take t' := by
  have e : l.take t ++ [10] = (l.take t').take (t + 1) := by
    rw [List.take_take, Nat.min_eq_left h2, List.take_add_one, h]; rfl
  rw [e, List.take_append_drop]
/-- What the loop over lines needs of one. -/
theorem line_step {l : List UInt8} (h0 : (chkS l).2 = 0) {k : Nat} {s : Sp} (hs : (linesG l)[k]? = some s) :
    cutP l s = (segL l s, 0) ∧ (k = 0 → segL l s = jn l 1) ∧ (1 ≤ k → jn l k ++ [10] ++ segL l s = jn l (k + 1)) := by
  obtain ⟨_, hg⟩ := lines_ok h0
  have hs2 := hs
  rw [hg] at hs2
  obtain ⟨p, x, q, i1, i2, i3, i4, i5, i6⟩ := line_at _ (runs l).1 0 (Nat.le_refl _) (runs_all l) _ s hs2
  rw [Nat.zero_add] at i2
  have hw := congrArg List.length (runs_whole (chk_len h0).2)
  rw [encs_len, i1, wid_app, wid_app] at hw
  refine ⟨?_, ?_, ?_⟩
  · have o1 := on_at h0 (a := p) (b := x ++ q) (by rw [i1, List.append_assoc])
    have o2 := on_at h0 (a := p ++ x) (b := q) i1
    rw [wid_app] at o2
    have hc : checkS l.length s = 0 := by
      rw [i2]; unfold checkS isS; simp only
      rw [decide_eq_true (by omega), if_neg (by simp), if_neg (by omega)]
    unfold cutP
    rw [if_neg (by simpa using h0), hc, if_neg (by simp), if_pos (by rw [i2]; exact ⟨o1, o2⟩)]
  · rintro rfl
    unfold jn
    rw [if_neg (by omega), gs_at hs]
    obtain ⟨t, rest, e⟩ := linesF_head l 0 0
    have : (linesF 0 0 l)[0]? = some s := hs
    rw [e] at this
    simp at this
    unfold segL
    rw [← this]; rfl
  · intro hk
    unfold jn
    rw [if_neg (by omega), if_neg (by omega), Nat.add_sub_cancel, gs_at hs]
    obtain ⟨s0, hs0⟩ : ∃ s0, (linesG l)[k - 1]? = some s0 := ⟨_, List.getElem?_eq_getElem (by have := (List.getElem?_eq_some_iff.1 hs).1; omega)⟩
    rw [gs_at hs0]
    have hn := linesF_next l 0 0 (k - 1) s0 s hs0 (by rw [show k - 1 + 1 = k by omega]; exact hs)
    obtain ⟨n1, n2, n3⟩ := hn
    rw [Int.sub_zero] at n3
    have hle : s.1 ≤ s.2 := by rw [i2]; simp only; omega
    unfold segL
    have := take_step n3 (t' := s.2.toNat) (by omega)
    rw [show s.1.toNat = s0.2.toNat + 1 by omega]; exact this
theorem jn_len (l : List UInt8) (k : Nat) : (jn l k).length ≤ l.length := by
  unfold jn; split
  · simp
  · rw [List.length_take]; omega
theorem jn_all (l : List UInt8) : jn l (linesG l).length = l := by
  obtain ⟨t, rest, e⟩ := linesF_head l 0 0
  have hl : 1 ≤ (linesG l).length := by unfold linesG; rw [e]; simp
  obtain ⟨s, hs⟩ : ∃ s, (linesG l)[(linesG l).length - 1]? = some s := ⟨_, List.getElem?_eq_getElem (by omega)⟩
  have := linesF_last l 0 0 _ s hs (by unfold linesG at hl ⊢; omega)
  unfold jn
  rw [if_neg (by omega), gs_at hs, this, List.take_of_length_le (by omega)]
theorem lines_pos (l : List UInt8) : 1 ≤ (linesG l).length := by
  obtain ⟨t, rest, e⟩ := linesF_head l 0 0
  unfold linesG; rw [e]; simp

theorem len_wid {l : List UInt8} (h0 : (chkS l).2 = 0) : l.length = wid (runs l).1 := by
  have := congrArg List.length (runs_whole (chk_len h0).2)
  rw [encs_len] at this; exact this
theorem st_get {l : List UInt8} (h0 : (chkS l).2 = 0) {i : Nat} (hi : i ≤ (runs l).1.length) : (stS l)[i]? = some (wid ((runs l).1.take i)) := by
  have := st_at ((runs l).1.take i) ((runs l).1.drop i) 0
  rw [List.take_append_drop, List.length_take, Nat.min_eq_left hi, Nat.zero_add, Nat.zero_add] at this
  unfold stS
  rw [len_wid h0]; exact this
theorem st_length {l : List UInt8} : (stS l).length = (runs l).1.length + 1 := by
  unfold stS; rw [List.length_append, begs_length]; rfl
theorem place_next {l : List UInt8} (h0 : (chkS l).2 = 0) {i s s' : Nat} (hs : (stS l)[i]? = some s) (hs' : (stS l)[i + 1]? = some s') {X Y : Int} (hp : placeP l (s : Int) = (X, Y, 0)) :
    ∃ c, l[s]? = some c ∧ s < l.length ∧ placeP l (s' : Int) = if (c.toNat : Int) = 10 then (X + 1, 1, 0) else (X, Y + 1, 0) := by
  have hl := (List.getElem?_eq_some_iff.1 hs').1
  rw [st_length] at hl
  rw [st_get h0 (by omega)] at hs hs'
  have hall := runs_all l
  have hw := runs_whole (chk_len h0).2
  have hlen := len_wid h0
  have hplace := fun {p u b : List Int} (e : (runs l).1 = p ++ u ++ b) (l1 : Lend p) (h : 10 ∉ u) => place_at h0 e l1 h
  obtain ⟨rs, hrs⟩ : ∃ rs, (runs l).1 = rs := ⟨_, rfl⟩
  rw [hrs] at hl hs hs' hall hw hlen
  simp only [hrs] at hplace
  obtain rfl := Option.some.inj hs
  obtain rfl := Option.some.inj hs'
  have hi : i < rs.length := by omega
  obtain ⟨r, hr⟩ : ∃ r, rs[i]? = some r := ⟨_, List.getElem?_eq_getElem hi⟩
  have hrR : isR r = true := hall r (List.mem_of_getElem? hr)
  obtain ⟨p, u, e, l1, hu⟩ := decomp (rs.take i)
  obtain ⟨d, hd⟩ : ∃ d, rs.drop (i + 1) = d := ⟨_, rfl⟩
  have hdrop : rs.drop i = r :: d := by rw [List.drop_eq_getElem_cons hi, hd, (List.getElem?_eq_some_iff.1 hr).2]
  have hsplit : rs = p ++ u ++ r :: d := by rw [← e, ← hdrop, List.take_append_drop]
  have htake : rs.take (i + 1) = p ++ u ++ [r] := by rw [List.take_add_one, hr, e]; rfl
  have hpl := hplace hsplit l1 hu
  rw [e] at hp ⊢
  rw [htake]
  rw [hpl] at hp
  have hX : X = 1 + ((p.count 10 : Nat) : Int) := (congrArg (·.1) hp).symm
  have hY : Y = 1 + ((u.length : Nat) : Int) := (congrArg (fun z => z.2.1) hp).symm
  have hw0 : wid rs = wid (p ++ u) + (wO r + wid d) := by rw [hsplit, wid_app, wid_cons]
  have hpos := wO_pos hrR
  have hlt : wid (p ++ u) < l.length := by omega
  obtain ⟨c, hc⟩ : ∃ c, (enc r)[0]? = some c := ⟨_, List.getElem?_eq_getElem (by rw [enc_len]; omega)⟩
  have hget : l[wid (p ++ u)]? = some c := by
    rw [hw, hsplit, encs_app, encs_cons, List.getElem?_append_right (by rw [encs_len]; omega), encs_len, Nat.sub_self, List.getElem?_append_left (by rw [enc_len]; omega)]
    exact hc
  refine ⟨c, hget, hlt, ?_⟩
  by_cases h10 : r = 10
  · subst h10
    rw [enc_ten] at hc
    obtain rfl : c = 10 := by simpa using hc.symm
    rw [if_pos (show ((10 : UInt8).toNat : Int) = 10 from rfl)]
    have e2 : rs = (p ++ u ++ [10]) ++ [] ++ d := by rw [hsplit]; simp
    have := hplace e2 (.inr ⟨p ++ u, rfl⟩) (by simp)
    rw [List.append_nil] at this
    rw [this, List.count_append, List.count_append, List.count_eq_zero.2 hu, List.count_singleton_self, hX]
    simp only [List.length_nil]
    refine Prod.ext ?_ (Prod.ext ?_ rfl)
    · simp only; omega
    · rfl
  · have hcn := enc_not hrR h10 c (List.mem_of_getElem? hc)
    rw [if_neg hcn]
    have e2 : rs = p ++ (u ++ [r]) ++ d := by rw [hsplit]; simp
    have := hplace e2 l1 (by
      intro hm
      rcases List.mem_append.1 hm with hm | hm
      · exact hu hm
      · exact h10 (List.mem_singleton.1 hm).symm)
    rw [← List.append_assoc] at this
    rw [this, List.length_append, hX, hY]
    refine Prod.ext rfl (Prod.ext ?_ rfl)
    simp only [List.length_singleton]; omega
theorem place_first {l : List UInt8} (h0 : (chkS l).2 = 0) {s : Nat} (hs : (stS l)[0]? = some s) : placeP l (s : Int) = (1, 1, 0) := by
  rw [st_get h0 (Nat.zero_le _)] at hs
  obtain rfl := Option.some.inj hs
  exact place_at h0 (p := []) (u := []) (b := (runs l).1) rfl (.inl rfl) (by simp)
theorem place_off {l : List UInt8} (h0 : (chkS l).2 = 0) {i : Nat} (hi : i ≤ l.length) (hn : i ∉ stS l) : placeP l (i : Int) = (0, 0, 6) := by
  obtain ⟨h1, h2⟩ := chk_len h0
  obtain ⟨k, hk, _, _, hm, _⟩ := cut_at h2 h1 hi
  have hne : k ≠ i := fun e => hn (hm.2 e)
  have hb : backS l (i : Int) = ((k : Int), 0) := by
    unfold backS; rw [if_neg (by simpa using h0), if_neg (by omega), Int.toNat_natCast, hk]
  unfold placeP onS
  rw [hb]
  simp only
  rw [if_neg (by simp), if_pos (by rw [decide_eq_false_iff_not]; rintro ⟨_, e⟩; omega)]
theorem on_e (l : List UInt8) (i : Int) : (onS l i).2 = if (chkS l).2 ≠ 0 then (chkS l).2 else if i < 0 ∨ (l.length : Int) < i then 7 else 0 := by
  show (backS l i).2 = _
  unfold backS
  split
  · rfl
  · split <;> rfl
theorem place_err {l : List UInt8} {i e : Int} (h : (onS l i).2 = e) (he : e ≠ 0) : placeP l i = (0, 0, e) := by
  unfold placeP; rw [h, if_pos he]
/-- Each start has a place, from which At leads back. -/
theorem start_place {l : List UInt8} (h0 : (chkS l).2 = 0) {k s : Nat} (hs : (stS l)[k]? = some s) : ∃ X Y : Int, placeP l (s : Int) = (X, Y, 0) ∧ atP l X Y = ((s : Int), 0) := by
  obtain ⟨p, u, b, e, l1, hu, rfl⟩ := start_at h0 (List.mem_of_getElem? hs)
  exact ⟨_, _, place_at h0 e l1 hu, at_place h0 e l1 hu⟩
/-- What has no place is not found. -/
theorem at_none {l : List UInt8} (h0 : (chkS l).2 = 0) {i j : Int} (h : ∀ (k s : Nat), (stS l)[k]? = some s → placeP l (s : Int) ≠ (i, j, 0)) : atP l i j = (0, 4) := by
  rcases at_cases h0 i j with h1 | ⟨p, u, b, e, l1, hu, rfl, rfl⟩
  · exact h1
  · exfalso
    have hle : (p ++ u).length ≤ (runs l).1.length := by rw [e]; simp only [List.length_append]; omega
    have hg := st_get h0 hle
    have ht : (runs l).1.take (p ++ u).length = p ++ u := by rw [e, List.take_left']; rfl
    rw [ht] at hg
    exact h _ _ hg (place_at h0 e l1 hu)
theorem at_err {l : List UInt8} (h : (chkS l).2 ≠ 0) (i j : Int) : atP l i j = (0, (chkS l).2) := by
  have e : linesS l = ([], (chkS l).2) := by unfold linesS; rw [if_neg h]
  unfold atP; rw [e, if_pos h]
end Go.Proofs.YtbajikkjkiacnaaDoor
