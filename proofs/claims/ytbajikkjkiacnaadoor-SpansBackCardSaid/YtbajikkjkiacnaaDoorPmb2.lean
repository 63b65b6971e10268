/- Mathematics of places: Place and At lead there and back. -/
import Derived.Test.YtbajikkjkiacnaaDoorPmb
namespace Go.Proofs.YtbajikkjkiacnaaDoor

theorem lbS_skip (L : List UInt8) (m : Nat) : ∀ k, m ≤ k → (∀ j c, m ≤ j → j < k → L[j]? = some c → (c.toNat : Int) ≠ 10) → lbS 10 L k = lbS 10 L m := by
  intro k
  induction k with
  | zero => intro h _; rw [show m = 0 by omega]
  | succ k ih =>
    intro h hn
    by_cases e : m = k + 1
    · rw [e]
    · rw [lbS, ih (by omega) fun j c h1 h2 h3 => hn j c h1 (by omega) h3]
      cases hk : L[k]? with
      | none => rw [if_neg (by simp)]
      | some c =>
        have : ub c ≠ 10 := hn k c (by omega) (by omega) hk
        rw [if_neg (by simp [this])]
theorem lb_line {p u : List Int} (hr : ∀ r ∈ p ++ u, isR r = true) (l1 : Lend p) (h : 10 ∉ u) : lbS 10 (encs (p ++ u)) (encs (p ++ u)).length = (wid p : Int) - 1 := by
  have hu := encs_not (fun r hm => hr r (List.mem_append_right _ hm)) h
  rw [lbS_skip _ (wid p) _ (by rw [encs_len, wid_app]; omega)]
  · rcases l1 with rfl | ⟨p', rfl⟩
    · rfl
    · rw [wid_app, wid_cons, wO_ten, wid_nil]
      show lbS 10 _ (wid p' + 1) = _
      have e : (encs (p' ++ [10] ++ u))[wid p']? = some 10 := by
        rw [encs_app, encs_app, List.append_assoc, List.getElem?_append_right (by rw [encs_len]; omega), encs_len, Nat.sub_self, encs_cons, enc_ten]; rfl
      rw [lbS, e, if_pos (show decide (ub 10 = 10) = true by decide)]
      omega
  · intro j c h1 h2 h3
    rw [encs_app, List.getElem?_append_right (by rw [encs_len]; exact h1)] at h3
    exact hu c (List.mem_of_getElem? h3)
theorem chk_len {l : List UInt8} (h : (chkS l).2 = 0) : l.length ≤ 8000 ∧ (runs l).2 = 0 := by
  unfold chkS at h
  split at h
  · simp at h
  · exact ⟨by omega, h⟩
theorem chk_encs {u : List Int} (hr : ∀ r ∈ u, isR r = true) (h : wid u ≤ 8000) : chkS (encs u) = (wid u, 0) := by
  unfold chkS; rw [if_neg (by rw [encs_len]; omega), runs_of_encs hr]
theorem on_at {l : List UInt8} (h0 : (chkS l).2 = 0) {a b : List Int} (e : (runs l).1 = a ++ b) : onS l ((wid a : Nat) : Int) = (true, 0) := by
  obtain ⟨h1, h2⟩ := chk_len h0
  have hw := runs_whole h2
  have hr := runs_all l
  rw [e] at hw hr
  have hl : l.length = wid a + wid b := by rw [hw, encs_len, wid_app]
  have hb : backS l ((wid a : Nat) : Int) = ((wid a : Int), 0) := by
    unfold backS; rw [if_neg (by simpa using h0), if_neg (by omega), Int.toNat_natCast]
    have := bk_on a b hr
    rw [← hw] at this; rw [this]
  unfold onS; rw [hb]; simp
theorem place_at {l : List UInt8} (h0 : (chkS l).2 = 0) {p u b : List Int} (e : (runs l).1 = p ++ u ++ b) (l1 : Lend p) (h : 10 ∉ u) :
    placeP l ((wid (p ++ u) : Nat) : Int) = (1 + ((p.count 10 : Nat) : Int), 1 + ((u.length : Nat) : Int), 0) := by
  obtain ⟨h1, h2⟩ := chk_len h0
  have hw := runs_whole h2
  have hr := runs_all l
  rw [e] at hw hr
  have hl : l.length = wid (p ++ u) + wid b := by rw [hw, encs_len, wid_app]
  have hra : ∀ r ∈ p ++ u, isR r = true := fun r hm => hr r (List.mem_append_left _ hm)
  have hru : ∀ r ∈ u, isR r = true := fun r hm => hra r (List.mem_append_right _ hm)
  have ht : l.take (wid (p ++ u)) = encs (p ++ u) := by
    rw [hw, encs_app (p ++ u), ← encs_len (p ++ u), List.take_left']; rfl
  have hi : inL l (wid (p ++ u)) = encs u := by
    unfold inL; rw [ht, lb_line hra l1 h, show ((wid p : Int) - 1 + 1).toNat = wid p by omega, encs_app, ← encs_len p, List.drop_left']; rfl
  have hwu : wid u ≤ 8000 := by rw [wid_app] at hl; omega
  have hc : cntS (encs u) = (u.length, 0) := by
    unfold cntS; rw [chk_encs hru hwu, runs_of_encs hru]; rfl
  unfold placeP
  rw [on_at h0 e, if_neg (by simp), if_neg (by simp), Int.toNat_natCast, hi, hc, if_neg (by simp), ht, count_encs _ hra, List.count_append, List.count_eq_zero.2 h]
  rfl
theorem st_at : ∀ (u x : List Int) (k : Nat), (begs k (u ++ x) ++ [k + wid (u ++ x)])[u.length]? = some (k + wid u) := by
  intro u
  induction u with
  | nil =>
    intro x k
    cases x with
    | nil => simp [begs, wid_nil]
    | cons r x => simp [begs, wid_nil]
  | cons r u ih =>
    intro x k
    rw [List.cons_append, begs, List.cons_append, List.length_cons, List.getElem?_cons_succ, wid_cons, wid_cons, ← Nat.add_assoc, ← Nat.add_assoc]
    exact ih x (k + wO r)
theorem begs_length : ∀ (x : List Int) (k : Nat), (begs k x).length = x.length := by
  intro x
  induction x with
  | nil => intro k; rfl
  | cons r x ih => intro k; rw [begs, List.length_cons, List.length_cons, ih]
/-- A line as At reads it. -/
theorem seg_line {l : List UInt8} (h0 : (chkS l).2 = 0) {p x q : List Int} (e : (runs l).1 = p ++ x ++ q) : startsS (segL l (((wid p : Nat) : Int), ((wid p + wid x : Nat) : Int))) = (begs 0 x ++ [0 + wid x], 0) := by
  obtain ⟨h1, h2⟩ := chk_len h0
  have hw := runs_whole h2
  have hr := runs_all l
  rw [e] at hw hr
  have hl : l.length = wid p + wid x + wid q := by rw [hw, encs_len, wid_app, wid_app]
  have hrx : ∀ r ∈ x, isR r = true := fun r hm => hr r (List.mem_append_left _ (List.mem_append_right _ hm))
  have hs : segL l (((wid p : Nat) : Int), ((wid p + wid x : Nat) : Int)) = encs x := by
    unfold segL
    simp only [Int.toNat_natCast]
    rw [hw, encs_app (p ++ x), show wid p + wid x = (encs (p ++ x)).length by rw [encs_len, wid_app], List.take_left' rfl, encs_app, ← encs_len p, List.drop_left' rfl]
  rw [hs]
  unfold startsS stS
  rw [chk_encs hrx (by omega), if_pos rfl, runs_of_encs hrx, encs_len, Nat.zero_add]
theorem lines_ok {l : List UInt8} (h0 : (chkS l).2 = 0) : linesS l = (linesG l, 0) ∧ linesG l = linesF ((0 : Nat) : Int) ((0 : Nat) : Int) (encs (runs l).1) := by
  obtain ⟨h1, h2⟩ := chk_len h0
  refine ⟨by unfold linesS; rw [if_pos h0], ?_⟩
  rw [← runs_whole h2]; rfl
/-- The line of a place. -/
theorem line_of {l : List UInt8} (h0 : (chkS l).2 = 0) {p u b : List Int} (e : (runs l).1 = p ++ u ++ b) (l1 : Lend p) (h : 10 ∉ u) :
    ∃ x2 q, (runs l).1 = p ++ (u ++ x2) ++ q ∧ (linesG l)[p.count 10]? = some (((wid p : Nat) : Int), ((wid p + wid (u ++ x2) : Nat) : Int)) := by
  obtain ⟨_, hg⟩ := lines_ok h0
  have hr := runs_all l
  have hlen := lines_len (runs l).1 ((0 : Nat) : Int) ((0 : Nat) : Int) hr
  rw [← hg] at hlen
  have hc : p.count 10 < (linesG l).length := by rw [hlen, e, List.count_append, List.count_append]; omega
  obtain ⟨s, hs⟩ : ∃ s, (linesG l)[p.count 10]? = some s := ⟨_, List.getElem?_eq_getElem hc⟩
  rw [hs]
  rw [hg] at hs
  obtain ⟨p', x, q, i1, i2, i3, i4, i5, i6⟩ := line_at _ (runs l).1 0 (Nat.le_refl _) hr _ s hs
  obtain ⟨rfl, x2, rfl⟩ := same_line i1 e i4 l1 h i6 i3
  exact ⟨x2, q, i1, by rw [i2, Nat.zero_add]⟩
theorem at_place {l : List UInt8} (h0 : (chkS l).2 = 0) {p u b : List Int} (e : (runs l).1 = p ++ u ++ b) (l1 : Lend p) (h : 10 ∉ u) :
    atP l (1 + ((p.count 10 : Nat) : Int)) (1 + ((u.length : Nat) : Int)) = (((wid (p ++ u) : Nat) : Int), 0) := by
  obtain ⟨hl, _⟩ := lines_ok h0
  obtain ⟨x2, q, e2, hs⟩ := line_of h0 e l1 h
  have hn := (List.getElem?_eq_some_iff.1 hs).1
  have hg := gs_at hs
  have hst := seg_line h0 e2
  unfold atP
  rw [hl]
  simp only
  rw [if_neg (by simp), if_neg (by omega), show ((1 : Int) + ((p.count 10 : Nat) : Int) - 1).toNat = p.count 10 by omega, hg, hst]
  simp only
  rw [if_neg (by simp), if_neg (by rw [List.length_append, begs_length, List.length_append, List.length_singleton]; omega), show ((1 : Int) + ((u.length : Nat) : Int) - 1).toNat = u.length by omega]
  have := st_at u x2 0
  rw [List.getD_eq_getElem?_getD, this, wid_app]
  simp
theorem at_cases {l : List UInt8} (h0 : (chkS l).2 = 0) (i j : Int) : atP l i j = (0, 4) ∨
    ∃ p u b, (runs l).1 = p ++ u ++ b ∧ Lend p ∧ 10 ∉ u ∧ i = 1 + ((p.count 10 : Nat) : Int) ∧ j = 1 + ((u.length : Nat) : Int) := by
  obtain ⟨hl, hg⟩ := lines_ok h0
  have hr := runs_all l
  by_cases hi : i < 1 ∨ ((linesG l).length : Int) < i
  · left; unfold atP; rw [hl]; simp only; rw [if_neg (by simp), if_pos hi]
  · obtain ⟨n, hn⟩ : ∃ n : Nat, i = 1 + (n : Int) := ⟨(i - 1).toNat, by omega⟩
    obtain ⟨s, hs⟩ : ∃ s, (linesG l)[n]? = some s := ⟨_, List.getElem?_eq_getElem (by omega)⟩
    have hgs := gs_at hs
    rw [hg] at hs
    obtain ⟨p, x, q, i1, i2, i3, i4, i5, i6⟩ := line_at _ (runs l).1 0 (Nat.le_refl _) hr _ s hs
    rw [Nat.zero_add] at i2
    have hst := seg_line h0 i1
    by_cases hj : j < 1 ∨ (((begs 0 x ++ [0 + wid x]).length : Nat) : Int) < j
    · left
      unfold atP; rw [hl]; simp only
      rw [if_neg (by simp), if_neg hi, show (i - 1).toNat = n by omega, hgs, i2, hst]
      simp only
      rw [if_neg (by simp), if_pos hj]
    · right
      rw [List.length_append, begs_length, List.length_singleton] at hj
      refine ⟨p, x.take (j - 1).toNat, x.drop (j - 1).toNat ++ q, ?_, i4, fun hm => i5 (List.mem_of_mem_take hm), by rw [i3]; exact hn, by rw [List.length_take]; omega⟩
      rw [i1, List.append_assoc p (x.take _), ← List.append_assoc (x.take _), List.take_append_drop, List.append_assoc]
/-- Each start is such a place. -/
theorem start_at {l : List UInt8} (h0 : (chkS l).2 = 0) {s : Nat} (hs : s ∈ stS l) : ∃ p u b, (runs l).1 = p ++ u ++ b ∧ Lend p ∧ 10 ∉ u ∧ s = wid (p ++ u) := by
  obtain ⟨h1, h2⟩ := chk_len h0
  have hw := congrArg List.length (runs_whole h2)
  rw [encs_len] at hw
  unfold stS at hs
  rw [hw] at hs
  have := (st_mem (runs l).1 0 s (runs_all l)).1 (by rw [Nat.zero_add, Nat.zero_add]; exact hs)
  obtain ⟨a, b, e, rfl⟩ := this
  obtain ⟨p, u, rfl, l1, hu⟩ := decomp a
  exact ⟨p, u, b, e, l1, hu, rfl⟩
end Go.Proofs.YtbajikkjkiacnaaDoor
