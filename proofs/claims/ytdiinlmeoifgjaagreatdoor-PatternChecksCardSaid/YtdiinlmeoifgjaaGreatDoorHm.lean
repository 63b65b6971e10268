/- Patterns: the spots of nodes, variables (mathematics). -/
import Derived.Test.YtdiinlmeoifgjaaGreatDoorYm
namespace Go.Proofs.YtdiinlmeoifgjaaGreatDoor

abbrev Pid := List UInt8 × List UInt8
def idX (x : Sx) : Pid := (x.s, x.p)
def dotsX (x : Sx) : Bool := decide (x.k = 3) && decide (x.s = [46, 46, 46])
def blkX (x : Sx) : Bool := decide (x.k = 3) && decide (x.s = [95])
def endX (p : List Sx) (i : Nat) : Nat := endN (kidsX p) i
def dotAt (p : List Sx) (i : Nat) : Bool := match p[i]? with | some x => dotsX x | none => false
def lstAt (p : List Sx) (i : Nat) : Bool := match p[i]? with | some x => decide (x.k = 4) | none => false
theorem dotAt_of {p : List Sx} {i : Nat} {x : Sx} (h : p[i]? = some x) : dotAt p i = dotsX x := by unfold dotAt; rw [h]
theorem lstAt_of {p : List Sx} {i : Nat} {x : Sx} (h : p[i]? = some x) : lstAt p i = decide (x.k = 4) := by unfold lstAt; rw [h]
theorem dots_k {x : Sx} (h : dotsX x = true) : x.k = 3 := by
  unfold dotsX at h; rw [Bool.and_eq_true, decide_eq_true_eq] at h; exact h.1
theorem dot_lst {p : List Sx} {i : Nat} (h : dotAt p i = true) : lstAt p i = false := by
  unfold dotAt at h; unfold lstAt
  cases hx : p[i]? with
  | none => rfl
  | some x => rw [hx] at h; have := dots_k h; simp [this]

/-- The pattern is syntax, and its first element is a leaf. -/
structure PatOk (p : List Sx) : Prop where
  tr : Tr (kidsX p)
  leaf : ∀ (i : Nat) (x : Sx), p[i]? = some x → x.k ≠ 4 → x.c = 0
theorem chkX_pat {p : List Sx} (h : (chkX p).2 = 0) : PatOk p := by
  refine ⟨(chkX_tree h).1, fun i x hx h4 => ?_⟩
  have hk := ((chkX_ok h).2 x (List.mem_of_getElem? hx)).1
  unfold kindX at hk
  split at hk
  · simp only [Bool.and_eq_true, decide_eq_true_eq] at hk; exact hk.1
  · split at hk
    · simp only [Bool.and_eq_true, decide_eq_true_eq] at hk; exact hk.1
    · cases hk
theorem PatOk.end_bd {p : List Sx} (h : PatOk p) {i : Nat} (hi : i < p.length) : i < endX p i ∧ endX p i ≤ p.length := by
  have := h.tr.end_bd (p := i) (by rw [kidsX_len]; exact hi)
  rw [kidsX_len] at this; exact this
theorem PatOk.end_leaf {p : List Sx} (h : PatOk p) {i : Nat} (hi : i < p.length) (hl : lstAt p i = false) : endX p i = i + 1 := by
  have hx := List.getElem?_eq_getElem hi
  rw [lstAt_of hx] at hl
  have hc := h.leaf i _ hx (by simpa using hl)
  have hk : i < (kidsX p).length := by rw [kidsX_len]; exact hi
  have h0 : cnt (kidsX p) i = 0 := by rw [cnt_of (kidsX_at hx), hc]; rfl
  have := h.tr.pos_end hk
  rw [h0, posK_start hk] at this
  exact this.symm
theorem PatOk.end_0 {p : List Sx} (h : PatOk p) : endX p 0 = p.length := by
  have := h.tr.end_0; rw [kidsX_len] at this; exact this

/-- How many repeated elements a node is in, that stands at i in a list with this end and this depth. -/
def dpt (p : List Sx) (i e d : Nat) : Nat := if endX p i < e ∧ dotAt p (endX p i) = true then d + 1 else d
abbrev Spt := Nat × Nat × Bool
/-- The spots of the nodes from i up to e, in a list whose first element is f. -/
def spL (p : List Sx) : Nat → Nat → Nat → Nat → Nat → Bool → List Spt
  | 0, _, _, _, _, _ => []
  | m + 1, i, f, e, d, b => if e ≤ i then [] else
      (i, dpt p i e d, b || decide (i = f)) :: (if lstAt p i = true then spL p m (i + 1) (i + 1) (endX p i) (dpt p i e d) false else []) ++ spL p m (endX p i) f e d (b || dotAt p i)
abbrev Fr := Nat × Nat × Nat × Bool
def popS (i : Nat) : List Fr → List Fr
  | [] => []
  | z :: r => if z.2.1 = i then popS i r else z :: r
def nxS (p : List Sx) (i : Nat) : List Fr → List Fr
  | [] => []
  | z :: r => (if lstAt p i = true then [(i + 1, endX p i, dpt p i z.2.1 z.2.2.1, false)] else []) ++ (z.1, z.2.1, z.2.2.1, z.2.2.2 || dotAt p i) :: r
def spM (p : List Sx) : Nat → Nat → List Fr → List Spt
  | 0, _, _ => []
  | m + 1, i, st => match popS i st with
    | [] => []
    | z :: r => (i, dpt p i z.2.1 z.2.2.1, z.2.2.2 || decide (i = z.1)) :: spM p m (i + 1) (nxS p i (z :: r))
theorem spM_pop (p : List Sx) (k i : Nat) (z : Fr) (r : List Fr) (h : z.2.1 = i) : spM p k i (z :: r) = spM p k i r := by
  cases k with
  | zero => rfl
  | succ k => rw [spM, spM, popS, if_pos h]
/-- A place in a list: i is where an element of the list q begins, or its end. -/
def InL (p : List Sx) (i e : Nat) : Prop := ∃ q j, q < p.length ∧ j ≤ cnt (kidsX p) q ∧ i = posK (kidsX p) q j ∧ e = endX p q
theorem InL.bd {p : List Sx} (h : PatOk p) {i e : Nat} (hi : InL p i e) : i ≤ e ∧ e ≤ p.length := by
  obtain ⟨q, j, hq, hj, rfl, rfl⟩ := hi
  have hk : q < (kidsX p).length := by rw [kidsX_len]; exact hq
  refine ⟨?_, (h.end_bd hq).2⟩
  have := h.tr.pos_le hk hj (Nat.le_refl _)
  rw [h.tr.pos_end hk] at this; exact this
theorem InL.next {p : List Sx} (h : PatOk p) {i e : Nat} (hi : InL p i e) (hlt : i < e) : InL p (endX p i) e ∧ endX p i ≤ e ∧ i < endX p i := by
  obtain ⟨q, j, hq, hj, rfl, rfl⟩ := hi
  have hk : q < (kidsX p).length := by rw [kidsX_len]; exact hq
  have hjc : j < cnt (kidsX p) q := by
    rcases Nat.lt_or_ge j (cnt (kidsX p) q) with h1 | h1
    · exact h1
    · have : j = cnt (kidsX p) q := by omega
      rw [this, h.tr.pos_end hk] at hlt; exact absurd hlt (Nat.lt_irrefl _)
  obtain ⟨s1, s2, s3⟩ := h.tr.pos_step hk hjc
  have hn : InL p (endX p (posK (kidsX p) q j)) (endX p q) := ⟨q, j + 1, hq, hjc, s3, rfl⟩
  refine ⟨hn, (hn.bd h).1, ?_⟩
  rw [kidsX_len] at s2
  exact (h.end_bd s2).1
theorem InL.first {p : List Sx} (_h : PatOk p) {i : Nat} (hi : i < p.length) : InL p (i + 1) (endX p i) := by
  have hk : i < (kidsX p).length := by rw [kidsX_len]; exact hi
  exact ⟨i, 0, hi, Nat.zero_le _, (posK_start hk).symm, rfl⟩
/-- The walk with a stack finds what the walk through the lists finds. -/
theorem spM_spL {p : List Sx} (h : PatOk p) : ∀ (m : Nat) (i f e d : Nat) (b : Bool) (r : List Fr) (k M : Nat), InL p i e → e - i = m → m ≤ M →
    spM p (m + k) i ((f, e, d, b) :: r) = spL p M i f e d b ++ spM p k e r := by
  intro m
  induction m using Nat.strongRecOn with
  | _ m ih =>
    intro i f e d b r k M hin hm hM
    have hb := hin.bd h
    by_cases hlt : i < e
    · obtain ⟨hn, hn1, hn2⟩ := hin.next h hlt
      have hil : i < p.length := by omega
      obtain ⟨m1, rfl⟩ : ∃ m1, m = m1 + 1 := ⟨m - 1, by omega⟩
      obtain ⟨M1, rfl⟩ : ∃ M1, M = M1 + 1 := ⟨M - 1, by omega⟩
      rw [show m1 + 1 + k = (m1 + k) + 1 by omega, spM, popS, if_neg (by show ¬ e = i; omega), spL, if_neg (by omega)]
      simp only [nxS]
      cases hl : lstAt p i with
      | false =>
        have he := h.end_leaf hil hl
        simp only [Bool.false_eq_true, if_false, List.nil_append, List.cons_append]
        rw [he] at hn ⊢
        rw [ih m1 (by omega) (i + 1) f e d (b || dotAt p i) r k M1 hn (by omega) (by omega)]
      | true =>
        simp only [if_true, List.cons_append, List.nil_append]
        have hf := InL.first h hil
        rw [show m1 + k = (endX p i - (i + 1)) + ((e - endX p i) + k) by omega]
        rw [ih (endX p i - (i + 1)) (by omega) (i + 1) (i + 1) (endX p i) _ false _ _ M1 hf rfl (by omega)]
        rw [ih (e - endX p i) (by omega) (endX p i) f e d (b || dotAt p i) r k M1 hn rfl (by omega), List.append_assoc]
    · have : i = e := by omega
      subst this
      have hm0 : m = 0 := by omega
      subst hm0
      rw [Nat.zero_add, spM_pop p k i (f, i, d, b) r rfl]
      cases M with
      | zero => rfl
      | succ M => rw [spL, if_pos (Nat.le_refl _)]; rfl
/-- Enough fuel is enough. -/
theorem spL_fuel {p : List Sx} (h : PatOk p) (m M i f e d : Nat) (b : Bool) (hin : InL p i e) (hm : e - i ≤ m) (hM : e - i ≤ M) : spL p m i f e d b = spL p M i f e d b := by
  have h1 := spM_spL h (e - i) i f e d b [] 0 m hin rfl hm
  have h2 := spM_spL h (e - i) i f e d b [] 0 M hin rfl hM
  rw [h1] at h2
  simpa [spM] using h2
theorem spL_end (p : List Sx) (m i f e d : Nat) (b : Bool) (h : e ≤ i) : spL p m i f e d b = [] := by
  cases m with
  | zero => rfl
  | succ m => rw [spL, if_pos h]
/-- The spots of a list's elements, with enough fuel. -/
def spE (p : List Sx) (i f e d : Nat) (b : Bool) : List Spt := spL p p.length i f e d b
theorem spE_step {p : List Sx} (h : PatOk p) {i f e d : Nat} {b : Bool} (hin : InL p i e) (hlt : i < e) :
    spE p i f e d b = (i, dpt p i e d, b || decide (i = f)) :: (if lstAt p i = true then spE p (i + 1) (i + 1) (endX p i) (dpt p i e d) false else []) ++ spE p (endX p i) f e d (b || dotAt p i) := by
  have hb := hin.bd h
  obtain ⟨hn, hn1, hn2⟩ := hin.next h hlt
  unfold spE
  obtain ⟨n, hn0⟩ : ∃ n, p.length = n + 1 := ⟨p.length - 1, by omega⟩
  rw [hn0, spL, if_neg (by omega), spL_fuel h n (n + 1) (endX p i) f e d _ hn (by omega) (by omega)]
  cases lstAt p i with
  | false => rfl
  | true =>
    simp only [if_true]
    rw [spL_fuel h n (n + 1) (i + 1) (i + 1) (endX p i) _ _ (InL.first h (by omega)) (by omega) (by omega)]
theorem spE_end (p : List Sx) {i f e d : Nat} {b : Bool} (h : e ≤ i) : spE p i f e d b = [] := spL_end p _ i f e d b h

/-- What reading returns: variables, node, error. -/
abbrev RdR := List (Pid × Nat) × Nat × Int
def rdF (p : List Sx) (L : List Pid) : List (Pid × Nat) → List Spt → RdR
  | vs, [] => (vs, 0, 0)
  | vs, z :: t =>
    match p[z.1]? with
    | none => (vs, 0, 0)
    | some x => if dotsX x = true ∧ z.2.2 = true then (vs, z.1, 6)
      else if x.k ≠ 3 ∨ dotsX x = true ∨ blkX x = true ∨ idX x ∈ L then rdF p L vs t
      else if 3 < z.2.1 then (vs, z.1, 3)
      else if idX x ∈ vs.map (·.1) then (vs, z.1, 8)
      else rdF p L (vs ++ [(idX x, z.2.1)]) t
/-- All spots are of nodes. -/
def SpIn (p : List Sx) (l : List Spt) : Prop := ∀ z ∈ l, z.1 < p.length
theorem rdF_app {p : List Sx} {L : List Pid} : ∀ (a b : List Spt) (vs : List (Pid × Nat)), SpIn p a → rdF p L vs (a ++ b) = if (rdF p L vs a).2.2 ≠ 0 then rdF p L vs a else rdF p L (rdF p L vs a).1 b := by
  intro a
  induction a with
  | nil => intro b vs _; rfl
  | cons z a ih =>
    intro b vs hin
    obtain ⟨y, hz⟩ : ∃ y, p[z.1]? = some y := ⟨_, List.getElem?_eq_getElem (hin z (by simp))⟩
    have ih' := fun vs => ih b vs fun y hy => hin y (by simp [hy])
    rw [List.cons_append, rdF, rdF, hz]
    simp only
    split
    · simp
    · split
      · exact ih' _
      · split
        · simp
        · split
          · simp
          · exact ih' _
theorem spE_in {p : List Sx} (h : PatOk p) : ∀ (m i f e d : Nat) (b : Bool), InL p i e → e - i = m → SpIn p (spE p i f e d b) := by
  intro m
  induction m using Nat.strongRecOn with
  | _ m ih =>
    intro i f e d b hin hm
    have hb := hin.bd h
    by_cases hlt : i < e
    · obtain ⟨hn, hn1, hn2⟩ := hin.next h hlt
      rw [spE_step h hin hlt]
      intro z hz
      rcases List.mem_append.1 hz with hz | hz
      · rcases List.mem_cons.1 hz with hz | hz
        · subst hz; show i < p.length; omega
        · cases hl : lstAt p i with
          | false => rw [hl] at hz; simp at hz
          | true => rw [hl] at hz; exact ih _ (by omega) (i + 1) (i + 1) (endX p i) _ _ (InL.first h (by omega)) rfl z hz
      · exact ih _ (by omega) (endX p i) f e d _ hn rfl z hz
    · rw [spE_end p (by omega)]; intro z hz; cases hz

/-- The error of a pattern, as far as its first element matters. -/
def hdP (p : List Sx) : Int × Int :=
  if (chkX p).2 ≠ 0 then chkX p else
  match p with
  | [] => (0, 0)
  | x :: t => if x.k ≠ 4 then (0, 6) else if x.c = 0 then (0, 6) else match t with
    | [] => (0, 0)
    | y :: _ => if y.k ≠ 3 then (1, 6) else (0, 0)
def spP (p : List Sx) : List Spt := spE p 2 2 p.length 0 false
def rdP (p : List Sx) (L : List Pid) : List (Pid × Nat) × Int × Int :=
  if (hdP p).2 ≠ 0 then ([], hdP p) else if (rdF p L [] (spP p)).2.2 ≠ 0 then ([], ((rdF p L [] (spP p)).2.1 : Int), (rdF p L [] (spP p)).2.2) else ((rdF p L [] (spP p)).1, 0, 0)
/-- A good head. -/
structure HdOk (p : List Sx) : Prop extends PatOk p where
  long : 2 ≤ p.length
  short : p.length ≤ 2000
  root : lstAt p 0 = true
  one : endX p 1 = 2
  inl : InL p 2 p.length
  lf : lstAt p 1 = false
theorem hdP_ok {p : List Sx} (h : (hdP p).2 = 0) : HdOk p := by
  unfold hdP at h
  by_cases hc : (chkX p).2 = 0
  · rw [if_neg (by simpa using hc)] at h
    have hp := chkX_pat hc
    obtain ⟨_, h2, h3⟩ := chkX_tree hc
    cases p with
    | nil => exact absurd rfl h2
    | cons x t =>
      simp only at h
      split at h
      · cases h
      · rename_i hk
        split at h
        · cases h
        · rename_i hc0
          have hx0 : (x :: t)[0]? = some x := rfl
          have hcx := chkX_kids hc x (by simp)
          have hcnt : 0 < cnt (kidsX (x :: t)) 0 := by rw [cnt_of (kidsX_at hx0)]; omega
          have hkl : 0 < (kidsX (x :: t)).length := by rw [kidsX_len]; simp
          obtain ⟨s1, s2, s3⟩ := hp.tr.pos_step hkl hcnt
          rw [posK_start hkl] at s1 s2 s3
          rw [kidsX_len] at s2
          cases t with
          | nil => simp at s2
          | cons y t =>
            simp only at h
            split at h
            · cases h
            · rename_i hy
              have hl1 : lstAt (x :: y :: t) 1 = false := by
                rw [lstAt_of (x := y) rfl]; simp at hy; simp [hy]
              have he := hp.end_leaf (i := 1) (by simp) hl1
              refine ⟨hp, by simp, h3, by rw [lstAt_of hx0]; simpa using hk, he, ⟨0, 1, by simp, hcnt, ?_, hp.end_0.symm⟩, hl1⟩
              exact he.symm.trans s3
  · rw [if_pos hc] at h; exact absurd h hc
/-- The walk with a stack, from its start. -/
theorem spP_M {p : List Sx} (h : HdOk p) : spM p (p.length - 2) 2 [(2, p.length, 0, false)] = spP p := by
  have := spM_spL h.toPatOk (p.length - 2) 2 2 p.length 0 false [] 0 p.length h.inl rfl (by omega)
  rw [Nat.add_zero] at this
  rw [this]
  show _ ++ [] = _
  rw [List.append_nil]; rfl
-- MARK9
end Go.Proofs.YtdiinlmeoifgjaaGreatDoor
