import Derived.Test.YtdiinlmeoifgjaaGreatDoorZa
import Derived.Lib.SlicesCompact
/- Sets of scopes as bytes (mathematics). -/
namespace Go.Proofs.YtdiinlmeoifgjaaGreatDoor

/-- The numbers of pairs of bytes. -/
def idsL : List UInt8 → List Nat
  | a :: b :: t => (256 * a.toNat + b.toNat) :: idsL t
  | _ => []
def hiB (n : Nat) : UInt8 := UInt8.ofNat (n / 256)
def loB (n : Nat) : UInt8 := UInt8.ofNat (n % 256)
def setL : List Nat → List UInt8
  | [] => []
  | n :: t => hiB n :: loB n :: setL t
theorem setL_len : ∀ l : List Nat, (setL l).length = 2 * l.length
  | [] => rfl
  | n :: t => by rw [setL, List.length_cons, List.length_cons, setL_len t, List.length_cons]; omega
theorem setL_app : ∀ a b : List Nat, setL (a ++ b) = setL a ++ setL b
  | [], _ => rfl
  | n :: t, b => by rw [List.cons_append, setL, setL_app t b, setL]; rfl
theorem hi_nat {n : Nat} (h : n < 65536) : (hiB n).toNat = n / 256 := by
  unfold hiB; rw [UInt8.toNat_ofNat']; omega
theorem lo_nat (n : Nat) : (loB n).toNat = n % 256 := by
  unfold loB; rw [UInt8.toNat_ofNat']; omega
theorem num_of (a b : UInt8) : hiB (256 * a.toNat + b.toNat) = a ∧ loB (256 * a.toNat + b.toNat) = b := by
  have ha := a.toNat_lt
  have hb := b.toNat_lt
  constructor
  · apply UInt8.toNat.inj; rw [hi_nat (by omega)]; omega
  · apply UInt8.toNat.inj; rw [lo_nat]; omega
theorem ids_set : ∀ l : List Nat, (∀ n ∈ l, n < 65536) → idsL (setL l) = l
  | [], _ => rfl
  | n :: t, h => by
    have hn := h n (List.mem_cons_self ..)
    rw [setL, idsL, ids_set t fun x hx => h x (List.mem_cons_of_mem _ hx), hi_nat hn, lo_nat]
    congr 1; omega
theorem set_ids : ∀ s : List UInt8, s.length % 2 = 0 → setL (idsL s) = s
  | [], _ => rfl
  | [_], h => by simp at h
  | a :: b :: t, h => by
    rw [idsL, setL, (num_of a b).1, (num_of a b).2, set_ids t (by simp at h ⊢; omega)]
theorem ids_lt : ∀ (s : List UInt8), ∀ n ∈ idsL s, n < 65536
  | [], n, h => by cases h
  | [_], n, h => by cases h
  | a :: b :: t, n, h => by
    rw [idsL] at h
    rcases List.mem_cons.1 h with rfl | h
    · have ha := a.toNat_lt; have hb := b.toNat_lt; omega
    · exact ids_lt t n h
theorem ids_len : ∀ (s : List UInt8), (idsL s).length = s.length / 2
  | [] => rfl
  | [_] => by simp [idsL]
  | a :: b :: t => by rw [idsL, List.length_cons, ids_len t]; simp only [List.length_cons]; omega
/-- The scopes ascend, each once. -/
def asc (l : List Nat) : Prop := l.Pairwise (· < ·)
instance (l : List Nat) : Decidable (asc l) := by unfold asc; infer_instance
theorem asc_nil : asc [] := List.Pairwise.nil
theorem asc_one (n : Nat) : asc [n] := List.pairwise_singleton _ _
theorem asc_cons {n : Nat} {l : List Nat} : asc (n :: l) ↔ (∀ x ∈ l, n < x) ∧ asc l := List.pairwise_cons
/-- Two ascending lists with the same members are the same. -/
theorem asc_ext : ∀ {l m : List Nat}, asc l → asc m → (∀ z, z ∈ l ↔ z ∈ m) → l = m
  | [], [], _, _, _ => rfl
  | [], y :: m, _, _, h => absurd ((h y).2 (List.mem_cons_self ..)) (by simp)
  | x :: l, [], _, _, h => absurd ((h x).1 (List.mem_cons_self ..)) (by simp)
  | x :: l, y :: m, hl, hm, h => by
    obtain ⟨l1, l2⟩ := asc_cons.1 hl
    obtain ⟨m1, m2⟩ := asc_cons.1 hm
    have hx := (h x).1 (List.mem_cons_self ..)
    have hy := (h y).2 (List.mem_cons_self ..)
    have e : x = y := by
      rcases List.mem_cons.1 hx with e | hx
      · exact e
      rcases List.mem_cons.1 hy with e | hy
      · exact e.symm
      have := l1 y hy; have := m1 x hx; omega
    subst e
    congr 1
    refine asc_ext l2 m2 fun z => ?_
    have hz := h z
    simp only [List.mem_cons] at hz
    constructor
    · intro hzl
      rcases hz.1 (.inr hzl) with rfl | h
      · exact absurd (l1 z hzl) (Nat.lt_irrefl _)
      · exact h
    · intro hzm
      rcases hz.2 (.inr hzm) with rfl | h
      · exact absurd (m1 z hzm) (Nat.lt_irrefl _)
      · exact h
/-- The chosen scopes of two lists: those of the first alone, of both, of the second alone. -/
def mg (f b s : Bool) : List Nat → List Nat → List Nat
  | [], m => if s then m else []
  | x :: l, [] => if f then x :: l else []
  | x :: l, y :: m =>
    if x < y then (if f then x :: mg f b s l (y :: m) else mg f b s l (y :: m))
    else if y < x then (if s then y :: mg f b s (x :: l) m else mg f b s (x :: l) m)
    else (if b then x :: mg f b s l m else mg f b s l m)
termination_by l m => l.length + m.length
theorem mg_nil (f b s : Bool) (m : List Nat) : mg f b s [] m = if s then m else [] := by rw [mg]
theorem mg_nil2 (f b s : Bool) (l : List Nat) : mg f b s l [] = if f then l else [] := by
  cases l with
  | nil => rw [mg]; cases s <;> cases f <;> rfl
  | cons x l => rw [mg]
theorem mg_lt {f b s : Bool} {x y : Nat} {l m : List Nat} (h : x < y) : mg f b s (x :: l) (y :: m) = (if f then [x] else []) ++ mg f b s l (y :: m) := by
  rw [mg, if_pos h]; cases f <;> rfl
theorem mg_gt {f b s : Bool} {x y : Nat} {l m : List Nat} (h : y < x) : mg f b s (x :: l) (y :: m) = (if s then [y] else []) ++ mg f b s (x :: l) m := by
  rw [mg, if_neg (by omega), if_pos h]; cases s <;> rfl
theorem mg_eq {f b s : Bool} {x y : Nat} {l m : List Nat} (h : x = y) : mg f b s (x :: l) (y :: m) = (if b then [x] else []) ++ mg f b s l m := by
  rw [mg, if_neg (by omega), if_neg (by omega)]; cases b <;> rfl
theorem mem_mg (f b s : Bool) : ∀ (k : Nat) (l m : List Nat), l.length + m.length ≤ k → asc l → asc m → ∀ z, (z ∈ mg f b s l m ↔ (z ∈ l ∧ z ∉ m ∧ f = true) ∨ (z ∈ l ∧ z ∈ m ∧ b = true) ∨ (z ∉ l ∧ z ∈ m ∧ s = true)) := by
  intro k
  induction k with
  | zero =>
    intro l m h _ _ z
    obtain rfl : l = [] := List.eq_nil_of_length_eq_zero (by omega)
    obtain rfl : m = [] := List.eq_nil_of_length_eq_zero (by omega)
    rw [mg_nil]; cases s <;> simp
  | succ k ih =>
    intro l m h hl hm z
    cases l with
    | nil => rw [mg_nil]; cases s <;> simp
    | cons x l =>
      cases m with
      | nil => rw [mg_nil2]; cases f <;> simp
      | cons y m =>
        obtain ⟨l1, l2⟩ := asc_cons.1 hl
        obtain ⟨m1, m2⟩ := asc_cons.1 hm
        simp only [List.length_cons] at h
        have hxl : z ∈ l → x < z := l1 z
        have hym : z ∈ m → y < z := m1 z
        by_cases h1 : x < y
        · rw [mg_lt h1, List.mem_append, ih l (y :: m) (by simp only [List.length_cons]; omega) l2 hm z]
          by_cases hz : z = x
          · subst hz
            have n1 : z ∉ l := fun h => Nat.lt_irrefl _ (hxl h)
            have n2 : z ≠ y := by omega
            have n3 : z ∉ m := fun h => by have := hym h; omega
            cases f <;> simp [n1, n2, n3]
          · cases f <;> simp [hz]
        · by_cases h2 : y < x
          · rw [mg_gt h2, List.mem_append, ih (x :: l) m (by simp only [List.length_cons]; omega) hl m2 z]
            by_cases hz : z = y
            · subst hz
              have n1 : z ∉ l := fun h => by have := hxl h; omega
              have n2 : z ≠ x := by omega
              have n3 : z ∉ m := fun h => Nat.lt_irrefl _ (hym h)
              cases s <;> simp [n1, n2, n3]
            · cases s <;> simp [hz]
          · have e : x = y := by omega
            subst e
            rw [mg_eq rfl, List.mem_append, ih l m (by omega) l2 m2 z]
            by_cases hz : z = x
            · subst hz
              have n1 : z ∉ l := fun h => Nat.lt_irrefl _ (hxl h)
              have n3 : z ∉ m := fun h => Nat.lt_irrefl _ (hym h)
              cases b <;> simp [n1, n3]
            · cases b <;> simp [hz]
theorem mem_mg' {f b s : Bool} {l m : List Nat} (hl : asc l) (hm : asc m) (z : Nat) : z ∈ mg f b s l m ↔ (z ∈ l ∧ z ∉ m ∧ f = true) ∨ (z ∈ l ∧ z ∈ m ∧ b = true) ∨ (z ∉ l ∧ z ∈ m ∧ s = true) := mem_mg f b s _ l m (Nat.le_refl _) hl hm z
theorem asc_mg (f b s : Bool) : ∀ (k : Nat) (l m : List Nat), l.length + m.length ≤ k → asc l → asc m → asc (mg f b s l m) := by
  intro k
  induction k with
  | zero =>
    intro l m h _ _
    obtain rfl : l = [] := List.eq_nil_of_length_eq_zero (by omega)
    obtain rfl : m = [] := List.eq_nil_of_length_eq_zero (by omega)
    rw [mg_nil]; cases s <;> exact asc_nil
  | succ k ih =>
    intro l m h hl hm
    cases l with
    | nil => rw [mg_nil]; cases s <;> simp [hm, asc_nil]
    | cons x l =>
      cases m with
      | nil => rw [mg_nil2]; cases f <;> simp [hl, asc_nil]
      | cons y m =>
        obtain ⟨l1, l2⟩ := asc_cons.1 hl
        obtain ⟨m1, m2⟩ := asc_cons.1 hm
        simp only [List.length_cons] at h
        by_cases h1 : x < y
        · have hi := ih l (y :: m) (by simp only [List.length_cons]; omega) l2 hm
          rw [mg_lt h1]
          cases f with
          | false => exact hi
          | true =>
            refine asc_cons.2 ⟨fun z hz => ?_, hi⟩
            rcases (mem_mg' l2 hm z).1 hz with h | h | h
            · exact l1 z h.1
            · exact l1 z h.1
            · rcases List.mem_cons.1 h.2.1 with rfl | h
              · exact h1
              · have := m1 z h; omega
        · by_cases h2 : y < x
          · have hi := ih (x :: l) m (by simp only [List.length_cons]; omega) hl m2
            rw [mg_gt h2]
            cases s with
            | false => exact hi
            | true =>
              refine asc_cons.2 ⟨fun z hz => ?_, hi⟩
              rcases (mem_mg' hl m2 z).1 hz with h | h | h
              · rcases List.mem_cons.1 h.1 with rfl | h
                · exact h2
                · have := l1 z h; omega
              · exact m1 z h.2.1
              · exact m1 z h.2.1
          · have e : x = y := by omega
            subst e
            have hi := ih l m (by omega) l2 m2
            rw [mg_eq rfl]
            cases b with
            | false => exact hi
            | true =>
              refine asc_cons.2 ⟨fun z hz => ?_, hi⟩
              rcases (mem_mg' l2 m2 z).1 hz with h | h | h
              · exact l1 z h.1
              · exact l1 z h.1
              · exact m1 z h.2.1
theorem asc_mg' {f b s : Bool} {l m : List Nat} (hl : asc l) (hm : asc m) : asc (mg f b s l m) := asc_mg f b s _ l m (Nat.le_refl _) hl hm
theorem mg_len (f b s : Bool) : ∀ (k : Nat) (l m : List Nat), l.length + m.length ≤ k → (mg f b s l m).length ≤ l.length + m.length := by
  intro k
  induction k with
  | zero =>
    intro l m h
    obtain rfl : l = [] := List.eq_nil_of_length_eq_zero (by omega)
    obtain rfl : m = [] := List.eq_nil_of_length_eq_zero (by omega)
    rw [mg_nil]; cases s <;> simp
  | succ k ih =>
    intro l m h
    cases l with
    | nil => rw [mg_nil]; cases s <;> simp
    | cons x l =>
      cases m with
      | nil => rw [mg_nil2]; cases f <;> simp
      | cons y m =>
        simp only [List.length_cons] at h
        by_cases h1 : x < y
        · rw [mg_lt h1, List.length_append]
          have := ih l (y :: m) (by simp only [List.length_cons]; omega)
          simp only [List.length_cons] at *
          cases f <;> simp <;> omega
        · by_cases h2 : y < x
          · rw [mg_gt h2, List.length_append]
            have := ih (x :: l) m (by simp only [List.length_cons]; omega)
            simp only [List.length_cons] at *
            cases s <;> simp <;> omega
          · rw [mg_eq (by omega), List.length_append]
            have := ih l m (by omega)
            simp only [List.length_cons] at *
            cases b <;> simp <;> omega
theorem mg_len' (f b s : Bool) (l m : List Nat) : (mg f b s l m).length ≤ l.length + m.length := mg_len f b s _ l m (Nat.le_refl _)
theorem mg_lt64 {f b s : Bool} {l m : List Nat} (hl : asc l) (hm : asc m) (h1 : ∀ n ∈ l, n < 65536) (h2 : ∀ n ∈ m, n < 65536) : ∀ n ∈ mg f b s l m, n < 65536 := by
  intro n hn
  rcases (mem_mg' hl hm n).1 hn with h | h | h
  · exact h1 n h.1
  · exact h1 n h.1
  · exact h2 n h.2.1
end Go.Proofs.YtdiinlmeoifgjaaGreatDoor

/- Pairs of bytes: cuts, order; the reference's sets (mathematics). -/
namespace Go.Proofs.YtdiinlmeoifgjaaGreatDoor

theorem setL_take : ∀ (k : Nat) (l : List Nat), (setL l).take (2 * k) = setL (l.take k)
  | 0, l => by simp [setL]
  | k + 1, [] => by simp [setL]
  | k + 1, n :: t => by rw [show 2 * (k + 1) = 2 * k + 1 + 1 by omega, setL, List.take_succ_cons, List.take_succ_cons, setL_take k t, List.take_succ_cons, setL]
theorem setL_drop : ∀ (k : Nat) (l : List Nat), (setL l).drop (2 * k) = setL (l.drop k)
  | 0, l => by simp
  | k + 1, [] => by simp [setL]
  | k + 1, n :: t => by rw [show 2 * (k + 1) = 2 * k + 1 + 1 by omega, setL, List.drop_succ_cons, List.drop_succ_cons, setL_drop k t, List.drop_succ_cons]
theorem setL_cut {l : List Nat} {k n : Nat} (h : l[k]? = some n) : ((setL l).drop (2 * k)).take 2 = [hiB n, loB n] := by
  obtain ⟨hk, e⟩ := List.getElem?_eq_some_iff.1 h
  rw [setL_drop, List.drop_eq_getElem_cons hk, e, setL]; rfl
theorem pair_inj {m n : Nat} (hm : m < 65536) (hn : n < 65536) : [hiB m, loB m] = [hiB n, loB n] ↔ m = n := by
  constructor
  · intro h
    have h2 := congrArg idsL h
    have e1 := ids_set [m] (by simpa using hm)
    have e2 := ids_set [n] (by simpa using hn)
    rw [setL, setL] at e1 e2
    rw [e1, e2] at h2; simpa using h2
  · rintro rfl; rfl
theorem pair_less {m n : Nat} (hm : m < 65536) (hn : n < 65536) : Op.bytesLess [hiB m, loB m] [hiB n, loB n] = decide (m < n) := by
  have a1 := hi_nat hm
  have a2 := lo_nat m
  have b1 := hi_nat hn
  have b2 := lo_nat n
  have e : (hiB m == hiB n) = decide (m / 256 = n / 256) := by
    rw [Bool.eq_iff_iff, beq_iff_eq, decide_eq_true_iff, ← UInt8.toNat_inj, a1, b1]
  simp only [Op.bytesLess, UInt8.lt_iff_toNat_lt, a1, a2, b1, b2, e, Bool.and_false, Bool.or_false]
  rw [Bool.eq_iff_iff, Bool.or_eq_true, Bool.and_eq_true]
  simp only [decide_eq_true_iff]
  omega
theorem set_inj {l m : List Nat} (hl : ∀ n ∈ l, n < 65536) (hm : ∀ n ∈ m, n < 65536) : setL l = setL m ↔ l = m :=
  ⟨fun h => by have := congrArg idsL h; rwa [ids_set l hl, ids_set m hm] at this, fun h => by rw [h]⟩
/-- Each number of the list is less than the next one. -/
theorem asc_at : ∀ (l : List Nat), asc l ↔ ∀ (i a b : Nat), l[i]? = some a → l[i + 1]? = some b → a < b := by
  intro l
  induction l with
  | nil => simp [asc_nil]
  | cons x l ih =>
    cases l with
    | nil => simp [asc_one]
    | cons y l =>
      rw [asc_cons, ih]
      constructor
      · rintro ⟨h1, h2⟩ i a b ha hb
        cases i with
        | zero =>
          simp at ha hb; subst ha hb; exact h1 _ (List.mem_cons_self ..)
        | succ i => exact h2 i a b (by simpa using ha) (by simpa using hb)
      · intro h
        have ht : ∀ (i a b : Nat), (y :: l)[i]? = some a → (y :: l)[i + 1]? = some b → a < b := fun i a b ha hb => h (i + 1) a b (by simpa using ha) (by simpa using hb)
        refine ⟨fun z hz => ?_, ht⟩
        have hxy := h 0 x y rfl rfl
        rcases List.mem_cons.1 hz with rfl | hz
        · exact hxy
        · have := (asc_cons.1 (ih.2 ht)).1 z hz; omega
/-- The error of Check. -/
def chkE (s : List UInt8) : Int := if s.length % 2 ≠ 0 ∨ ¬ asc (idsL s) then 6 else if 20000 < s.length then 3 else 0
theorem chkE_odd {s : List UInt8} (h : s.length % 2 ≠ 0) : chkE s = 6 := by unfold chkE; rw [if_pos (.inl h)]
theorem chkE_no {s : List UInt8} (h : ¬ asc (idsL s)) : chkE s = 6 := by unfold chkE; rw [if_pos (.inr h)]
theorem chkE_asc {s : List UInt8} (h : s.length % 2 = 0) (ha : asc (idsL s)) : chkE s = if 20000 < s.length then 3 else 0 := by unfold chkE; rw [if_neg (by rintro (h1 | h1); exact h1 h; exact h1 ha)]
/-- A set: its scopes. -/
theorem chkE_ok {s : List UInt8} (h : chkE s = 0) : ∃ l, s = setL l ∧ asc l ∧ (∀ n ∈ l, n < 65536) ∧ l.length ≤ 10000 := by
  unfold chkE at h
  split at h
  · cases h
  split at h
  · cases h
  rename_i h1 h2
  have h3 : s.length % 2 = 0 := by
    by_cases e : s.length % 2 = 0
    · exact e
    · exact absurd (.inl e) h1
  have h4 : asc (idsL s) := by
    by_cases e : asc (idsL s)
    · exact e
    · exact absurd (.inr e) h1
  exact ⟨idsL s, (set_ids s h3).symm, h4, ids_lt s, by rw [ids_len]; omega⟩
theorem chkE_set {l : List Nat} (ha : asc l) (hl : ∀ n ∈ l, n < 65536) : chkE (setL l) = if 10000 < l.length then 3 else 0 := by
  rw [chkE_asc (by rw [setL_len]; omega) (by rw [ids_set l hl]; exact ha), setL_len]
  by_cases h : 10000 < l.length
  · rw [if_pos h, if_pos (by omega)]
  · rw [if_neg h, if_neg (by omega)]
theorem chkE_3 (s : List UInt8) : chkE s = 0 ∨ chkE s = 6 ∨ chkE s = 3 := by
  unfold chkE; (repeat' split) <;> simp
/-- With a scope: as the reference puts it in. -/
theorem put_in {l : List Nat} {n i : Nat} (ha : asc l) (hn : n ∉ l) (h1 : ∀ k a, k < i → l[k]? = some a → a < n) (h2 : ∀ a, l[i]? = some a → n < a) : l.take i ++ n :: l.drop i = mg true true true l [n] := by
  have hin : ∀ z, z ∈ l.take i ↔ ∃ k, k < i ∧ l[k]? = some z := by
    intro z
    rw [List.mem_iff_getElem?]
    constructor
    · rintro ⟨k, hk⟩
      rw [List.getElem?_take] at hk
      split at hk
      · exact ⟨k, by assumption, hk⟩
      · cases hk
    · rintro ⟨k, h, hk⟩
      exact ⟨k, by rw [List.getElem?_take, if_pos h]; exact hk⟩
  have e := (List.take_append_drop i l)
  have hat := ha
  rw [← e] at hat
  unfold asc at hat
  obtain ⟨t1, t2, t3⟩ := List.pairwise_append.1 hat
  have hd : ∀ z ∈ l.drop i, n < z := by
    intro z hz
    cases hq : l.drop i with
    | nil => rw [hq] at hz; cases hz
    | cons a r =>
      rw [hq] at hz t2
      have ha0 : l[i]? = some a := by
        have : (l.drop i)[0]? = some a := by rw [hq]; rfl
        rw [List.getElem?_drop] at this; simpa using this
      have := h2 a ha0
      rcases List.mem_cons.1 hz with rfl | hz
      · exact this
      · have := (asc_cons.1 t2).1 z hz; omega
  have ht : ∀ z ∈ l.take i, z < n := fun z hz => by
    obtain ⟨k, hk, he⟩ := (hin z).1 hz
    exact h1 k z hk he
  refine asc_ext ?_ (asc_mg' ha (asc_one n)) fun z => ?_
  · refine List.pairwise_append.2 ⟨t1, asc_cons.2 ⟨hd, t2⟩, fun x hx y hy => ?_⟩
    rcases List.mem_cons.1 hy with rfl | hy
    · exact ht x hx
    · exact t3 x hx y hy
  · rw [mem_mg' ha (asc_one n), List.mem_append, List.mem_cons]
    have hm : z ∈ l ↔ z ∈ l.take i ∨ z ∈ l.drop i := by rw [← List.mem_append, e]
    simp only [List.mem_singleton, and_true]
    rw [hm]
    by_cases h3 : z ∈ l.take i
    · have h4 : z ≠ n := by rintro rfl; exact hn (List.mem_of_mem_take h3)
      simp [h3, h4]
    · by_cases h4 : z = n
      · subst h4
        have : z ∉ l.drop i := fun h => hn (by rw [← e]; exact List.mem_append_right _ h)
        simp [h3, this]
      · by_cases h5 : z ∈ l.drop i <;> simp [h3, h4, h5]
theorem put_have {l : List Nat} {n : Nat} (ha : asc l) (hn : n ∈ l) : l = mg true true true l [n] := by
  refine asc_ext ha (asc_mg' ha (asc_one n)) fun z => ?_
  rw [mem_mg' ha (asc_one n)]
  simp only [List.mem_singleton, and_true]
  by_cases h : z = n
  · subst h; simp [hn]
  · simp [h]
theorem cut_out {l : List Nat} {n i : Nat} (ha : asc l) (hi : l[i]? = some n) : l.take i ++ l.drop (i + 1) = mg true false false l [n] := by
  obtain ⟨hk, e⟩ := List.getElem?_eq_some_iff.1 hi
  have hs : l = l.take i ++ n :: l.drop (i + 1) := by
    rw [← e, ← List.drop_eq_getElem_cons hk, List.take_append_drop]
  have hat : asc (l.take i ++ n :: l.drop (i + 1)) := by rw [← hs]; exact ha
  obtain ⟨t1, t2, t3⟩ := List.pairwise_append.1 hat
  obtain ⟨t4, t5⟩ := asc_cons.1 t2
  refine asc_ext (List.pairwise_append.2 ⟨t1, t5, fun x hx y hy => t3 x hx y (List.mem_cons_of_mem _ hy)⟩) (asc_mg' ha (asc_one n)) fun z => ?_
  rw [mem_mg' ha (asc_one n)]
  have hm : z ∈ l ↔ z ∈ l.take i ∨ z = n ∨ z ∈ l.drop (i + 1) := by
    conv => lhs; rw [hs]
    rw [List.mem_append, List.mem_cons]
  simp only [List.mem_singleton, List.mem_append, and_true]
  rw [hm]
  by_cases h : z = n
  · subst h
    have n1 : z ∉ l.take i := fun h => absurd (t3 z h z (List.mem_cons_self ..)) (Nat.lt_irrefl _)
    have n2 : z ∉ l.drop (i + 1) := fun h => absurd (t4 z h) (Nat.lt_irrefl _)
    simp [n1, n2]
  · simp [h]
theorem cut_not {l : List Nat} {n : Nat} (ha : asc l) (hn : n ∉ l) : l = mg true false false l [n] := by
  refine asc_ext ha (asc_mg' ha (asc_one n)) fun z => ?_
  rw [mem_mg' ha (asc_one n)]
  simp only [List.mem_singleton, and_true]
  by_cases h : z = n
  · subst h; simp [hn]
  · simp [h]
end Go.Proofs.YtdiinlmeoifgjaaGreatDoor

/- Laws of sets, and which numbers are in a list (mathematics). -/
namespace Go.Proofs.YtdiinlmeoifgjaaGreatDoor

theorem flip_flip {l : List Nat} (hl : asc l) (a : Nat) : mg true false true (mg true false true l [a]) [a] = l := by
  have h1 := asc_mg' (f := true) (b := false) (s := true) hl (asc_one a)
  refine asc_ext (asc_mg' h1 (asc_one a)) hl fun z => ?_
  rw [mem_mg' h1 (asc_one a), mem_mg' hl (asc_one a)]
  by_cases h2 : z ∈ l <;> by_cases h3 : z = a <;> simp [h2, h3]
theorem flip_comm {l : List Nat} (hl : asc l) (a b : Nat) : mg true false true (mg true false true l [a]) [b] = mg true false true (mg true false true l [b]) [a] := by
  have h1 := asc_mg' (f := true) (b := false) (s := true) hl (asc_one a)
  have h2 := asc_mg' (f := true) (b := false) (s := true) hl (asc_one b)
  refine asc_ext (asc_mg' h1 (asc_one b)) (asc_mg' h2 (asc_one a)) fun z => ?_
  rw [mem_mg' h1 (asc_one b), mem_mg' h2 (asc_one a), mem_mg' hl (asc_one a), mem_mg' hl (asc_one b)]
  by_cases h2 : z ∈ l <;> by_cases h3 : z = a <;> by_cases h4 : z = b <;> simp_all
theorem flip_mem {l : List Nat} (hl : asc l) (a z : Nat) : z ∈ mg true false true l [a] ↔ (if z = a then z ∉ l else z ∈ l) := by
  rw [mem_mg' hl (asc_one a)]
  by_cases h2 : z ∈ l <;> by_cases h3 : z = a <;> simp [h2, h3]
abbrev un (a b : List Nat) : List Nat := mg true true true a b
abbrev me (a b : List Nat) : List Nat := mg false true false a b
abbrev mi (a b : List Nat) : List Nat := mg true false false a b
theorem asc_un {a b : List Nat} (ha : asc a) (hb : asc b) : asc (un a b) := asc_mg' ha hb
theorem asc_me {a b : List Nat} (ha : asc a) (hb : asc b) : asc (me a b) := asc_mg' ha hb
theorem asc_mi {a b : List Nat} (ha : asc a) (hb : asc b) : asc (mi a b) := asc_mg' ha hb
theorem mem_un {a b : List Nat} (ha : asc a) (hb : asc b) (z : Nat) : z ∈ un a b ↔ z ∈ a ∨ z ∈ b := by
  rw [mem_mg' ha hb]; by_cases h1 : z ∈ a <;> by_cases h2 : z ∈ b <;> simp [h1, h2]
theorem mem_me {a b : List Nat} (ha : asc a) (hb : asc b) (z : Nat) : z ∈ me a b ↔ z ∈ a ∧ z ∈ b := by
  rw [mem_mg' ha hb]; by_cases h1 : z ∈ a <;> by_cases h2 : z ∈ b <;> simp [h1, h2]
theorem mem_mi {a b : List Nat} (ha : asc a) (hb : asc b) (z : Nat) : z ∈ mi a b ↔ z ∈ a ∧ z ∉ b := by
  rw [mem_mg' ha hb]; by_cases h1 : z ∈ a <;> by_cases h2 : z ∈ b <;> simp [h1, h2]
theorem un_comm {a b : List Nat} (ha : asc a) (hb : asc b) : un a b = un b a :=
  asc_ext (asc_un ha hb) (asc_un hb ha) fun z => by rw [mem_un ha hb, mem_un hb ha, or_comm]
theorem me_comm {a b : List Nat} (ha : asc a) (hb : asc b) : me a b = me b a :=
  asc_ext (asc_me ha hb) (asc_me hb ha) fun z => by rw [mem_me ha hb, mem_me hb ha, and_comm]
theorem un_assoc {a b c : List Nat} (ha : asc a) (hb : asc b) (hc : asc c) : un (un a b) c = un a (un b c) :=
  asc_ext (asc_un (asc_un ha hb) hc) (asc_un ha (asc_un hb hc)) fun z => by rw [mem_un (asc_un ha hb) hc, mem_un ha hb, mem_un ha (asc_un hb hc), mem_un hb hc, or_assoc]
theorem me_assoc {a b c : List Nat} (ha : asc a) (hb : asc b) (hc : asc c) : me (me a b) c = me a (me b c) :=
  asc_ext (asc_me (asc_me ha hb) hc) (asc_me ha (asc_me hb hc)) fun z => by rw [mem_me (asc_me ha hb) hc, mem_me ha hb, mem_me ha (asc_me hb hc), mem_me hb hc, and_assoc]
theorem me_un {a b c : List Nat} (ha : asc a) (hb : asc b) (hc : asc c) : me a (un b c) = un (me a b) (me a c) :=
  asc_ext (asc_me ha (asc_un hb hc)) (asc_un (asc_me ha hb) (asc_me ha hc)) fun z => by rw [mem_me ha (asc_un hb hc), mem_un hb hc, mem_un (asc_me ha hb) (asc_me ha hc), mem_me ha hb, mem_me ha hc, and_or_left]
theorem sub_mi {a b : List Nat} (ha : asc a) (hb : asc b) : mi a b = [] ↔ ∀ z ∈ a, z ∈ b := by
  rw [List.eq_nil_iff_forall_not_mem]
  constructor
  · intro h z hz
    by_cases e : z ∈ b
    · exact e
    · exact absurd ((mem_mi ha hb z).2 ⟨hz, e⟩) (h z)
  · intro h z hz
    have := (mem_mi ha hb z).1 hz
    exact this.2 (h z this.1)
theorem sub_un {a b : List Nat} (ha : asc a) (hb : asc b) : un a b = b ↔ ∀ z ∈ a, z ∈ b := by
  constructor
  · intro h z hz; rw [← h]; exact (mem_un ha hb z).2 (.inl hz)
  · intro h; refine asc_ext (asc_un ha hb) hb fun z => ?_
    rw [mem_un ha hb]; exact ⟨fun h2 => h2.elim (h z) id, .inr⟩
theorem sub_me {a b : List Nat} (ha : asc a) (hb : asc b) : me a b = a ↔ ∀ z ∈ a, z ∈ b := by
  constructor
  · intro h z hz; rw [← h] at hz; exact ((mem_me ha hb z).1 hz).2
  · intro h; refine asc_ext (asc_me ha hb) ha fun z => ?_
    rw [mem_me ha hb]; exact ⟨fun h2 => h2.1, fun h2 => ⟨h2, h z h2⟩⟩
theorem mi_me {a b : List Nat} (ha : asc a) (hb : asc b) : un (mi a b) (me a b) = a :=
  asc_ext (asc_un (asc_mi ha hb) (asc_me ha hb)) ha fun z => by
    rw [mem_un (asc_mi ha hb) (asc_me ha hb), mem_mi ha hb, mem_me ha hb]
    by_cases h1 : z ∈ a <;> by_cases h2 : z ∈ b <;> simp [h1, h2]
theorem mi_none {a b : List Nat} (ha : asc a) (hb : asc b) : me (mi a b) b = [] := by
  rw [List.eq_nil_iff_forall_not_mem]
  intro z hz
  rw [mem_me (asc_mi ha hb) hb, mem_mi ha hb] at hz
  exact hz.1.2 hz.2
theorem mi_mi {a b : List Nat} (ha : asc a) (hb : asc b) : mi a (mi a b) = me a b :=
  asc_ext (asc_mi ha (asc_mi ha hb)) (asc_me ha hb) fun z => by
    rw [mem_mi ha (asc_mi ha hb), mem_mi ha hb, mem_me ha hb]
    by_cases h1 : z ∈ a <;> by_cases h2 : z ∈ b <;> simp [h1, h2]
theorem first_le (f b : Bool) : ∀ (k : Nat) (l m : List Nat), l.length + m.length ≤ k → (mg f b false l m).length ≤ l.length := by
  intro k
  induction k with
  | zero =>
    intro l m h
    obtain rfl : l = [] := List.eq_nil_of_length_eq_zero (by omega)
    obtain rfl : m = [] := List.eq_nil_of_length_eq_zero (by omega)
    rw [mg_nil]; simp
  | succ k ih =>
    intro l m h
    cases l with
    | nil => rw [mg_nil]; simp
    | cons x l =>
      cases m with
      | nil => rw [mg_nil2]; cases f <;> simp
      | cons y m =>
        simp only [List.length_cons] at h
        by_cases h1 : x < y
        · rw [mg_lt h1, List.length_append]
          have := ih l (y :: m) (by simp only [List.length_cons]; omega)
          simp only [List.length_cons] at *
          cases f <;> simp <;> omega
        · by_cases h2 : y < x
          · rw [mg_gt h2, List.length_append]
            have := ih (x :: l) m (by simp only [List.length_cons]; omega)
            simp only [List.length_cons] at *
            simp; omega
          · rw [mg_eq (by omega), List.length_append]
            have := ih l m (by omega)
            simp only [List.length_cons] at *
            cases b <;> simp <;> omega
theorem mi_le (a b : List Nat) : (mi a b).length ≤ a.length := first_le _ _ _ a b (Nat.le_refl _)
theorem me_le (a b : List Nat) : (me a b).length ≤ a.length := first_le _ _ _ a b (Nat.le_refl _)
/-- The reference puts scopes in one by one, and takes them out one by one. -/
theorem un_put {a b : List Nat} {n : Nat} {k : Nat} (ha : asc a) (hb : asc b) (hk : b[k]? = some n) : un (un a (b.take k)) [n] = un a (b.take (k + 1)) := by
  have h1 : asc (b.take k) := List.Pairwise.sublist (List.take_sublist ..) hb
  have h2 : asc (b.take (k + 1)) := List.Pairwise.sublist (List.take_sublist ..) hb
  refine asc_ext (asc_un (asc_un ha h1) (asc_one n)) (asc_un ha h2) fun z => ?_
  rw [mem_un (asc_un ha h1) (asc_one n), mem_un ha h1, mem_un ha h2, List.take_add_one, hk]
  simp [or_assoc]
theorem mi_cut {a b : List Nat} {n : Nat} {k : Nat} (ha : asc a) (hb : asc b) (hk : b[k]? = some n) : mi (mi a (b.take k)) [n] = mi a (b.take (k + 1)) := by
  have h1 : asc (b.take k) := List.Pairwise.sublist (List.take_sublist ..) hb
  have h2 : asc (b.take (k + 1)) := List.Pairwise.sublist (List.take_sublist ..) hb
  refine asc_ext (asc_mi (asc_mi ha h1) (asc_one n)) (asc_mi ha h2) fun z => ?_
  rw [mem_mi (asc_mi ha h1) (asc_one n), mem_mi ha h1, mem_mi ha h2, List.take_add_one, hk]
  simp only [List.mem_singleton, List.mem_append, Option.toList_some]
  by_cases h3 : z ∈ a <;> by_cases h4 : z = n <;> by_cases h5 : z ∈ b.take k <;> simp [h3, h4, h5]
theorem un_nil {a : List Nat} : un a [] = a := by rw [un, mg_nil2]; rfl
theorem mi_nil {a : List Nat} : mi a [] = a := by rw [mi, mg_nil2]; rfl
/-- Numbers that are no scopes. -/
def badOf (l : List Int) : Bool := l.any fun n => decide (n < 0) || decide (65535 < n)
def ofL (l : List Int) : List Nat := (List.range 65536).filter fun n => decide ((n : Int) ∈ l)
def ofS (l : List Int) : List UInt8 × Int := if badOf l then ([], 7) else if 10000 < (ofL l).length then ([], 3) else (setL (ofL l), 0)
theorem asc_range (n : Nat) : asc (List.range n) := List.pairwise_lt_range
theorem asc_of (l : List Int) : asc (ofL l) := List.Pairwise.filter _ (asc_range _)
theorem of_lt (l : List Int) : ∀ n ∈ ofL l, n < 65536 := fun n h => by
  have := (List.mem_filter.1 h).1; rwa [List.mem_range] at this
theorem bad_not {l : List Int} (h : badOf l = false) : ∀ n ∈ l, 0 ≤ n ∧ n ≤ 65535 := by
  intro n hn
  unfold badOf at h
  rw [List.any_eq_false] at h
  have := h n hn
  simp at this; omega
theorem bad_yes' {l : List Int} {n : Int} (hn : n ∈ l) (h : n < 0 ∨ 65535 < n) : badOf l = true := by
  unfold badOf; rw [List.any_eq_true]; exact ⟨n, hn, by simpa using h⟩
theorem bad_not' {l : List Int} (h : ∀ n ∈ l, 0 ≤ n ∧ n ≤ 65535) : badOf l = false := by
  unfold badOf; rw [List.any_eq_false]; intro n hn; have := h n hn; simp; omega
theorem mem_of {l : List Int} (h : badOf l = false) (z : Nat) : z ∈ ofL l ↔ (z : Int) ∈ l := by
  unfold ofL
  rw [List.mem_filter, List.mem_range, decide_eq_true_iff]
  exact ⟨fun h => h.2, fun h2 => ⟨by have := bad_not h _ h2; omega, h2⟩⟩
/-- Of of the scopes of a set is the set. -/
theorem of_ids {l : List Nat} (hl : asc l) (h : ∀ n ∈ l, n < 65536) : badOf (l.map fun n : Nat => (n : Int)) = false ∧ ofL (l.map fun n : Nat => (n : Int)) = l := by
  have hb : badOf (l.map fun n : Nat => (n : Int)) = false := bad_not' fun n hn => by
    obtain ⟨m, hm, rfl⟩ := List.mem_map.1 hn
    have := h m hm; omega
  refine ⟨hb, asc_ext (asc_of _) hl fun z => ?_⟩
  rw [mem_of hb, List.mem_map]
  exact ⟨fun ⟨m, hm, e⟩ => by have : m = z := by omega
                              rwa [← this], fun hz => ⟨z, hz, rfl⟩⟩
end Go.Proofs.YtdiinlmeoifgjaaGreatDoor

/- What sorting and compacting make of numbers (mathematics). -/
namespace Go.Proofs.YtdiinlmeoifgjaaGreatDoor

def leI (a b : Int) : Bool := decide (a ≤ b)
theorem sortI_asc (l : List Int) : (l.mergeSort leI).Pairwise (· ≤ ·) := by
  have := List.pairwise_mergeSort (le := leI) (fun a b c h1 h2 => by
    unfold leI at *; simp only [decide_eq_true_eq] at *; omega) (fun a b => by
    unfold leI; simp only [Bool.or_eq_true, decide_eq_true_eq]; omega) l
  exact this.imp fun h => by unfold leI at h; simpa using h
/-- The first m numbers of a row that ascends, each once. -/
theorem upToI {s : List Int} (h : s.Pairwise (· ≤ ·)) : ∀ m, m ≤ s.length → (Lib.compactUpTo s.toArray m).Pairwise (· < ·) ∧ ∀ x, x ∈ Lib.compactUpTo s.toArray m ↔ x ∈ s.take m := by
  intro m
  induction m with
  | zero => intro _; simp [Lib.compactUpTo]
  | succ m ih =>
    intro hm
    obtain ⟨h1, h2⟩ := ih (by omega)
    have hms : m < s.length := hm
    have hget : s.toArray[m]! = s[m] := by rw [getElem!_pos s.toArray m (by simpa using hms)]; simp
    have hle : ∀ j (hj : j < m), s[j] ≤ s[m] := fun j hj => List.pairwise_iff_getElem.1 h j m (by omega) hms hj
    rw [Lib.compactUpTo_succ, hget]
    have htk : s.take (m + 1) = s.take m ++ [s[m]] := List.take_succ_eq_append_getElem hms
    by_cases hk : Lib.keeps s.toArray m = true
    · rw [if_pos hk]
      refine ⟨List.pairwise_append.2 ⟨h1, by simp, fun x hx y hy => ?_⟩, fun x => by rw [List.mem_append, htk, List.mem_append, h2]⟩
      obtain rfl : y = s[m] := by simpa using hy
      obtain ⟨j, hj, rfl⟩ := List.mem_take_iff_getElem.1 ((h2 x).1 hx)
      have hjm : j < m := by omega
      unfold Lib.keeps at hk
      simp only [decide_eq_true_eq] at hk
      have hm0 : m ≠ 0 := by omega
      have hne : s[m] ≠ s[m - 1] := by
        rcases hk with e | e
        · exact absurd e hm0
        · rw [hget, getElem!_pos s.toArray (m - 1) (by simp; omega)] at e
          simpa using e
      have hp := hle (m - 1) (by omega)
      by_cases hjm1 : j = m - 1
      · subst hjm1; omega
      · have := List.pairwise_iff_getElem.1 h j (m - 1) (by omega) (by omega) (by omega)
        omega
    · rw [if_neg hk, List.append_nil]
      refine ⟨h1, fun x => ?_⟩
      rw [h2, htk, List.mem_append]
      refine ⟨.inl, ?_⟩
      rintro (e | e)
      · exact e
      · obtain rfl : x = s[m] := by simpa using e
        unfold Lib.keeps at hk
        simp only [decide_eq_true_eq, not_or, Decidable.not_not] at hk
        obtain ⟨k1, k2⟩ := hk
        rw [hget, getElem!_pos s.toArray (m - 1) (by simp; omega)] at k2
        refine List.mem_take_iff_getElem.2 ⟨m - 1, by omega, ?_⟩
        simpa using k2.symm
/-- Sorted and compacted: the numbers that are in the list, ascending. -/
theorem compact_of {l : List Int} (h : badOf l = false) : Lib.compact (l.mergeSort leI) = (ofL l).map fun n : Nat => (n : Int) := by
  obtain ⟨h1, h2⟩ := upToI (sortI_asc l) (l.mergeSort leI).length (Nat.le_refl _)
  rw [List.take_length] at h2
  have hm : ∀ x, x ∈ Lib.compact (l.mergeSort leI) ↔ x ∈ l := fun x => by
    unfold Lib.compact; rw [h2]; exact List.mem_mergeSort
  have hb : ∀ x ∈ Lib.compact (l.mergeSort leI), 0 ≤ x := fun x hx => (bad_not h x ((hm x).1 hx)).1
  have e1 : (Lib.compact (l.mergeSort leI)).map Int.toNat = ofL l := by
    refine asc_ext ?_ (asc_of l) fun z => ?_
    · unfold asc
      rw [List.pairwise_map]
      have h1' : (Lib.compact (l.mergeSort leI)).Pairwise (· < ·) := h1
      exact h1'.imp_of_mem fun {a b} ha hb' hab => by have := hb a ha; omega
    · rw [List.mem_map, mem_of h]
      constructor
      · rintro ⟨x, hx, rfl⟩
        have := hb x hx
        rw [Int.toNat_of_nonneg this]; exact (hm x).1 hx
      · intro hz; exact ⟨z, (hm z).2 hz, by simp⟩
  rw [← e1, List.map_map]
  conv => lhs; rw [← List.map_id (Lib.compact (l.mergeSort leI))]
  refine List.map_congr_left fun x hx => ?_
  have := hb x hx
  simp only [Function.comp, id]; omega
end Go.Proofs.YtdiinlmeoifgjaaGreatDoor

/- What the functions on sets answer (mathematics). -/
namespace Go.Proofs.YtdiinlmeoifgjaaGreatDoor

/-- The chosen scopes of two sets. -/
def outS (l : List Nat) : List UInt8 × Int := if 10000 < l.length then ([], 3) else (setL l, 0)
def twoE (A B : List UInt8) : Int := if chkE A ≠ 0 then chkE A else chkE B
def oneE (A : List UInt8) (n : Int) : Int := if chkE A ≠ 0 then chkE A else if n < 0 ∨ 65535 < n then 7 else 0
def mrgS (f b s : Bool) (A B : List UInt8) : List UInt8 × Int := if twoE A B ≠ 0 then ([], twoE A B) else outS (mg f b s (idsL A) (idsL B))
def oneS (f b s : Bool) (A : List UInt8) (n : Int) : List UInt8 × Int := if oneE A n ≠ 0 then ([], oneE A n) else outS (mg f b s (idsL A) [n.toNat])
def hasS (A : List UInt8) (n : Int) : Bool × Int := (decide (oneE A n = 0 ∧ n.toNat ∈ idsL A), oneE A n)
def subS (A B : List UInt8) : Bool × Int := (decide (twoE A B = 0 ∧ ∀ z ∈ idsL A, z ∈ idsL B), twoE A B)
def relS (A B : List UInt8) : Int × Int := if twoE A B ≠ 0 then (0, twoE A B) else if A = B then (0, 0) else if (subS A B).1 then (1, 0) else if (subS B A).1 then (2, 0) else (3, 0)
theorem twoE_ok {A B : List UInt8} (h : twoE A B = 0) : chkE A = 0 ∧ chkE B = 0 := by
  unfold twoE at h
  by_cases h1 : chkE A = 0
  · rw [if_neg (by simpa using h1)] at h; exact ⟨h1, h⟩
  · rw [if_pos h1] at h; exact absurd h h1
theorem twoE_set {A B : List UInt8} (h1 : chkE A = 0) (h2 : chkE B = 0) : twoE A B = 0 := by unfold twoE; rw [if_neg (by simpa using h1), h2]
theorem twoE_no1 {A B : List UInt8} (h : chkE A ≠ 0) : twoE A B = chkE A := by unfold twoE; rw [if_pos h]
theorem twoE_no2 {A B : List UInt8} (h : chkE A = 0) : twoE A B = chkE B := by unfold twoE; rw [if_neg (by simpa using h)]
theorem oneE_ok {A : List UInt8} {n : Int} (h : oneE A n = 0) : chkE A = 0 ∧ 0 ≤ n ∧ n ≤ 65535 := by
  unfold oneE at h
  by_cases h1 : chkE A = 0
  · rw [if_neg (by simpa using h1)] at h
    split at h
    · cases h
    · rename_i h2; exact ⟨h1, by omega, by omega⟩
  · rw [if_pos h1] at h; exact absurd h h1
theorem oneE_set {A : List UInt8} {n : Int} (h1 : chkE A = 0) (h2 : 0 ≤ n ∧ n ≤ 65535) : oneE A n = 0 := by
  unfold oneE; rw [if_neg (by simpa using h1), if_neg (by omega)]
theorem oneE_no1 {A : List UInt8} {n : Int} (h : chkE A ≠ 0) : oneE A n = chkE A := by unfold oneE; rw [if_pos h]
theorem oneE_no2 {A : List UInt8} {n : Int} (h : chkE A = 0) (h2 : n < 0 ∨ 65535 < n) : oneE A n = 7 := by unfold oneE; rw [if_neg (by simpa using h), if_pos h2]
theorem mrg_no {f b s : Bool} {A B : List UInt8} (h : twoE A B ≠ 0) : mrgS f b s A B = ([], twoE A B) := by unfold mrgS; rw [if_pos h]
theorem one_no {f b s : Bool} {A : List UInt8} {n : Int} (h : oneE A n ≠ 0) : oneS f b s A n = ([], oneE A n) := by unfold oneS; rw [if_pos h]
theorem mrg_yes {f b s : Bool} {A B : List UInt8} (h : twoE A B = 0) : mrgS f b s A B = outS (mg f b s (idsL A) (idsL B)) := by unfold mrgS; rw [if_neg (by simpa using h)]
theorem one_yes {f b s : Bool} {A : List UInt8} {n : Int} (h : oneE A n = 0) : oneS f b s A n = outS (mg f b s (idsL A) [n.toNat]) := by unfold oneS; rw [if_neg (by simpa using h)]
theorem out_ok {l : List Nat} (h : l.length ≤ 10000) : outS l = (setL l, 0) := by unfold outS; rw [if_neg (by omega)]
theorem out_no {l : List Nat} (h : 10000 < l.length) : outS l = ([], 3) := by unfold outS; rw [if_pos h]
/-- Sets that are given as their scopes. -/
structure SetOf (l : List Nat) : Prop where
  up : asc l
  lt : ∀ n ∈ l, n < 65536
  few : l.length ≤ 10000
theorem SetOf.chk {l : List Nat} (h : SetOf l) : chkE (setL l) = 0 := by rw [chkE_set h.up h.lt, if_neg (by have := h.few; omega)]
theorem SetOf.ids {l : List Nat} (h : SetOf l) : idsL (setL l) = l := ids_set l h.lt
theorem set_of {A : List UInt8} (h : chkE A = 0) : ∃ l, A = setL l ∧ SetOf l := by
  obtain ⟨l, h1, h2, h3, h4⟩ := chkE_ok h
  exact ⟨l, h1, h2, h3, h4⟩
theorem SetOf.mg {f b s : Bool} {l m : List Nat} (hl : SetOf l) (hm : SetOf m) (h : (mg f b s l m).length ≤ 10000) : SetOf (mg f b s l m) :=
  ⟨asc_mg' hl.up hm.up, mg_lt64 hl.up hm.up hl.lt hm.lt, h⟩
theorem SetOf.one {n : Nat} (h : n < 65536) : SetOf [n] := ⟨asc_one n, by simpa using h, by simp⟩
theorem SetOf.nil : SetOf [] := ⟨asc_nil, by simp, by simp⟩
theorem mrg_set {f b s : Bool} {l m : List Nat} (hl : SetOf l) (hm : SetOf m) : mrgS f b s (setL l) (setL m) = outS (mg f b s l m) := by
  rw [mrg_yes (twoE_set hl.chk hm.chk), hl.ids, hm.ids]
theorem one_set {f b s : Bool} {l : List Nat} {n : Nat} (hl : SetOf l) (h : n < 65536) : oneS f b s (setL l) (n : Int) = outS (mg f b s l [n]) := by
  rw [one_yes (oneE_set hl.chk (by omega)), hl.ids, Int.toNat_natCast]
theorem sub_set {l m : List Nat} (hl : SetOf l) (hm : SetOf m) : subS (setL l) (setL m) = (decide (∀ z ∈ l, z ∈ m), 0) := by
  unfold subS; rw [twoE_set hl.chk hm.chk, hl.ids, hm.ids]; simp
theorem has_set {l : List Nat} {n : Nat} (hl : SetOf l) (h : n < 65536) : hasS (setL l) (n : Int) = (decide (n ∈ l), 0) := by
  unfold hasS; rw [oneE_set hl.chk (by omega), hl.ids, Int.toNat_natCast]; simp
theorem set_nil {l : List Nat} : setL l = [] ↔ l = [] := by cases l <;> simp [setL]
theorem set_eq {l m : List Nat} (hl : SetOf l) (hm : SetOf m) : setL l = setL m ↔ l = m := set_inj hl.lt hm.lt
end Go.Proofs.YtdiinlmeoifgjaaGreatDoor
