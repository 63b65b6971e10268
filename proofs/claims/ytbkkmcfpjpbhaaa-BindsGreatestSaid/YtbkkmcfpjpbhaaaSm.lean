/- Sets of scopes as bytes (mathematics). -/
import Derived.Test.YtbkkmcfpjpbhaaaList
namespace Go.Proofs.Ytbkkmcfpjpbhaaa

/-- The numbers of pairs of bytes. -/
def idsL : List UInt8 → List Nat
  | a :: b :: t => (256 * a.toNat + b.toNat) :: idsL t
  | _ => []
def hiB (n : Nat) : UInt8 := UInt8.ofNat (n / 256)
def loB (n : Nat) : UInt8 := UInt8.ofNat (n % 256)
def setL : List Nat → List UInt8
  | [] => []
  | n :: t => hiB n :: loB n :: setL t
theorem setL_len : ∀ l : List Nat, (setL l).length = 2 * l.length
  | [] => rfl
  | n :: t => by rw [setL, List.length_cons, List.length_cons, setL_len t, List.length_cons]; omega
theorem setL_app : ∀ a b : List Nat, setL (a ++ b) = setL a ++ setL b
  | [], _ => rfl
  | n :: t, b => by rw [List.cons_append, setL, setL_app t b, setL]; rfl
theorem hi_nat {n : Nat} (h : n < 65536) : (hiB n).toNat = n / 256 := by
  unfold hiB; rw [UInt8.toNat_ofNat']; omega
theorem lo_nat (n : Nat) : (loB n).toNat = n % 256 := by
  unfold loB; rw [UInt8.toNat_ofNat']; omega
theorem num_of (a b : UInt8) : hiB (256 * a.toNat + b.toNat) = a ∧ loB (256 * a.toNat + b.toNat) = b := by
  have ha := a.toNat_lt
  have hb := b.toNat_lt
  constructor
  · apply UInt8.toNat.inj; rw [hi_nat (by omega)]; omega
  · apply UInt8.toNat.inj; rw [lo_nat]; omega
theorem ids_set : ∀ l : List Nat, (∀ n ∈ l, n < 65536) → idsL (setL l) = l
  | [], _ => rfl
  | n :: t, h => by
    have hn := h n (List.mem_cons_self ..)
    rw [setL, idsL, ids_set t fun x hx => h x (List.mem_cons_of_mem _ hx), hi_nat hn, lo_nat]
    congr 1; omega
theorem set_ids : ∀ s : List UInt8, s.length % 2 = 0 → setL (idsL s) = s
  | [], _ => rfl
  | [_], h => by simp at h
  | a :: b :: t, h => by
    rw [idsL, setL, (num_of a b).1, (num_of a b).2, set_ids t (by simp at h ⊢; omega)]
theorem ids_lt : ∀ (s : List UInt8), ∀ n ∈ idsL s, n < 65536
  | [], n, h => by cases h
  | [_], n, h => by cases h
  | a :: b :: t, n, h => by
    rw [idsL] at h
    rcases List.mem_cons.1 h with rfl | h
    · have ha := a.toNat_lt; have hb := b.toNat_lt; omega
    · exact ids_lt t n h
theorem ids_len : ∀ (s : List UInt8), (idsL s).length = s.length / 2
  | [] => rfl
  | [_] => by simp [idsL]
  | a :: b :: t => by rw [idsL, List.length_cons, ids_len t]; simp only [List.length_cons]; omega
/-- The scopes ascend, each once. -/
def asc (l : List Nat) : Prop := l.Pairwise (· < ·)
instance (l : List Nat) : Decidable (asc l) := by unfold asc; infer_instance
theorem asc_nil : asc [] := List.Pairwise.nil
theorem asc_one (n : Nat) : asc [n] := List.pairwise_singleton _ _
theorem asc_cons {n : Nat} {l : List Nat} : asc (n :: l) ↔ (∀ x ∈ l, n < x) ∧ asc l := List.pairwise_cons
/-- Two ascending lists with the same members are the same. -/
theorem asc_ext : ∀ {l m : List Nat}, asc l → asc m → (∀ z, z ∈ l ↔ z ∈ m) → l = m
  | [], [], _, _, _ => rfl
  | [], y :: m, _, _, h => absurd ((h y).2 (List.mem_cons_self ..)) (by simp)
  | x :: l, [], _, _, h => absurd ((h x).1 (List.mem_cons_self ..)) (by simp)
  | x :: l, y :: m, hl, hm, h => by
    obtain ⟨l1, l2⟩ := asc_cons.1 hl
    obtain ⟨m1, m2⟩ := asc_cons.1 hm
    have hx := (h x).1 (List.mem_cons_self ..)
    have hy := (h y).2 (List.mem_cons_self ..)
    have e : x = y := by
      rcases List.mem_cons.1 hx with e | hx
      · exact e
      rcases List.mem_cons.1 hy with e | hy
      · exact e.symm
      have := l1 y hy; have := m1 x hx; omega
    subst e
    congr 1
    refine asc_ext l2 m2 fun z => ?_
    have hz := h z
    simp only [List.mem_cons] at hz
    constructor
    · intro hzl
      rcases hz.1 (.inr hzl) with rfl | h
      · exact absurd (l1 z hzl) (Nat.lt_irrefl _)
      · exact h
    · intro hzm
      rcases hz.2 (.inr hzm) with rfl | h
      · exact absurd (m1 z hzm) (Nat.lt_irrefl _)
      · exact h
/-- The chosen scopes of two lists: those of the first alone, of both, of the second alone. -/
def mg (f b s : Bool) : List Nat → List Nat → List Nat
  | [], m => if s then m else []
  | x :: l, [] => if f then x :: l else []
  | x :: l, y :: m =>
    if x < y then (if f then x :: mg f b s l (y :: m) else mg f b s l (y :: m))
    else if y < x then (if s then y :: mg f b s (x :: l) m else mg f b s (x :: l) m)
    else (if b then x :: mg f b s l m else mg f b s l m)
termination_by l m => l.length + m.length
theorem mg_nil (f b s : Bool) (m : List Nat) : mg f b s [] m = if s then m else [] := by rw [mg]
theorem mg_nil2 (f b s : Bool) (l : List Nat) : mg f b s l [] = if f then l else [] := by
  cases l with
  | nil => rw [mg]; cases s <;> cases f <;> rfl
  | cons x l => rw [mg]
theorem mg_lt {f b s : Bool} {x y : Nat} {l m : List Nat} (h : x < y) : mg f b s (x :: l) (y :: m) = (if f then [x] else []) ++ mg f b s l (y :: m) := by
  rw [mg, if_pos h]; cases f <;> rfl
theorem mg_gt {f b s : Bool} {x y : Nat} {l m : List Nat} (h : y < x) : mg f b s (x :: l) (y :: m) = (if s then [y] else []) ++ mg f b s (x :: l) m := by
  rw [mg, if_neg (by omega), if_pos h]; cases s <;> rfl
theorem mg_eq {f b s : Bool} {x y : Nat} {l m : List Nat} (h : x = y) : mg f b s (x :: l) (y :: m) = (if b then [x] else []) ++ mg f b s l m := by
  rw [mg, if_neg (by omega), if_neg (by omega)]; cases b <;> rfl
theorem mem_mg (f b s : Bool) : ∀ (k : Nat) (l m : List Nat), l.length + m.length ≤ k → asc l → asc m → ∀ z, (z ∈ mg f b s l m ↔ (z ∈ l ∧ z ∉ m ∧ f = true) ∨ (z ∈ l ∧ z ∈ m ∧ b = true) ∨ (z ∉ l ∧ z ∈ m ∧ s = true)) := by
  intro k
  induction k with
  | zero =>
    intro l m h _ _ z
    obtain rfl : l = [] := List.eq_nil_of_length_eq_zero (by omega)
    obtain rfl : m = [] := List.eq_nil_of_length_eq_zero (by omega)
    rw [mg_nil]; cases s <;> simp
  | succ k ih =>
    intro l m h hl hm z
    cases l with
    | nil => rw [mg_nil]; cases s <;> simp
    | cons x l =>
      cases m with
      | nil => rw [mg_nil2]; cases f <;> simp
      | cons y m =>
        obtain ⟨l1, l2⟩ := asc_cons.1 hl
        obtain ⟨m1, m2⟩ := asc_cons.1 hm
        simp only [List.length_cons] at h
        have hxl : z ∈ l → x < z := l1 z
        have hym : z ∈ m → y < z := m1 z
        by_cases h1 : x < y
        · rw [mg_lt h1, List.mem_append, ih l (y :: m) (by simp only [List.length_cons]; omega) l2 hm z]
          by_cases hz : z = x
          · subst hz
            have n1 : z ∉ l := fun h => Nat.lt_irrefl _ (hxl h)
            have n2 : z ≠ y := by omega
            have n3 : z ∉ m := fun h => by have := hym h; omega
            cases f <;> simp [n1, n2, n3]
          · cases f <;> simp [hz]
        · by_cases h2 : y < x
          · rw [mg_gt h2, List.mem_append, ih (x :: l) m (by simp only [List.length_cons]; omega) hl m2 z]
            by_cases hz : z = y
            · subst hz
              have n1 : z ∉ l := fun h => by have := hxl h; omega
              have n2 : z ≠ x := by omega
              have n3 : z ∉ m := fun h => Nat.lt_irrefl _ (hym h)
              cases s <;> simp [n1, n2, n3]
            · cases s <;> simp [hz]
          · have e : x = y := by omega
            subst e
            rw [mg_eq rfl, List.mem_append, ih l m (by omega) l2 m2 z]
            by_cases hz : z = x
            · subst hz
              have n1 : z ∉ l := fun h => Nat.lt_irrefl _ (hxl h)
              have n3 : z ∉ m := fun h => Nat.lt_irrefl _ (hym h)
              cases b <;> simp [n1, n3]
            · cases b <;> simp [hz]
theorem mem_mg' {f b s : Bool} {l m : List Nat} (hl : asc l) (hm : asc m) (z : Nat) : z ∈ mg f b s l m ↔ (z ∈ l ∧ z ∉ m ∧ f = true) ∨ (z ∈ l ∧ z ∈ m ∧ b = true) ∨ (z ∉ l ∧ z ∈ m ∧ s = true) := mem_mg f b s _ l m (Nat.le_refl _) hl hm z
theorem asc_mg (f b s : Bool) : ∀ (k : Nat) (l m : List Nat), l.length + m.length ≤ k → asc l → asc m → asc (mg f b s l m) := by
  intro k
  induction k with
  | zero =>
    intro l m h _ _
    obtain rfl : l = [] := List.eq_nil_of_length_eq_zero (by omega)
    obtain rfl : m = [] := List.eq_nil_of_length_eq_zero (by omega)
    rw [mg_nil]; cases s <;> exact asc_nil
  | succ k ih =>
    intro l m h hl hm
    cases l with
    | nil => rw [mg_nil]; cases s <;> simp [hm, asc_nil]
    | cons x l =>
      cases m with
      | nil => rw [mg_nil2]; cases f <;> simp [hl, asc_nil]
      | cons y m =>
        obtain ⟨l1, l2⟩ := asc_cons.1 hl
        obtain ⟨m1, m2⟩ := asc_cons.1 hm
        simp only [List.length_cons] at h
        by_cases h1 : x < y
        · have hi := ih l (y :: m) (by simp only [List.length_cons]; omega) l2 hm
          rw [mg_lt h1]
          cases f with
          | false => exact hi
          | true =>
            refine asc_cons.2 ⟨fun z hz => ?_, hi⟩
            rcases (mem_mg' l2 hm z).1 hz with h | h | h
            · exact l1 z h.1
            · exact l1 z h.1
            · rcases List.mem_cons.1 h.2.1 with rfl | h
              · exact h1
              · have := m1 z h; omega
        · by_cases h2 : y < x
          · have hi := ih (x :: l) m (by simp only [List.length_cons]; omega) hl m2
            rw [mg_gt h2]
            cases s with
            | false => exact hi
            | true =>
              refine asc_cons.2 ⟨fun z hz => ?_, hi⟩
              rcases (mem_mg' hl m2 z).1 hz with h | h | h
              · rcases List.mem_cons.1 h.1 with rfl | h
                · exact h2
                · have := l1 z h; omega
              · exact m1 z h.2.1
              · exact m1 z h.2.1
          · have e : x = y := by omega
            subst e
            have hi := ih l m (by omega) l2 m2
            rw [mg_eq rfl]
            cases b with
            | false => exact hi
            | true =>
              refine asc_cons.2 ⟨fun z hz => ?_, hi⟩
              rcases (mem_mg' l2 m2 z).1 hz with h | h | h
              · exact l1 z h.1
              · exact l1 z h.1
              · exact m1 z h.2.1
theorem asc_mg' {f b s : Bool} {l m : List Nat} (hl : asc l) (hm : asc m) : asc (mg f b s l m) := asc_mg f b s _ l m (Nat.le_refl _) hl hm
theorem mg_len (f b s : Bool) : ∀ (k : Nat) (l m : List Nat), l.length + m.length ≤ k → (mg f b s l m).length ≤ l.length + m.length := by
  intro k
  induction k with
  | zero =>
    intro l m h
    obtain rfl : l = [] := List.eq_nil_of_length_eq_zero (by omega)
    obtain rfl : m = [] := List.eq_nil_of_length_eq_zero (by omega)
    rw [mg_nil]; cases s <;> simp
  | succ k ih =>
    intro l m h
    cases l with
    | nil => rw [mg_nil]; cases s <;> simp
    | cons x l =>
      cases m with
      | nil => rw [mg_nil2]; cases f <;> simp
      | cons y m =>
        simp only [List.length_cons] at h
        by_cases h1 : x < y
        · rw [mg_lt h1, List.length_append]
          have := ih l (y :: m) (by simp only [List.length_cons]; omega)
          simp only [List.length_cons] at *
          cases f <;> simp <;> omega
        · by_cases h2 : y < x
          · rw [mg_gt h2, List.length_append]
            have := ih (x :: l) m (by simp only [List.length_cons]; omega)
            simp only [List.length_cons] at *
            cases s <;> simp <;> omega
          · rw [mg_eq (by omega), List.length_append]
            have := ih l m (by omega)
            simp only [List.length_cons] at *
            cases b <;> simp <;> omega
theorem mg_len' (f b s : Bool) (l m : List Nat) : (mg f b s l m).length ≤ l.length + m.length := mg_len f b s _ l m (Nat.le_refl _)
theorem mg_lt64 {f b s : Bool} {l m : List Nat} (hl : asc l) (hm : asc m) (h1 : ∀ n ∈ l, n < 65536) (h2 : ∀ n ∈ m, n < 65536) : ∀ n ∈ mg f b s l m, n < 65536 := by
  intro n hn
  rcases (mem_mg' hl hm n).1 hn with h | h | h
  · exact h1 n h.1
  · exact h1 n h.1
  · exact h2 n h.2.1
end Go.Proofs.Ytbkkmcfpjpbhaaa
