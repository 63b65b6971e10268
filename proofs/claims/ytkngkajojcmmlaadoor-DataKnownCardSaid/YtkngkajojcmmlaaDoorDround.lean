/- The law DataRound: mathematics. -/
import Derived.Test.YtkngkajojcmmlaaDoorDat
import Derived.Test.YtkngkajojcmmlaaDoorDlist
import Derived.Test.YtkngkajojcmmlaaDoorDputs
namespace Go.Proofs.YtkngkajojcmmlaaDoor
open Go.RowKit Go.PlainAid

theorem okN_shallow {sy : List UInt8 → Bool} {x : Nd} {d d' : Int} (h : ndE sy x d = 0) (hd : d' ≤ d) : ndE sy x d' = 0 := by
  unfold ndE nodeE at *
  split at h
  · cases h
  · rename_i h1
    rw [if_neg h1]
    split at h
    · cases h
    · rename_i h2
      rw [if_neg (by omega)]; exact h
/-- What is popped within a subtree. -/
theorem popZ_app (s r : List Nat) : popZ (s ++ r) = if popZ s = [] then popZ r else popZ s ++ r := by
  induction s with
  | nil => rfl
  | cons a s ih =>
    by_cases h : a = 0
    · subst h
      have e1 : popZ (0 :: s) = popZ s := rfl
      have e2 : popZ (0 :: s ++ r) = popZ (s ++ r) := rfl
      rw [e1, e2]; exact ih
    · have e : ∀ l : List Nat, popZ (a :: l) = a :: l := fun l => by unfold popZ; rw [List.dropWhile_cons, if_neg (by simpa using h)]
      rw [List.cons_append, e, e, if_neg (by simp)]; rfl
/-- A walk that goes on behind a subtree, and the walk of this subtree alone (σ: what the subtree misses; it stands on r, or alone on a zero). -/
theorem chkGo_sub {sy : List UInt8 → Bool} : ∀ (s rest : List Nd) (σ r : List Nat) (i k : Nat), r ≠ [] → stackN (popZ (σ ++ [0])) (kidsL s) = some [] → (chkGo (ndE sy) (popZ (σ ++ r)) i (s ++ rest)).2 = 0 → chkGo (ndE sy) (popZ (σ ++ [0])) k s = (0, 0) := by
  intro s
  induction s with
  | nil =>
    intro rest σ r i k _ h _
    have h' : popZ (σ ++ [0]) = [] := Option.some.inj h
    rw [h', chkGo, if_pos rfl]
  | cons x s ih =>
    intro rest σ r i k hr h hg
    rw [popZ_app] at h hg ⊢
    split at h
    · cases h
    · rename_i hs
      rw [if_neg hs] at hg ⊢
      cases hp : popZ σ with
      | nil => exact absurd hp hs
      | cons b τ =>
        rw [hp] at h hg
        have h' : stackN (popZ ((x.2.1.toNat :: (b - 1) :: τ) ++ [0])) (kidsL s) = some [] := h
        have hg' : (chkGo (ndE sy) (b :: (τ ++ r)) i (x :: (s ++ rest))).2 = 0 := hg
        rw [chkGo, if_neg (by simp)] at hg'
        split at hg'
        · rename_i hE; exact absurd hg' hE
        · rename_i hE
          have hE0 : ndE sy x ((((b :: τ) ++ r).length : Int) - 1) = 0 := Decidable.not_not.1 hE
          have hrl := List.length_pos_iff.2 hr
          have hE1 : ndE sy x ((((b :: τ) ++ [0]).length : Int) - 1) = 0 := okN_shallow hE0 (by rw [List.length_append, List.length_append]; simp only [List.length_cons, List.length_nil]; omega)
          rw [chkGo, if_neg (by simp), if_neg (by rw [hE1]; simp)]
          exact ih rest (x.2.1.toNat :: (b - 1) :: τ) r (i + 1) (k + 1) hr h' hg'
/-- A walk as far as some nodes. -/
theorem chkGo_at {sy : List UInt8 → Bool} : ∀ (p rest : List Nd) (st : List Nat) (i : Nat), rest ≠ [] → topN st → (chkGo (ndE sy) st i (p ++ rest)).2 = 0 → ∃ st' i', topN st' ∧ st' ≠ [] ∧ (chkGo (ndE sy) st' i' rest).2 = 0 := by
  intro p
  induction p with
  | nil =>
    intro rest st i hr ht h
    refine ⟨st, i, ht, ?_, h⟩
    rintro rfl
    cases rest with
    | nil => exact hr rfl
    | cons y s => rw [List.nil_append, chkGo, if_pos rfl] at h; cases h
  | cons x p ih =>
    intro rest st i hr ht h
    rw [List.cons_append, chkGo] at h
    split at h
    · cases h
    · split at h
      · rename_i hE; exact absurd h hE
      · exact ih rest _ _ hr (pushN_top _ _) h
/-- A datum's subtree is a datum. -/
theorem chk_sub {sy : List UInt8 → Bool} {t : List Nd} (h : (chkT sy t).2 = 0) {i : Nat} (hi : i < t.length) : (chkT sy (subS t i)).2 = 0 ∧ t = t.take i ++ (subS t i ++ t.drop (endN (kidsL t) i)) := by
  obtain ⟨t1, t2, t3, t4, t5⟩ := chkT_ok h
  obtain ⟨e1, e2⟩ := t1.end_bd (p := i) (by rw [kidsL_len]; exact hi)
  obtain ⟨s1, s2⟩ := t1.sub (i := i) (by rw [kidsL_len]; exact hi)
  obtain ⟨q, hq⟩ : ∃ q, endN (kidsL t) i = q := ⟨_, rfl⟩
  rw [kidsL_len] at e2
  rw [hq] at e1 e2 s1
  have hsplit : t = t.take i ++ (subS t i ++ t.drop q) := by
    unfold subS
    rw [hq, List.drop_take]
    have h1 : t.drop q = (t.drop i).drop (q - i) := by rw [List.drop_drop, show i + (q - i) = q by omega]
    rw [h1, List.take_append_drop, List.take_append_drop]
  have hks : Tr (kidsL (subS t i)) := by unfold subS; rw [hq, kidsL_drop, kidsL_take]; exact s1
  have hsl : (subS t i).length = q - i := subS_len hq e2
  have hne : subS t i ≠ [] := by intro e; rw [e] at hsl; simp at hsl; omega
  rw [hq]
  refine ⟨?_, hsplit⟩
  have h4 : chkT sy t = chkGo (ndE sy) [1] 0 t := by unfold chkT chkD; rw [if_neg t2, if_neg (by omega)]
  rw [h4, hsplit] at h
  obtain ⟨st, i', g1, g2, g3⟩ := chkGo_at (t.take i) (subS t i ++ t.drop q) [1] 0 (by simp [hne]) (by intro a ha; cases ha; decide) h
  have htop : topN [1] := by intro a ha; cases ha; decide
  have hst := (stack_eat (kidsL (subS t i)) [1] htop).2 hks
  unfold chkT chkD
  rw [if_neg hne, if_neg (by omega)]
  cases hss : subS t i with
  | nil => exact absurd hss hne
  | cons x s =>
    rw [hss] at g3 hst
    cases st with
    | nil => exact absurd rfl g2
    | cons a r =>
      have h' : stackN (popZ ([x.2.1.toNat] ++ [0])) (kidsL s) = some [] := hst
      rw [List.cons_append, chkGo, if_neg (by simp)] at g3
      split at g3
      · rename_i hE; exact absurd g3 hE
      · rename_i hE
        have hE0 : ndE sy x (((a :: r).length : Int) - 1) = 0 := Decidable.not_not.1 hE
        have hE1 : ndE sy x ((([1] : List Nat).length : Int) - 1) = 0 := okN_shallow hE0 (by simp only [List.length_cons, List.length_nil]; omega)
        rw [chkGo, if_neg (by simp), if_neg (by rw [hE1]; simp)]
        exact congrArg Prod.snd (chkGo_sub s (t.drop q) [x.2.1.toNat] ((a - 1) :: r) (i' + 1) 1 (by simp) h' g3)
theorem em_nil {s : List UInt8} (h : emB s = true) : s = [] := by
  unfold emB at h
  rw [beq_iff_eq] at h
  cases s with
  | nil => rfl
  | cons a s => have := congrArg List.length h; simp [str] at this
/-- A subtree is a node, and the subtrees of its children. -/
def partsN (t : List Nd) (i m : Nat) : List (List Nd) := (List.range m).map fun k => subS t (posK (kidsL t) i k)
theorem partsN_succ (t : List Nd) (i m : Nat) : partsN t i (m + 1) = partsN t i m ++ [subS t (posK (kidsL t) i m)] := by
  unfold partsN; rw [List.range_succ, List.map_append]; rfl
theorem partsN_len (t : List Nd) (i m : Nat) : (partsN t i m).length = m := by unfold partsN; rw [List.length_map, List.length_range]
theorem partsN_flat {t : List Nd} (hT : Tr (kidsL t)) {i : Nat} (hi : i < t.length) : ∀ m, m ≤ cnt (kidsL t) i → (partsN t i m).flatten = (t.take (posK (kidsL t) i m)).drop (i + 1) := by
  have hil : i < (kidsL t).length := by rw [kidsL_len]; exact hi
  intro m
  induction m with
  | zero => intro _; rw [posK_start hil, List.drop_of_length_le (by rw [List.length_take]; omega)]; rfl
  | succ m ih =>
    intro hm
    obtain ⟨p1, p2, p3⟩ := hT.pos_step hil (k := m) (by omega)
    have p4 := hT.pos_next hil (k := m) (by omega)
    have p5 := (hT.end_bd p2).2
    rw [p3, kidsL_len] at p5
    rw [partsN_succ, List.flatten_append, ih (by omega), List.flatten_singleton]
    unfold subS
    rw [p3]
    obtain ⟨a, ha⟩ : ∃ a, posK (kidsL t) i m = a := ⟨_, rfl⟩
    obtain ⟨b, hb⟩ : ∃ b, posK (kidsL t) i (m + 1) = b := ⟨_, rfl⟩
    rw [ha] at p1 p4 ⊢
    rw [hb] at p4 p5 ⊢
    have h1 : t.take b = t.take a ++ (t.take b).drop a := by
      have := (List.take_append_drop a (t.take b)).symm
      rw [List.take_take, Nat.min_eq_left (Nat.le_of_lt p4)] at this; exact this
    conv => rhs; rw [h1]
    rw [List.drop_append_of_le_length (by rw [List.length_take]; omega)]
theorem subS_list {t : List Nd} (hc : (chkT symS t).2 = 0) {i : Nat} {x : Nd} (hx : t[i]? = some x) (h4 : x.1 = 4) : subS t i = listS (partsN t i (cnt (kidsL t) i)) := by
  obtain ⟨t1, t2, t3, t4, t5⟩ := chkT_ok hc
  obtain ⟨hi, hxe⟩ := List.getElem?_eq_some_iff.1 hx
  have hil : i < (kidsL t).length := by rw [kidsL_len]; exact hi
  obtain ⟨e1, e2⟩ := t1.end_bd hil
  rw [kidsL_len] at e2
  have hk0 := chkT_kids hc x (List.mem_of_getElem? hx)
  have hcnt : cnt (kidsL t) i = x.2.1.toNat := cnt_of (by unfold kidsL; rw [List.getElem?_map, hx]; rfl)
  have hok := (t4 x (List.mem_of_getElem? hx)).1
  rw [h4, kind_4] at hok
  simp only [Bool.and_eq_true, decide_eq_true_eq] at hok
  unfold listS
  rw [partsN_flat t1 hi _ (Nat.le_refl _), t1.pos_end hil, partsN_len, hcnt]
  unfold subS
  obtain ⟨q, hq⟩ : ∃ q, endN (kidsL t) i = q := ⟨_, rfl⟩
  rw [hq] at e1 e2 ⊢
  have hgi : (t.take q)[i]? = some x := by rw [List.getElem?_take, if_pos e1, hx]
  obtain ⟨hil2, hxe2⟩ := List.getElem?_eq_some_iff.1 hgi
  rw [List.drop_eq_getElem_cons hil2, hxe2]
  congr 1
  obtain ⟨k, c, n, s⟩ := x
  have hs : s = [] := em_nil hok.2
  obtain rfl : k = 4 := h4
  have hn : n = 0 := hok.1.2
  subst hs
  subst hn
  show _ = ((4 : Int), ((c.toNat : Nat) : Int), (0 : Int), ([] : List UInt8))
  rw [Int.toNat_of_nonneg hk0]
end Go.Proofs.YtkngkajojcmmlaaDoor
