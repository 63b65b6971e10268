import Derived.Test.YtdiinlmeoifgjaaGreatDoorRref5
import Derived.Lib.Strings
import Derived.Test.YtdiinlmeoifgjaaGreatDoorProg
import Derived.BigGuardPart
import Derived.Handy
import Derived.RangeFuncRecord
import Derived.BigQuiet
import Derived.Deep.AppendLies
import Derived.Deep.LoopGhost
import Derived.Deep.RegionHeld3
import Derived.Laws.OwnMore
/- Flat trees: mathematics. A flat tree is a list of numbers of children, parents first. -/
namespace Go.Proofs.YtdiinlmeoifgjaaGreatDoor

/-- What is left behind m subtrees. -/
def eat : List Nat → Nat → Option (List Nat)
  | l, 0 => some l
  | [], _ + 1 => none
  | k :: l, m + 1 => eat l (k + m)
theorem eat_zero (l : List Nat) : eat l 0 = some l := by cases l <;> rfl
theorem eat_nil (m : Nat) : eat [] (m + 1) = none := rfl
theorem eat_cons (k : Nat) (l : List Nat) (m : Nat) : eat (k :: l) (m + 1) = eat l (k + m) := rfl
theorem eat_add : ∀ (l : List Nat) (a b : Nat), eat l (a + b) = (eat l a).bind fun r => eat r b := by
  intro l
  induction l with
  | nil =>
    intro a b
    cases a with
    | zero => rw [Nat.zero_add, eat_zero]; rfl
    | succ a => rw [show a + 1 + b = (a + b) + 1 by omega, eat_nil, eat_nil]; rfl
  | cons k l ih =>
    intro a b
    cases a with
    | zero => rw [Nat.zero_add, eat_zero]; rfl
    | succ a => rw [show a + 1 + b = (a + b) + 1 by omega, eat_cons, eat_cons, ← Nat.add_assoc, ih]
theorem eat_suffix : ∀ (l : List Nat) (m : Nat) (r : List Nat), eat l m = some r → ∃ p, l = p ++ r ∧ m ≤ p.length ∧ (m = 0 → p = []) := by
  intro l
  induction l with
  | nil =>
    intro m r h
    cases m with
    | zero => rw [eat_zero] at h; cases h; exact ⟨[], rfl, Nat.le_refl _, fun _ => rfl⟩
    | succ m => cases h
  | cons k l ih =>
    intro m r h
    cases m with
    | zero => rw [eat_zero] at h; cases h; exact ⟨[], rfl, Nat.le_refl _, fun _ => rfl⟩
    | succ m =>
      rw [eat_cons] at h
      obtain ⟨p, h1, h2, _⟩ := ih _ _ h
      exact ⟨k :: p, by rw [h1]; rfl, by simp only [List.length_cons]; omega, fun e => by cases e⟩
/-- What stands behind a flat tree does not matter. -/
theorem eat_behind : ∀ (l : List Nat) (m : Nat) (r x : List Nat), eat l m = some r → eat (l ++ x) m = some (r ++ x) := by
  intro l
  induction l with
  | nil =>
    intro m r x h
    cases m with
    | zero => rw [eat_zero] at h; cases h; exact eat_zero _
    | succ m => cases h
  | cons k l ih =>
    intro m r x h
    cases m with
    | zero => rw [eat_zero] at h; cases h; exact eat_zero _
    | succ m => rw [eat_cons] at h; rw [List.cons_append, eat_cons]; exact ih _ _ _ h
/-- Some subtrees, cut out. -/
theorem eat_cut {l : List Nat} {m : Nat} {r : List Nat} (h : eat l m = some r) : ∃ p, l = p ++ r ∧ eat p m = some [] := by
  induction l generalizing m with
  | nil =>
    cases m with
    | zero => rw [eat_zero] at h; cases h; exact ⟨[], rfl, rfl⟩
    | succ m => cases h
  | cons k l ih =>
    cases m with
    | zero => rw [eat_zero] at h; cases h; exact ⟨[], rfl, rfl⟩
    | succ m =>
      rw [eat_cons] at h
      obtain ⟨p, h1, h2⟩ := ih h
      exact ⟨k :: p, by rw [h1]; rfl, by rw [eat_cons]; exact h2⟩
/-- Two flat trees that begin alike end alike. -/
theorem eat_one_way {p r p' r' : List Nat} {m : Nat} (h : p ++ r = p' ++ r') (h1 : eat p m = some []) (h2 : eat p' m = some []) : p = p' ∧ r = r' := by
  have e1 := eat_behind _ _ _ r h1
  have e2 := eat_behind _ _ _ r' h2
  rw [h, e2] at e1
  have : r' = r := by simpa using e1
  subst this
  exact ⟨List.append_cancel_right h, rfl⟩

/-- Where the subtree of node p ends. -/
def endN (ks : List Nat) (p : Nat) : Nat := match eat (ks.drop p) 1 with | some r => ks.length - r.length | none => 0
theorem endN_of {ks : List Nat} {p : Nat} {r : List Nat} (hp : p ≤ ks.length) (h : eat (ks.drop p) 1 = some r) : p + 1 ≤ endN ks p ∧ endN ks p ≤ ks.length ∧ ks.drop (endN ks p) = r := by
  obtain ⟨x, h1, h2, _⟩ := eat_suffix _ _ _ h
  have hl := congrArg List.length h1
  rw [List.length_drop, List.length_append] at hl
  have hE : endN ks p = ks.length - r.length := by unfold endN; rw [h]
  rw [hE]
  refine ⟨by omega, by omega, ?_⟩
  have hd : ks.drop (p + x.length) = r := by rw [← List.drop_drop, h1, List.drop_left]
  rw [show ks.length - r.length = p + x.length by omega, hd]
/-- Each node of a flat tree has a subtree. -/
theorem eat_each {ks : List Nat} {m : Nat} (h : eat ks m = some []) : ∀ p, p < ks.length → ∃ r, eat (ks.drop p) 1 = some r := by
  intro p
  induction p generalizing ks m with
  | zero =>
    intro hp
    cases m with
    | zero => rw [eat_zero] at h; cases h; simp at hp
    | succ m =>
      rw [Nat.add_comm, eat_add] at h
      rw [List.drop_zero]
      cases hq : eat ks 1 with
      | none => rw [hq] at h; cases h
      | some r => exact ⟨r, rfl⟩
  | succ p ih =>
    intro hp
    cases ks with
    | nil => simp at hp
    | cons k ks =>
      cases m with
      | zero => rw [eat_zero] at h; cases h
      | succ m =>
        rw [eat_cons] at h
        rw [List.drop_succ_cons]
        exact ih h (by simpa using hp)

/-- The stack of what is missing, its top first: pop what has nothing missing. -/
def popZ (st : List Nat) : List Nat := st.dropWhile (· == 0)
def pushN (k : Nat) (st : List Nat) : List Nat := match st with | [] => [] | a :: r => popZ (k :: (a - 1) :: r)
/-- Nothing is missing only below the top. -/
def topN (st : List Nat) : Prop := ∀ a, st.head? = some a → a ≠ 0
theorem popZ_sum : ∀ st : List Nat, (popZ st).sum = st.sum := by
  intro st
  induction st with
  | nil => rfl
  | cons a r ih =>
    unfold popZ at *
    rw [List.dropWhile_cons]
    by_cases h : a = 0
    · rw [if_pos (by simpa using h), ih, List.sum_cons, h, Nat.zero_add]
    · rw [if_neg (by simpa using h)]
theorem popZ_top : ∀ st : List Nat, topN (popZ st) := by
  intro st
  induction st with
  | nil => intro a h; cases h
  | cons a r ih =>
    unfold popZ at *
    rw [List.dropWhile_cons]
    by_cases h : a = 0
    · rw [if_pos (by simpa using h)]; exact ih
    · rw [if_neg (by simpa using h)]
      intro b hb
      cases hb
      exact h
/-- The stack is empty just where nothing is missing. -/
theorem topN_sum {st : List Nat} (h : topN st) : st.sum = 0 ↔ st = [] := by
  cases st with
  | nil => exact ⟨fun _ => rfl, fun _ => rfl⟩
  | cons a r =>
    have := h a rfl
    rw [List.sum_cons]
    exact ⟨fun e => absurd (show a = 0 by omega) this, fun e => by cases e⟩
theorem pushN_top (k : Nat) (st : List Nat) : topN (pushN k st) := by
  cases st with
  | nil => intro a h; cases h
  | cons a r => exact popZ_top _
theorem pushN_sum {k : Nat} {st : List Nat} (h : topN st) (hne : st ≠ []) : (pushN k st).sum + 1 = k + st.sum := by
  cases st with
  | nil => exact absurd rfl hne
  | cons a r =>
    have := h a rfl
    unfold pushN
    rw [popZ_sum, List.sum_cons, List.sum_cons, List.sum_cons]
    omega
/-- The stack behind some nodes; none where the tree ended before. -/
def stackN : List Nat → List Nat → Option (List Nat)
  | st, [] => some st
  | st, k :: ks => if st = [] then none else stackN (pushN k st) ks
/-- The nodes are a flat tree just where the stack is empty behind them, and not before. -/
theorem stack_eat : ∀ (ks st : List Nat), topN st → (stackN st ks = some [] ↔ eat ks st.sum = some []) := by
  intro ks
  induction ks with
  | nil =>
    intro st h
    rw [stackN]
    constructor
    · intro e; cases e; rfl
    · intro e
      cases hs : st.sum with
      | zero => rw [(topN_sum h).1 hs]
      | succ n => rw [hs] at e; cases e
  | cons k ks ih =>
    intro st h
    rw [stackN]
    by_cases hst : st = []
    · subst hst
      rw [if_pos rfl]
      exact ⟨fun e => (by cases e), fun e => (by cases e)⟩
    · rw [if_neg hst, ih _ (pushN_top k st)]
      have hs := pushN_sum (k := k) h hst
      have hpos : st.sum ≠ 0 := fun e => hst ((topN_sum h).1 e)
      obtain ⟨n, hn⟩ : ∃ n, st.sum = n + 1 := ⟨st.sum - 1, by omega⟩
      rw [hn, eat_cons, show (pushN k st).sum = k + n by omega]
end Go.Proofs.YtdiinlmeoifgjaaGreatDoor

/- Nodes of data as values and in memory; the small functions on one node. -/
namespace Go.Proofs.YtdiinlmeoifgjaaGreatDoor
open Go.RowKit Go.PlainAid

/-- A node: its kind, how many children it has, its number, its string. -/
abbrev Nd := Int × Int × Int × List UInt8
def ndC (x : Nd) : List Value := [.int .i64 x.1, .int .i64 x.2.1, .int .i64 x.2.2.1, .string (str x.2.2.2)]
def ndV (x : Nd) : Value := .agg (ndC x).toArray
/-- The cells of nodes. -/
def dcs (l : List Nd) : List Value := l.flatMap ndC
theorem dcs_cons (x : Nd) (l : List Nd) : dcs (x :: l) = .int .i64 x.1 :: .int .i64 x.2.1 :: .int .i64 x.2.2.1 :: .string (str x.2.2.2) :: dcs l := rfl
theorem dcs_app (a b : List Nd) : dcs (a ++ b) = dcs a ++ dcs b := List.flatMap_append
theorem dcs_len (l : List Nd) : (dcs l).length = l.length * 4 := by
  induction l with
  | nil => rfl
  | cons x l ih => rw [dcs_cons]; simp only [List.length_cons, ih]; omega
theorem dcs_at (l : List Nd) : ∀ {k : Nat} {x : Nd}, l[k]? = some x → (dcs l)[k * 4]? = some (.int .i64 x.1) ∧ (dcs l)[k * 4 + 1]? = some (.int .i64 x.2.1) ∧ (dcs l)[k * 4 + 2]? = some (.int .i64 x.2.2.1) ∧ (dcs l)[k * 4 + 3]? = some (.string (str x.2.2.2)) := by
  induction l with
  | nil => intro k x h; simp at h
  | cons y l ih =>
    intro k x h
    rw [dcs_cons]
    cases k with
    | zero => simp at h; subst h; simp
    | succ k =>
      have := ih (k := k) (x := x) (by simpa using h)
      rw [show (k + 1) * 4 = k * 4 + 1 + 1 + 1 + 1 by omega]
      simpa using this
/-- The slice value v holds the nodes l. -/
def NdsAt (w : World) (v : Value) (l : List Nd) : Prop :=
  (∃ a c, v = .slice a 0 c ∧ l = []) ∨ ∃ g off cap, v = .slice (some ⟨g, off, none⟩) l.length cap ∧ g < w.heap.size ∧ ∀ j u, (dcs l)[j]? = some u → w.cell? ⟨g, off + j, none⟩ = some u
theorem NdsAt.below {B : Nat} {w w' : World} {v : Value} {l : List Nd} (h : NdsAt w v l) (hb : Below B w w') (hB : w.heap.size ≤ B) : NdsAt w' v l := by
  rcases h with h | ⟨g, off, cap, e, hg, hc⟩
  · exact .inl h
  · exact .inr ⟨g, off, cap, e, Nat.lt_of_lt_of_le hg hb.size, fun j u hj => (hb.cell (p := ⟨g, off + j, none⟩) (by show g < B; omega)).trans (hc j u hj)⟩

/-- Whether a node has a kind, and nothing that this kind has not. -/
def kindB (k c n : Int) (e : Bool) : Bool :=
  if k = 1 ∨ k = 2 then decide (c = 0) && e else if k = 3 then decide (c = 0) && decide (n = 0) else if k = 4 then decide (0 ≤ c) && decide (n = 0) && e else false
theorem kind_1 (c n : Int) (e : Bool) : kindB 1 c n e = (decide (c = 0) && e) := by unfold kindB; rw [if_pos (by decide)]
theorem kind_2 (c n : Int) (e : Bool) : kindB 2 c n e = (decide (c = 0) && e) := by unfold kindB; rw [if_pos (by decide)]
theorem kind_3 (c n : Int) (e : Bool) : kindB 3 c n e = (decide (c = 0) && decide (n = 0)) := by unfold kindB; rw [if_neg (by decide), if_pos rfl]
theorem kind_4 (c n : Int) (e : Bool) : kindB 4 c n e = (decide (0 ≤ c) && decide (n = 0) && e) := by unfold kindB; rw [if_neg (by decide), if_neg (by decide), if_pos rfl]
theorem below_b1 (w : World) (o : Obj) : Below w.heap.size w (w.alloc o) := (Below.refl _ w).alloc (Nat.le_refl _) o
/-- The error of a node's form. -/
def formE (k c n : Int) (e : Bool) : Int := if kindB k c n e then 0 else 6
end Go.Proofs.YtdiinlmeoifgjaaGreatDoor

/- What a node has: the program's checkNode and the reference's value, over what Symbol answers. -/
namespace Go.Proofs.YtdiinlmeoifgjaaGreatDoor
open Go.RowKit Go.PlainAid

/-- The error of what a node has; b: its string is a symbol. -/
def valE (k n : Int) (b : Bool) : Int := if k = 2 ∧ n ≠ 0 ∧ n ≠ 1 then 7 else if k = 3 ∧ b = false then 6 else 0
/-- The error of a node of this depth. -/
def nodeE (k c n : Int) (e b : Bool) (depth : Int) : Int := if kindB k c n e = false then 6 else if 32 < depth then 3 else valE k n b
/-- Symbol answers b of this string, in every world above w. -/
def SymAt (f : FuncId) (s : List UInt8) (b : Bool) (w : World) : Prop := ∀ W, Below w.heap.size w W → Calls Tryz.prog f #[.string (str s)] W fun r w' => r = .returned (.bool b) ∧ Below W.heap.size W w'

end Go.Proofs.YtdiinlmeoifgjaaGreatDoor

/- Check: mathematics. -/
namespace Go.Proofs.YtdiinlmeoifgjaaGreatDoor

/-- What Check returns of the nodes from i on, where the stack st says what is missing (its top first); E: the error of a node at a depth. -/
def chkGo (E : Nd → Int → Int) : List Nat → Nat → List Nd → Int × Int
  | st, i, [] => if st = [] then (0, 0) else ((i : Int), 6)
  | st, i, x :: t => if st = [] then ((i : Int), 6) else if E x ((st.length : Int) - 1) ≠ 0 then ((i : Int), E x ((st.length : Int) - 1)) else chkGo E (pushN x.2.1.toNat st) (i + 1) t
def chkD (E : Nd → Int → Int) (t : List Nd) : Int × Int := if t = [] then (0, 6) else if 400 < t.length then (0, 3) else chkGo E [1] 0 t
def kidsL (t : List Nd) : List Nat := t.map fun x => x.2.1.toNat
/-- How far Check has come: k nodes are good, and the stack is st. -/
def ChkAt (E : Nd → Int → Int) (t : List Nd) (k : Nat) (st : List Nat) : Prop := chkGo E [1] 0 t = chkGo E st k (t.drop k)
theorem chkAt_start (E : Nd → Int → Int) (t : List Nd) : ChkAt E t 0 [1] := by unfold ChkAt; rw [List.drop_zero]
theorem chkAt_step {E : Nd → Int → Int} {t : List Nd} {k : Nat} {st : List Nat} {x : Nd} (h : ChkAt E t k st) (hx : t[k]? = some x) (hst : st ≠ []) (hE : E x ((st.length : Int) - 1) = 0) : ChkAt E t (k + 1) (pushN x.2.1.toNat st) := by
  unfold ChkAt at *
  have hk := (List.getElem?_eq_some_iff.1 hx)
  rw [h, List.drop_eq_getElem_cons hk.1, hk.2, chkGo, if_neg hst, if_neg (by rw [hE]; simp)]
theorem chkAt_over {E : Nd → Int → Int} {t : List Nd} {k : Nat} {x : Nd} (h : ChkAt E t k []) (hx : t[k]? = some x) : chkGo E [1] 0 t = ((k : Int), 6) := by
  unfold ChkAt at h
  have hk := (List.getElem?_eq_some_iff.1 hx)
  rw [h, List.drop_eq_getElem_cons hk.1, hk.2, chkGo, if_pos rfl]
theorem chkAt_bad {E : Nd → Int → Int} {t : List Nd} {k : Nat} {st : List Nat} {x : Nd} (h : ChkAt E t k st) (hx : t[k]? = some x) (hst : st ≠ []) (hE : E x ((st.length : Int) - 1) ≠ 0) : chkGo E [1] 0 t = ((k : Int), E x ((st.length : Int) - 1)) := by
  unfold ChkAt at h
  have hk := (List.getElem?_eq_some_iff.1 hx)
  rw [h, List.drop_eq_getElem_cons hk.1, hk.2, chkGo, if_neg hst, if_pos hE]
theorem chkAt_end {E : Nd → Int → Int} {t : List Nd} {k : Nat} {st : List Nat} (h : ChkAt E t k st) (hk : t.length ≤ k) : chkGo E [1] 0 t = if st = [] then (0, 0) else ((k : Int), 6) := by
  unfold ChkAt at h
  rw [h, List.drop_of_length_le hk, chkGo]
/-- What Check takes is a flat tree. -/
theorem chkGo_stack : ∀ (E : Nd → Int → Int) (t : List Nd) (st : List Nat) (i : Nat), (chkGo E st i t).2 = 0 → stackN st (kidsL t) = some [] := by
  intro E t
  induction t with
  | nil =>
    intro st i h
    rw [chkGo] at h
    split at h
    · rename_i hs; rw [hs]; rfl
    · cases h
  | cons x t ih =>
    intro st i h
    rw [chkGo] at h
    split at h
    · cases h
    · rename_i hs
      split at h
      · rename_i hE; exact absurd h hE
      · show stackN st (x.2.1.toNat :: kidsL t) = some []
        rw [stackN, if_neg hs]
        exact ih _ _ h
theorem chkD_tree {E : Nd → Int → Int} {t : List Nd} (h : (chkD E t).2 = 0) : eat (kidsL t) 1 = some [] ∧ t ≠ [] ∧ t.length ≤ 400 := by
  unfold chkD at h
  by_cases h1 : t = []
  · rw [if_pos h1] at h; cases h
  · rw [if_neg h1] at h
    by_cases h2 : 400 < t.length
    · rw [if_pos h2] at h; cases h
    · rw [if_neg h2] at h
      have := (stack_eat (kidsL t) [1] (by intro a ha; cases ha; decide)).1 (chkGo_stack E t [1] 0 h)
      exact ⟨this, h1, by omega⟩
end Go.Proofs.YtdiinlmeoifgjaaGreatDoor

/- The reference's end of a subtree. -/
namespace Go.Proofs.YtdiinlmeoifgjaaGreatDoor
open Go.RowKit Go.PlainAid

/-- Where the children of node i behind the first k begin. -/
def posK (ks : List Nat) (i k : Nat) : Nat := match eat (ks.drop (i + 1)) k with | some r => ks.length - r.length | none => 0
theorem posK_start {ks : List Nat} {i : Nat} (hi : i < ks.length) : posK ks i 0 = i + 1 := by
  unfold posK; rw [eat_zero]; simp only [List.length_drop]; omega
theorem eat_first {ks : List Nat} {i c : Nat} {r : List Nat} (hc : ks[i]? = some c) (h : eat (ks.drop i) 1 = some r) : eat (ks.drop (i + 1)) c = some r := by
  have hk := List.getElem?_eq_some_iff.1 hc
  rw [List.drop_eq_getElem_cons hk.1, hk.2] at h
  exact h
theorem posK_end {ks : List Nat} {i c : Nat} {r : List Nat} (hc : ks[i]? = some c) (h : eat (ks.drop i) 1 = some r) : posK ks i c = endN ks i := by
  unfold posK endN; rw [eat_first hc h, h]
theorem posK_step {ks : List Nat} {i c k : Nat} {r : List Nat} (hc : ks[i]? = some c) (h : eat (ks.drop i) 1 = some r) (hk : k < c) :
    i < posK ks i k ∧ posK ks i k < ks.length ∧ (∃ r', eat (ks.drop (posK ks i k)) 1 = some r') ∧ endN ks (posK ks i k) = posK ks i (k + 1) := by
  have hi := (List.getElem?_eq_some_iff.1 hc).1
  have h1 := eat_first hc h
  rw [show c = k + (1 + (c - k - 1)) by omega, eat_add] at h1
  cases hq : eat (ks.drop (i + 1)) k with
  | none => rw [hq] at h1; cases h1
  | some rk =>
    rw [hq] at h1
    have h2 : eat rk (1 + (c - k - 1)) = some r := h1
    rw [eat_add] at h2
    cases hq2 : eat rk 1 with
    | none => rw [hq2] at h2; cases h2
    | some r1 =>
      obtain ⟨p, e1, _, _⟩ := eat_suffix _ _ _ hq
      have hl := congrArg List.length e1
      rw [List.length_drop, List.length_append] at hl
      have hne : rk ≠ [] := by rintro rfl; cases hq2
      have hrk := List.length_pos_iff.2 hne
      have hP : posK ks i k = ks.length - rk.length := by unfold posK; rw [hq]
      have hD : ks.drop (posK ks i k) = rk := by
        rw [hP, show ks.length - rk.length = (i + 1) + p.length by omega, ← List.drop_drop, e1, List.drop_left]
      refine ⟨by rw [hP]; omega, by rw [hP]; omega, ⟨r1, by rw [hD]; exact hq2⟩, ?_⟩
      unfold endN
      rw [hD, hq2]
      unfold posK
      rw [eat_add, hq]
      show _ = match eat rk 1 with | some r => ks.length - r.length | none => 0
      rw [hq2]

end Go.Proofs.YtdiinlmeoifgjaaGreatDoor

/- The stack of Check in memory, and what Check returns. -/
namespace Go.Proofs.YtdiinlmeoifgjaaGreatDoor
open Go.RowKit Go.PlainAid

/-- A stack (its top first) as the elements of a row, its top last. -/
def stV (st : List Nat) : List Value := st.reverse.map fun q : Nat => Value.int .i64 (q : Int)
theorem stV_len (st : List Nat) : (stV st).length = st.length := by unfold stV; rw [List.length_map, List.length_reverse]
theorem stV_cons (a : Nat) (r : List Nat) : stV (a :: r) = stV r ++ [.int .i64 (a : Int)] := by unfold stV; rw [List.reverse_cons, List.map_append]; rfl
theorem stV_top (a : Nat) (r : List Nat) : (stV (a :: r))[r.length]? = some (.int .i64 (a : Int)) := by
  rw [stV_cons, List.getElem?_append_right (by rw [stV_len]; exact Nat.le_refl _), stV_len, Nat.sub_self]; rfl
theorem stV_set (a b : Nat) (r : List Nat) : (stV (a :: r)).set r.length (.int .i64 (b : Int)) = stV (b :: r) := by
  rw [stV_cons, stV_cons, List.set_append, if_neg (by rw [stV_len]; omega), stV_len, Nat.sub_self]; rfl
theorem stV_cut (a : Nat) (r : List Nat) : (stV (a :: r)).take r.length = stV r := by
  rw [stV_cons, List.take_append_of_le_length (by rw [stV_len]; exact Nat.le_refl _), List.take_of_length_le (by rw [stV_len]; exact Nat.le_refl _)]
theorem popZ_nil : popZ [] = [] := rfl
theorem popZ_zero (r : List Nat) : popZ (0 :: r) = popZ r := by unfold popZ; rw [List.dropWhile_cons]; simp
theorem popZ_pos {a : Nat} (r : List Nat) (h : a ≠ 0) : popZ (a :: r) = a :: r := by unfold popZ; rw [List.dropWhile_cons, if_neg (by simpa using h)]
theorem pushN_cons (k a : Nat) (r : List Nat) : pushN k (a :: r) = popZ (k :: (a - 1) :: r) := rfl
theorem popZ_len (st : List Nat) : (popZ st).length ≤ st.length := by
  have := (List.dropWhile_suffix (l := st) (p := fun x => x == 0)).length_le; exact this
theorem pushN_len (k : Nat) (st : List Nat) : (pushN k st).length ≤ st.length + 1 := by
  cases st with
  | nil => simp [pushN]
  | cons a r => rw [pushN_cons]; have := popZ_len (k :: (a - 1) :: r); simpa using this

/-- Whether a string is empty. -/
def emB (s : List UInt8) : Bool := ((str s).toList == [])
/-- The error of a node at a depth; sy: which strings are symbols. -/
def ndE (sy : List UInt8 → Bool) (x : Nd) (d : Int) : Int := nodeE x.1 x.2.1 x.2.2.1 (emB x.2.2.2) (sy x.2.2.2) d
theorem ndE_kids {sy : List UInt8 → Bool} {x : Nd} {d : Int} (h : ndE sy x d = 0) : 0 ≤ x.2.1 := by
  unfold ndE nodeE at h
  split at h
  · cases h
  · rename_i hk
    unfold kindB at hk
    split at hk
    · have h1 : decide (x.2.1 = 0) = true := by cases h1 : decide (x.2.1 = 0) with | true => rfl | false => exact absurd (by rw [h1]; rfl) hk
      have := of_decide_eq_true h1; omega
    · split at hk
      · have h1 : decide (x.2.1 = 0) = true := by cases h1 : decide (x.2.1 = 0) with | true => rfl | false => exact absurd (by rw [h1]; rfl) hk
        have := of_decide_eq_true h1; omega
      · split at hk
        · simp only [Bool.and_eq_true, decide_eq_true_eq, Bool.not_eq_false] at hk; exact hk.1.1
        · exact absurd rfl hk
/-- What Check returns of nodes. -/
def chkT (sy : List UInt8 → Bool) (t : List Nd) : Int × Int := chkD (ndE sy) t
def chkTV (sy : List UInt8 → Bool) (t : List Nd) : Value := .tuple #[.int .i64 (chkT sy t).1, .int .i64 (chkT sy t).2]
/-- Symbol answers sy, in every world above w. -/
def SymAll (f : FuncId) (sy : List UInt8 → Bool) (w : World) : Prop := ∀ s, SymAt f s (sy s) w
theorem SymAll.below {f : FuncId} {sy : List UInt8 → Bool} {w w' : World} (h : SymAll f sy w) (hb : Below w.heap.size w w') : SymAll f sy w' := fun s W hW => h s W (hb.trans (hW.mono hb.size))
theorem infoSk : (Tryz.prog.info? 3).map (fun i => (i.zero, i.size, i.bytes)) = some (some (.int .i64 0), 1, 8) := by kernel_rfl
end Go.Proofs.YtdiinlmeoifgjaaGreatDoor

/- Rows of one-cell elements that the call owns. -/
namespace Go.Proofs.YtdiinlmeoifgjaaGreatDoor
open Go.RowKit Go.PlainAid

theorem own_cutR {w : World} {B n m : Nat} {e : TypeId} {a : Option Addr} {c : Nat} {xs : List Value} (h : w.ownsRow B e 1 (.slice a n c) n xs) (hm : m ≤ n) : w.ownsRow B e 1 (.slice a m c) m (xs.take m) := by
  obtain ⟨h1, h2⟩ := h
  refine ⟨by rw [List.length_take]; omega, ?_⟩
  rcases h2 with ⟨hv, hn⟩ | ⟨g, cap, cur, hv, hb, hg, hc, hx, hs, ht⟩
  · obtain ⟨rfl, rfl, rfl⟩ := Value.slice.inj hv
    obtain rfl : m = 0 := by omega
    exact .inl ⟨rfl, rfl⟩
  · obtain ⟨rfl, _, rfl⟩ := Value.slice.inj hv
    refine .inr ⟨g, c, cur, rfl, hb, hg, by omega, hx, hs, ?_⟩
    rw [← ht, List.take_take, Nat.mul_one, Nat.mul_one, Nat.min_eq_left hm]
theorem own_formR {w : World} {B n z : Nat} {e : TypeId} {v : Value} {xs : List Value} (h : w.ownsRow B e z v n xs) : (v = .slice none 0 0 ∧ n = 0) ∨ ∃ g c, v = .slice (some ⟨g, 0, none⟩) n c ∧ B ≤ g ∧ g < w.heap.size := by
  rcases h.2 with h | ⟨g, cap, cur, hv, hb, hg, _⟩
  · exact .inl h
  · exact .inr ⟨g, cap, hv, hb, (Array.getElem?_eq_some_iff.1 hg).1⟩
theorem own_capR {w : World} {B n z : Nat} {e : TypeId} {a : Option Addr} {c : Nat} {xs : List Value} (h : w.ownsRow B e z (.slice a n c) n xs) : n ≤ c ∧ c ≤ maxLen := by
  rcases h.2 with ⟨hv, hn⟩ | ⟨g, cap, cur, hv, hb, hg, h1, h2, _⟩
  · obtain ⟨_, rfl, rfl⟩ := Value.slice.inj hv; exact ⟨Nat.le_refl _, Nat.zero_le _⟩
  · obtain ⟨_, _, rfl⟩ := Value.slice.inj hv; exact ⟨h1, h2⟩
theorem own_lenR {w : World} {B n z : Nat} {e : TypeId} {v : Value} {xs : List Value} (h : w.ownsRow B e z v n xs) : ∃ a c, v = .slice a n c := by
  rcases own_formR h with ⟨rfl, rfl⟩ | ⟨g, c, rfl, _⟩
  · exact ⟨_, _, rfl⟩
  · exact ⟨_, _, rfl⟩
theorem own_cell {w : World} {B n : Nat} {e : TypeId} {g c : Nat} {xs : List Value} (h : w.ownsRow B e 1 (.slice (some ⟨g, 0, none⟩) n c) n xs) {j : Nat} {u : Value} (hj : xs[j]? = some u) : w.cell? ⟨g, j, none⟩ = some u := by
  have := h.cells (g := g) rfl j u hj
  have e1 : (⟨g, 0, none⟩ : Addr).add j = ⟨g, j, none⟩ := by cases j <;> simp [Addr.add]
  rw [e1] at this; exact this
/-- A row that was just made. -/
theorem own_mk (w : World) (l : List Value) (e : TypeId) (n : Nat) (hn : n = l.length) (hm : n ≤ maxLen) : (w.alloc (.cells l.toArray e)).ownsRow w.heap.size e 1 (.slice (some ⟨w.heap.size, 0, none⟩) n n) n l := by
  refine ⟨by omega, .inr ⟨_, n, l.toArray, rfl, Nat.le_refl _, World.alloc_heap_new _ _, Nat.le_refl _, hm, by simp; omega, ?_⟩⟩
  rw [Nat.mul_one, List.take_of_length_le (by simp; omega)]
end Go.Proofs.YtdiinlmeoifgjaaGreatDoor

/- Layer 4: Check. -/
namespace Go.Proofs.YtdiinlmeoifgjaaGreatDoor
open Go.RowKit Go.PlainAid

theorem new_cells1 (w : World) (a : Value) (t : TypeId) (n : Nat) (hn : w.heap.size = n) : ∀ j u, [a][j]? = some u → (w.alloc (.cells #[a] t)).cell? ((⟨n, 0, none⟩ : Addr).add j) = some u := by
  subst hn; exact new_cells w [a] t
/-- Numbers of children are ints. -/
def KidsB (t : List Nd) : Prop := ∀ x ∈ t, x.2.1 ≤ 9223372036854775807
def StB (st : List Nat) : Prop := ∀ a ∈ st, (a : Int) ≤ 9223372036854775807
theorem popZ_mem {st : List Nat} {a : Nat} (h : a ∈ popZ st) : a ∈ st := (List.dropWhile_suffix (l := st) (p := fun x => x == 0)).subset h
theorem stB_push {k : Nat} {st : List Nat} (h : StB st) (hk : (k : Int) ≤ 9223372036854775807) : StB (pushN k st) := by
  cases st with
  | nil => intro a ha; cases ha
  | cons q r =>
    intro a ha
    rw [pushN_cons] at ha
    rcases List.mem_cons.1 (popZ_mem ha) with e | e
    · rw [e]; exact hk
    · rcases List.mem_cons.1 e with e | e
      · have := h q (by simp); omega
      · exact h a (by simp [e])

end Go.Proofs.YtdiinlmeoifgjaaGreatDoor
