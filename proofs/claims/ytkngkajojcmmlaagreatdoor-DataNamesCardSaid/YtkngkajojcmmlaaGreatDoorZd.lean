import Derived.Test.YtkngkajojcmmlaaGreatDoorRref5
import Derived.Lib.Strings
import Derived.Test.YtkngkajojcmmlaaGreatDoorProg
import Derived.BigGuardPart
import Derived.Handy
import Derived.RangeFuncRecord
import Derived.BigQuiet
import Derived.Deep.AppendLies
/- Flat trees: mathematics. A flat tree is a list of numbers of children, parents first. -/
namespace Go.Proofs.YtkngkajojcmmlaaGreatDoor

/-- What is left behind m subtrees. -/
def eat : List Nat → Nat → Option (List Nat)
  | l, 0 => some l
  | [], _ + 1 => none
  | k :: l, m + 1 => eat l (k + m)
theorem eat_zero (l : List Nat) : eat l 0 = some l := by cases l <;> rfl
theorem eat_nil (m : Nat) : eat [] (m + 1) = none := rfl
theorem eat_cons (k : Nat) (l : List Nat) (m : Nat) : eat (k :: l) (m + 1) = eat l (k + m) := rfl
theorem eat_add : ∀ (l : List Nat) (a b : Nat), eat l (a + b) = (eat l a).bind fun r => eat r b := by
  intro l
  induction l with
  | nil =>
    intro a b
    cases a with
    | zero => rw [Nat.zero_add, eat_zero]; rfl
    | succ a => rw [show a + 1 + b = (a + b) + 1 by omega, eat_nil, eat_nil]; rfl
  | cons k l ih =>
    intro a b
    cases a with
    | zero => rw [Nat.zero_add, eat_zero]; rfl
    | succ a => rw [show a + 1 + b = (a + b) + 1 by omega, eat_cons, eat_cons, ← Nat.add_assoc, ih]
theorem eat_suffix : ∀ (l : List Nat) (m : Nat) (r : List Nat), eat l m = some r → ∃ p, l = p ++ r ∧ m ≤ p.length ∧ (m = 0 → p = []) := by
  intro l
  induction l with
  | nil =>
    intro m r h
    cases m with
    | zero => rw [eat_zero] at h; cases h; exact ⟨[], rfl, Nat.le_refl _, fun _ => rfl⟩
    | succ m => cases h
  | cons k l ih =>
    intro m r h
    cases m with
    | zero => rw [eat_zero] at h; cases h; exact ⟨[], rfl, Nat.le_refl _, fun _ => rfl⟩
    | succ m =>
      rw [eat_cons] at h
      obtain ⟨p, h1, h2, _⟩ := ih _ _ h
      exact ⟨k :: p, by rw [h1]; rfl, by simp only [List.length_cons]; omega, fun e => by cases e⟩
/-- What stands behind a flat tree does not matter. -/
theorem eat_behind : ∀ (l : List Nat) (m : Nat) (r x : List Nat), eat l m = some r → eat (l ++ x) m = some (r ++ x) := by
  intro l
  induction l with
  | nil =>
    intro m r x h
    cases m with
    | zero => rw [eat_zero] at h; cases h; exact eat_zero _
    | succ m => cases h
  | cons k l ih =>
    intro m r x h
    cases m with
    | zero => rw [eat_zero] at h; cases h; exact eat_zero _
    | succ m => rw [eat_cons] at h; rw [List.cons_append, eat_cons]; exact ih _ _ _ h
/-- Some subtrees, cut out. -/
theorem eat_cut {l : List Nat} {m : Nat} {r : List Nat} (h : eat l m = some r) : ∃ p, l = p ++ r ∧ eat p m = some [] := by
  induction l generalizing m with
  | nil =>
    cases m with
    | zero => rw [eat_zero] at h; cases h; exact ⟨[], rfl, rfl⟩
    | succ m => cases h
  | cons k l ih =>
    cases m with
    | zero => rw [eat_zero] at h; cases h; exact ⟨[], rfl, rfl⟩
    | succ m =>
      rw [eat_cons] at h
      obtain ⟨p, h1, h2⟩ := ih h
      exact ⟨k :: p, by rw [h1]; rfl, by rw [eat_cons]; exact h2⟩
/-- Two flat trees that begin alike end alike. -/
theorem eat_one_way {p r p' r' : List Nat} {m : Nat} (h : p ++ r = p' ++ r') (h1 : eat p m = some []) (h2 : eat p' m = some []) : p = p' ∧ r = r' := by
  have e1 := eat_behind _ _ _ r h1
  have e2 := eat_behind _ _ _ r' h2
  rw [h, e2] at e1
  have : r' = r := by simpa using e1
  subst this
  exact ⟨List.append_cancel_right h, rfl⟩

/-- Where the subtree of node p ends. -/
def endN (ks : List Nat) (p : Nat) : Nat := match eat (ks.drop p) 1 with | some r => ks.length - r.length | none => 0
theorem endN_of {ks : List Nat} {p : Nat} {r : List Nat} (hp : p ≤ ks.length) (h : eat (ks.drop p) 1 = some r) : p + 1 ≤ endN ks p ∧ endN ks p ≤ ks.length ∧ ks.drop (endN ks p) = r := by
  obtain ⟨x, h1, h2, _⟩ := eat_suffix _ _ _ h
  have hl := congrArg List.length h1
  rw [List.length_drop, List.length_append] at hl
  have hE : endN ks p = ks.length - r.length := by unfold endN; rw [h]
  rw [hE]
  refine ⟨by omega, by omega, ?_⟩
  have hd : ks.drop (p + x.length) = r := by rw [← List.drop_drop, h1, List.drop_left]
  rw [show ks.length - r.length = p + x.length by omega, hd]
/-- Each node of a flat tree has a subtree. -/
theorem eat_each {ks : List Nat} {m : Nat} (h : eat ks m = some []) : ∀ p, p < ks.length → ∃ r, eat (ks.drop p) 1 = some r := by
  intro p
  induction p generalizing ks m with
  | zero =>
    intro hp
    cases m with
    | zero => rw [eat_zero] at h; cases h; simp at hp
    | succ m =>
      rw [Nat.add_comm, eat_add] at h
      rw [List.drop_zero]
      cases hq : eat ks 1 with
      | none => rw [hq] at h; cases h
      | some r => exact ⟨r, rfl⟩
  | succ p ih =>
    intro hp
    cases ks with
    | nil => simp at hp
    | cons k ks =>
      cases m with
      | zero => rw [eat_zero] at h; cases h
      | succ m =>
        rw [eat_cons] at h
        rw [List.drop_succ_cons]
        exact ih h (by simpa using hp)

/-- The stack of what is missing, its top first: pop what has nothing missing. -/
def popZ (st : List Nat) : List Nat := st.dropWhile (· == 0)
def pushN (k : Nat) (st : List Nat) : List Nat := match st with | [] => [] | a :: r => popZ (k :: (a - 1) :: r)
/-- Nothing is missing only below the top. -/
def topN (st : List Nat) : Prop := ∀ a, st.head? = some a → a ≠ 0
theorem popZ_sum : ∀ st : List Nat, (popZ st).sum = st.sum := by
  intro st
  induction st with
  | nil => rfl
  | cons a r ih =>
    unfold popZ at *
    rw [List.dropWhile_cons]
    by_cases h : a = 0
    · rw [if_pos (by simpa using h), ih, List.sum_cons, h, Nat.zero_add]
    · rw [if_neg (by simpa using h)]
theorem popZ_top : ∀ st : List Nat, topN (popZ st) := by
  intro st
  induction st with
  | nil => intro a h; cases h
  | cons a r ih =>
    unfold popZ at *
    rw [List.dropWhile_cons]
    by_cases h : a = 0
    · rw [if_pos (by simpa using h)]; exact ih
    · rw [if_neg (by simpa using h)]
      intro b hb
      cases hb
      exact h
/-- The stack is empty just where nothing is missing. -/
theorem topN_sum {st : List Nat} (h : topN st) : st.sum = 0 ↔ st = [] := by
  cases st with
  | nil => exact ⟨fun _ => rfl, fun _ => rfl⟩
  | cons a r =>
    have := h a rfl
    rw [List.sum_cons]
    exact ⟨fun e => absurd (show a = 0 by omega) this, fun e => by cases e⟩
theorem pushN_top (k : Nat) (st : List Nat) : topN (pushN k st) := by
  cases st with
  | nil => intro a h; cases h
  | cons a r => exact popZ_top _
theorem pushN_sum {k : Nat} {st : List Nat} (h : topN st) (hne : st ≠ []) : (pushN k st).sum + 1 = k + st.sum := by
  cases st with
  | nil => exact absurd rfl hne
  | cons a r =>
    have := h a rfl
    unfold pushN
    rw [popZ_sum, List.sum_cons, List.sum_cons, List.sum_cons]
    omega
/-- The stack behind some nodes; none where the tree ended before. -/
def stackN : List Nat → List Nat → Option (List Nat)
  | st, [] => some st
  | st, k :: ks => if st = [] then none else stackN (pushN k st) ks
/-- The nodes are a flat tree just where the stack is empty behind them, and not before. -/
theorem stack_eat : ∀ (ks st : List Nat), topN st → (stackN st ks = some [] ↔ eat ks st.sum = some []) := by
  intro ks
  induction ks with
  | nil =>
    intro st h
    rw [stackN]
    constructor
    · intro e; cases e; rfl
    · intro e
      cases hs : st.sum with
      | zero => rw [(topN_sum h).1 hs]
      | succ n => rw [hs] at e; cases e
  | cons k ks ih =>
    intro st h
    rw [stackN]
    by_cases hst : st = []
    · subst hst
      rw [if_pos rfl]
      exact ⟨fun e => (by cases e), fun e => (by cases e)⟩
    · rw [if_neg hst, ih _ (pushN_top k st)]
      have hs := pushN_sum (k := k) h hst
      have hpos : st.sum ≠ 0 := fun e => hst ((topN_sum h).1 e)
      obtain ⟨n, hn⟩ : ∃ n, st.sum = n + 1 := ⟨st.sum - 1, by omega⟩
      rw [hn, eat_cons, show (pushN k st).sum = k + n by omega]
end Go.Proofs.YtkngkajojcmmlaaGreatDoor

/- Nodes of data as values and in memory; the small functions on one node. -/
namespace Go.Proofs.YtkngkajojcmmlaaGreatDoor
open Go.RowKit Go.PlainAid

/-- A node: its kind, how many children it has, its number, its string. -/
abbrev Nd := Int × Int × Int × List UInt8
def ndC (x : Nd) : List Value := [.int .i64 x.1, .int .i64 x.2.1, .int .i64 x.2.2.1, .string (str x.2.2.2)]
def ndV (x : Nd) : Value := .agg (ndC x).toArray
/-- The cells of nodes. -/
def dcs (l : List Nd) : List Value := l.flatMap ndC
theorem dcs_cons (x : Nd) (l : List Nd) : dcs (x :: l) = .int .i64 x.1 :: .int .i64 x.2.1 :: .int .i64 x.2.2.1 :: .string (str x.2.2.2) :: dcs l := rfl
theorem dcs_app (a b : List Nd) : dcs (a ++ b) = dcs a ++ dcs b := List.flatMap_append
theorem dcs_len (l : List Nd) : (dcs l).length = l.length * 4 := by
  induction l with
  | nil => rfl
  | cons x l ih => rw [dcs_cons]; simp only [List.length_cons, ih]; omega
theorem dcs_at (l : List Nd) : ∀ {k : Nat} {x : Nd}, l[k]? = some x → (dcs l)[k * 4]? = some (.int .i64 x.1) ∧ (dcs l)[k * 4 + 1]? = some (.int .i64 x.2.1) ∧ (dcs l)[k * 4 + 2]? = some (.int .i64 x.2.2.1) ∧ (dcs l)[k * 4 + 3]? = some (.string (str x.2.2.2)) := by
  induction l with
  | nil => intro k x h; simp at h
  | cons y l ih =>
    intro k x h
    rw [dcs_cons]
    cases k with
    | zero => simp at h; subst h; simp
    | succ k =>
      have := ih (k := k) (x := x) (by simpa using h)
      rw [show (k + 1) * 4 = k * 4 + 1 + 1 + 1 + 1 by omega]
      simpa using this
/-- The slice value v holds the nodes l. -/
def NdsAt (w : World) (v : Value) (l : List Nd) : Prop :=
  (∃ a c, v = .slice a 0 c ∧ l = []) ∨ ∃ g off cap, v = .slice (some ⟨g, off, none⟩) l.length cap ∧ g < w.heap.size ∧ ∀ j u, (dcs l)[j]? = some u → w.cell? ⟨g, off + j, none⟩ = some u
theorem NdsAt.below {B : Nat} {w w' : World} {v : Value} {l : List Nd} (h : NdsAt w v l) (hb : Below B w w') (hB : w.heap.size ≤ B) : NdsAt w' v l := by
  rcases h with h | ⟨g, off, cap, e, hg, hc⟩
  · exact .inl h
  · exact .inr ⟨g, off, cap, e, Nat.lt_of_lt_of_le hg hb.size, fun j u hj => (hb.cell (p := ⟨g, off + j, none⟩) (by show g < B; omega)).trans (hc j u hj)⟩

/-- Whether a node has a kind, and nothing that this kind has not. -/
def kindB (k c n : Int) (e : Bool) : Bool :=
  if k = 1 ∨ k = 2 then decide (c = 0) && e else if k = 3 then decide (c = 0) && decide (n = 0) else if k = 4 then decide (0 ≤ c) && decide (n = 0) && e else false
theorem kind_1 (c n : Int) (e : Bool) : kindB 1 c n e = (decide (c = 0) && e) := by unfold kindB; rw [if_pos (by decide)]
theorem kind_2 (c n : Int) (e : Bool) : kindB 2 c n e = (decide (c = 0) && e) := by unfold kindB; rw [if_pos (by decide)]
theorem kind_3 (c n : Int) (e : Bool) : kindB 3 c n e = (decide (c = 0) && decide (n = 0)) := by unfold kindB; rw [if_neg (by decide), if_pos rfl]
theorem kind_4 (c n : Int) (e : Bool) : kindB 4 c n e = (decide (0 ≤ c) && decide (n = 0) && e) := by unfold kindB; rw [if_neg (by decide), if_neg (by decide), if_pos rfl]
theorem below_b1 (w : World) (o : Obj) : Below w.heap.size w (w.alloc o) := (Below.refl _ w).alloc (Nat.le_refl _) o
set_option maxRecDepth 50000 in
set_option maxHeartbeats 1600000 in
theorem ofKind_any (k c n : Int) (s : List UInt8) (e : Bool) (he : ((str s).toList == []) = e) (w : World) : Calls Tryz.prog 65 #[.agg #[.int .i64 k, .int .i64 c, .int .i64 n, .string (str s)]] w fun r w' => r = .returned (.bool (kindB k c n e)) ∧ Below w.heap.size w w' := by
  obtain ⟨z, hz⟩ : ∃ z, str s = z := ⟨_, rfl⟩
  rw [hz] at he ⊢
  clear hz
  by_cases h1 : k = 1
  · subst h1
    have hK := kind_1
    go_enter Tryz.func65, Tryz.ntmps65
    go_wp2
    all_goals go_ret
    all_goals exact ⟨ret_bool (by (try rw [hK]); (first | (cases e <;> simp_all; done) | (rw [Bool.eq_iff_iff]; simp_all; done) | (rw [decide_eq_false (show ¬ 0 ≤ c by omega)]; rfl) | (rw [Bool.eq_iff_iff]; cases e <;> simp_all <;> (intros; omega)))), below_b1 _ _⟩
  by_cases h2 : k = 2
  · subst h2
    have hK := kind_2
    go_enter Tryz.func65, Tryz.ntmps65
    go_wp2
    all_goals go_ret
    all_goals exact ⟨ret_bool (by (try rw [hK]); (first | (cases e <;> simp_all; done) | (rw [Bool.eq_iff_iff]; simp_all; done) | (rw [decide_eq_false (show ¬ 0 ≤ c by omega)]; rfl) | (rw [Bool.eq_iff_iff]; cases e <;> simp_all <;> (intros; omega)))), below_b1 _ _⟩
  by_cases h3 : k = 3
  · subst h3
    have hK := kind_3
    go_enter Tryz.func65, Tryz.ntmps65
    go_wp2
    all_goals go_ret
    all_goals exact ⟨ret_bool (by (try rw [hK]); (first | (cases e <;> simp_all; done) | (rw [Bool.eq_iff_iff]; simp_all; done) | (rw [decide_eq_false (show ¬ 0 ≤ c by omega)]; rfl) | (rw [Bool.eq_iff_iff]; cases e <;> simp_all <;> (intros; omega)))), below_b1 _ _⟩
  by_cases h4 : k = 4
  · subst h4
    have hK := kind_4
    go_enter Tryz.func65, Tryz.ntmps65
    go_wp2
    all_goals go_ret
    all_goals exact ⟨ret_bool (by (try rw [hK]); (first | (cases e <;> simp_all; done) | (rw [Bool.eq_iff_iff]; simp_all; done) | (rw [decide_eq_false (show ¬ 0 ≤ c by omega)]; rfl) | (rw [Bool.eq_iff_iff]; cases e <;> simp_all <;> (intros; omega)))), below_b1 _ _⟩
  have hK : Hid (kindB k c n e = false) := Lib.hid (by unfold kindB; rw [if_neg (by omega), if_neg h3, if_neg h4])
  have g1 : (k == 1) = false := beq_eq_false_iff_ne.mpr h1
  have g2 : (k == 2) = false := beq_eq_false_iff_ne.mpr h2
  have g3 : (k == 3) = false := beq_eq_false_iff_ne.mpr h3
  have g4 : (k == 4) = false := beq_eq_false_iff_ne.mpr h4
  go_enter Tryz.func65, Tryz.ntmps65
  go_wp2
  all_goals go_ret
  all_goals exact ⟨ret_bool (by rw [hK.out]), below_b1 _ _⟩

/-- The error of a node's form. -/
def formE (k c n : Int) (e : Bool) : Int := if kindB k c n e then 0 else 6
set_option maxRecDepth 50000 in
set_option maxHeartbeats 1600000 in
theorem form_any (k c n : Int) (s : List UInt8) (e : Bool) (he : ((str s).toList == []) = e) (w : World) : Calls Tryz.prog 54 #[.agg #[.int .i64 k, .int .i64 c, .int .i64 n, .string (str s)]] w fun r w' => r = .returned (.int .i64 (formE k c n e)) ∧ Below w.heap.size w w' := by
  obtain ⟨z, hz⟩ : ∃ z, str s = z := ⟨_, rfl⟩
  rw [hz] at he ⊢
  clear hz
  by_cases h1 : k = 1
  · subst h1
    have hK := kind_1
    go_enter Tryz.func54, Tryz.ntmps54
    go_wp2
    all_goals go_ret
    all_goals exact ⟨ret_int (by unfold formE; (try rw [hK]); (first | (simp_all; done) | (cases e <;> simp_all; done) | (cases e <;> simp_all <;> (intros; omega)))), below_b1 _ _⟩
  by_cases h2 : k = 2
  · subst h2
    have hK := kind_2
    go_enter Tryz.func54, Tryz.ntmps54
    go_wp2
    all_goals go_ret
    all_goals exact ⟨ret_int (by unfold formE; (try rw [hK]); (first | (simp_all; done) | (cases e <;> simp_all; done) | (cases e <;> simp_all <;> (intros; omega)))), below_b1 _ _⟩
  by_cases h3 : k = 3
  · subst h3
    have hK := kind_3
    go_enter Tryz.func54, Tryz.ntmps54
    go_wp2
    all_goals go_ret
    all_goals exact ⟨ret_int (by unfold formE; (try rw [hK]); (first | (simp_all; done) | (cases e <;> simp_all; done) | (cases e <;> simp_all <;> (intros; omega)))), below_b1 _ _⟩
  by_cases h4 : k = 4
  · subst h4
    have hK := kind_4
    go_enter Tryz.func54, Tryz.ntmps54
    go_wp2
    all_goals go_ret
    all_goals exact ⟨ret_int (by unfold formE; (try rw [hK]); (first | (simp_all; done) | (cases e <;> simp_all; done) | (cases e <;> simp_all <;> (intros; omega)))), below_b1 _ _⟩
  have hK : Hid (kindB k c n e = false) := Lib.hid (by unfold kindB; rw [if_neg (by omega), if_neg h3, if_neg h4])
  have hor : (decide (k < 1) = true) ∨ (decide (k < 1) = false ∧ decide (4 < k) = true) := by
    by_cases h : k < 1
    · exact .inl (decide_eq_true h)
    · exact .inr ⟨decide_eq_false h, decide_eq_true (by omega)⟩
  clear h1 h2 h3 h4
  rcases hor with g1 | ⟨g1, g2⟩ <;> (
    go_enter Tryz.func54, Tryz.ntmps54
    go_wp2
    all_goals go_ret
    all_goals exact ⟨ret_int (by unfold formE; rw [hK.out]; rfl), below_b1 _ _⟩)
end Go.Proofs.YtkngkajojcmmlaaGreatDoor

/- What a node has: the program's checkNode and the reference's value, over what Symbol answers. -/
namespace Go.Proofs.YtkngkajojcmmlaaGreatDoor
open Go.RowKit Go.PlainAid

/-- The error of what a node has; b: its string is a symbol. -/
def valE (k n : Int) (b : Bool) : Int := if k = 2 ∧ n ≠ 0 ∧ n ≠ 1 then 7 else if k = 3 ∧ b = false then 6 else 0
/-- The error of a node of this depth. -/
def nodeE (k c n : Int) (e b : Bool) (depth : Int) : Int := if kindB k c n e = false then 6 else if 32 < depth then 3 else valE k n b
/-- Symbol answers b of this string, in every world above w. -/
def SymAt (f : FuncId) (s : List UInt8) (b : Bool) (w : World) : Prop := ∀ W, Below w.heap.size w W → Calls Tryz.prog f #[.string (str s)] W fun r w' => r = .returned (.bool b) ∧ Below W.heap.size W w'

set_option maxRecDepth 50000 in
set_option maxHeartbeats 1600000 in
theorem value_any (k c n : Int) (s : List UInt8) (b : Bool) (w : World) (HS : Hid (SymAt 33 s b w)) : Calls Tryz.prog 55 #[.agg #[.int .i64 k, .int .i64 c, .int .i64 n, .string (str s)]] w fun r w' => r = .returned (.int .i64 (valE k n b)) ∧ Below w.heap.size w w' := by
  by_cases h2 : k = 2
  · subst h2
    by_cases h : n = 0 ∨ n = 1
    · have hV : Hid (valE 2 n b = 0) := Lib.hid (by unfold valE; rw [if_neg (by omega), if_neg (by omega)])
      rcases h with rfl | rfl <;> (
        go_enter Tryz.func55, Tryz.ntmps55
        go_wp2
        go_ret
        exact ⟨ret_int (by rw [hV.out]), below_b1 _ _⟩)
    · have hV : Hid (valE 2 n b = 7) := Lib.hid (by unfold valE; rw [if_pos (by omega)])
      have g0 : (n != 0) = true := bne_iff_ne.2 (by omega)
      have g1 : (n != 1) = true := bne_iff_ne.2 (by omega)
      clear h
      go_enter Tryz.func55, Tryz.ntmps55
      go_wp2
      go_ret
      exact ⟨ret_int (by rw [hV.out]), below_b1 _ _⟩
  by_cases h3 : k = 3
  · subst h3
    have hV : Hid (valE 3 n b = if b = false then 6 else 0) := Lib.hid (by unfold valE; rw [if_neg (by omega)]; simp)
    have C := Lib.hid (HS.out _ (below_b1 w (.cells #[.int .i64 3, .int .i64 c, .int .i64 n, .string (str s)] 40)))
    clear h2
    cases b <;> (
      go_enter Tryz.func55, Tryz.ntmps55
      go_wp2_with (go_at_call 33; refine C.out.mono ?_; rintro r w1 ⟨rfl, hb1⟩)
      go_ret
      exact ⟨ret_int (by rw [hV.out]; rfl), (below_b1 w _).trans (hb1.mono (below_b1 w _).size)⟩)
  · have hV : Hid (valE k n b = 0) := Lib.hid (by unfold valE; rw [if_neg (by omega), if_neg (by omega)])
    have g2 : (k == 2) = false := beq_eq_false_iff_ne.mpr h2
    have g3 : (k == 3) = false := beq_eq_false_iff_ne.mpr h3
    clear h2 h3
    go_enter Tryz.func55, Tryz.ntmps55
    go_wp2
    go_ret
    exact ⟨ret_int (by rw [hV.out]), below_b1 _ _⟩

set_option maxRecDepth 50000 in
set_option maxHeartbeats 1600000 in
theorem checkNode_any (k c n : Int) (s : List UInt8) (e b : Bool) (he : ((str s).toList == []) = e) (depth : Int) (w : World) (HS : Hid (SymAt 22 s b w)) :
    Calls Tryz.prog 35 #[.agg #[.int .i64 k, .int .i64 c, .int .i64 n, .string (str s)], .int .i64 depth] w fun r w' => r = .returned (.int .i64 (nodeE k c n e b depth)) ∧ Below w.heap.size w w' := by
  obtain ⟨W0, hW0⟩ : ∃ W0, W0 = w.alloc (.cells #[.int .i64 k, .int .i64 c, .int .i64 n, .string (str s)] 40) := ⟨_, rfl⟩
  have hb0 : Below w.heap.size w W0 := by rw [hW0]; exact below_b1 _ _
  have CK := Lib.hid (ofKind_any k c n s e he W0)
  have HB : Hid (∀ W, Below W0.heap.size W0 W → Below w.heap.size w W ∧ W.cell? ⟨w.heap.size, 0, none⟩ = some (.int .i64 k) ∧ W.cell? ⟨w.heap.size, 2, none⟩ = some (.int .i64 n) ∧ W.cell? ⟨w.heap.size, 3, none⟩ = some (.string (str s))) := Lib.hid fun W hb => by
    have hc := World.alloc_heap_new w (.cells #[.int .i64 k, .int .i64 c, .int .i64 n, .string (str s)] 40)
    rw [← hW0] at hc
    have hc2 := (hb.block w.heap.size (Array.getElem?_eq_some_iff.1 hc).1).trans hc
    exact ⟨hb0.trans (hb.mono hb0.size), by simp [World.cell?, hc2], by simp [World.cell?, hc2], by simp [World.cell?, hc2]⟩
  obtain ⟨x, hx⟩ : ∃ x, kindB k c n e = x := ⟨_, rfl⟩
  have HX := Lib.hid hx
  clear he hx
  go_enter Tryz.func35, Tryz.ntmps35
  go_wp2_with fail
  -- MARK1
  rw [← hW0]
  clear hW0 hb0
  refine CK.out.mono ?_
  rintro r w1 ⟨rfl, hb1⟩
  rw [HX.out]
  obtain ⟨hb, c0, c2, c3⟩ := HB.out _ hb1
  cases x with
  | false =>
    have hV : Hid (nodeE k c n e b depth = 6) := Lib.hid (by unfold nodeE; rw [if_pos HX.out])
    go_wp2
    go_ret
    exact ⟨ret_int (by rw [hV.out]), hb⟩
  | true =>
  by_cases hd : 32 < depth
  · have hV : Hid (nodeE k c n e b depth = 3) := Lib.hid (by unfold nodeE; rw [if_neg (by rw [HX.out]; simp), if_pos hd])
    have hdd : decide (32 < depth) = true := decide_eq_true hd
    clear hd
    go_wp2
    go_ret
    exact ⟨ret_int (by rw [hV.out]), hb⟩
  have hN : Hid (nodeE k c n e b depth = valE k n b) := Lib.hid (by unfold nodeE; rw [if_neg (by rw [HX.out]; simp), if_neg hd])
  have hdd : decide (32 < depth) = false := decide_eq_false hd
  clear hd
  by_cases h2 : k = 2
  · subst h2
    by_cases h : n = 0 ∨ n = 1
    · have hV : Hid (valE 2 n b = 0) := Lib.hid (by unfold valE; rw [if_neg (by omega), if_neg (by omega)])
      rcases h with rfl | rfl <;> (
        go_wp2
        go_ret
        exact ⟨ret_int (by rw [hN.out, hV.out]), hb⟩)
    · have hV : Hid (valE 2 n b = 7) := Lib.hid (by unfold valE; rw [if_pos (by omega)])
      have g0 : (n != 0) = true := bne_iff_ne.2 (by omega)
      have g1 : (n != 1) = true := bne_iff_ne.2 (by omega)
      clear h
      go_wp2
      go_ret
      exact ⟨ret_int (by rw [hN.out, hV.out]), hb⟩
  by_cases h3 : k = 3
  · subst h3
    have hV : Hid (valE 3 n b = if b = false then 6 else 0) := Lib.hid (by unfold valE; rw [if_neg (by omega)]; simp)
    have C := Lib.hid (HS.out _ hb)
    clear h2
    cases b <;> (
      go_wp2_with (go_at_call 22; refine C.out.mono ?_; rintro r w2 ⟨rfl, hb2⟩)
      go_ret
      exact ⟨ret_int (by rw [hN.out, hV.out]; rfl), hb.trans (hb2.mono hb.size)⟩)
  · have hV : Hid (valE k n b = 0) := Lib.hid (by unfold valE; rw [if_neg (by omega), if_neg (by omega)])
    have g2 : (k == 2) = false := beq_eq_false_iff_ne.mpr h2
    have g3 : (k == 3) = false := beq_eq_false_iff_ne.mpr h3
    clear h2 h3
    go_wp2
    go_ret
    exact ⟨ret_int (by rw [hN.out, hV.out]), hb⟩
end Go.Proofs.YtkngkajojcmmlaaGreatDoor

/- Check: mathematics. -/
namespace Go.Proofs.YtkngkajojcmmlaaGreatDoor

/-- What Check returns of the nodes from i on, where the stack st says what is missing (its top first); E: the error of a node at a depth. -/
def chkGo (E : Nd → Int → Int) : List Nat → Nat → List Nd → Int × Int
  | st, i, [] => if st = [] then (0, 0) else ((i : Int), 6)
  | st, i, x :: t => if st = [] then ((i : Int), 6) else if E x ((st.length : Int) - 1) ≠ 0 then ((i : Int), E x ((st.length : Int) - 1)) else chkGo E (pushN x.2.1.toNat st) (i + 1) t
def chkD (E : Nd → Int → Int) (t : List Nd) : Int × Int := if t = [] then (0, 6) else if 400 < t.length then (0, 3) else chkGo E [1] 0 t
def kidsL (t : List Nd) : List Nat := t.map fun x => x.2.1.toNat
/-- How far Check has come: k nodes are good, and the stack is st. -/
def ChkAt (E : Nd → Int → Int) (t : List Nd) (k : Nat) (st : List Nat) : Prop := chkGo E [1] 0 t = chkGo E st k (t.drop k)
theorem chkAt_start (E : Nd → Int → Int) (t : List Nd) : ChkAt E t 0 [1] := by unfold ChkAt; rw [List.drop_zero]
theorem chkAt_step {E : Nd → Int → Int} {t : List Nd} {k : Nat} {st : List Nat} {x : Nd} (h : ChkAt E t k st) (hx : t[k]? = some x) (hst : st ≠ []) (hE : E x ((st.length : Int) - 1) = 0) : ChkAt E t (k + 1) (pushN x.2.1.toNat st) := by
  unfold ChkAt at *
  have hk := (List.getElem?_eq_some_iff.1 hx)
  rw [h, List.drop_eq_getElem_cons hk.1, hk.2, chkGo, if_neg hst, if_neg (by rw [hE]; simp)]
theorem chkAt_over {E : Nd → Int → Int} {t : List Nd} {k : Nat} {x : Nd} (h : ChkAt E t k []) (hx : t[k]? = some x) : chkGo E [1] 0 t = ((k : Int), 6) := by
  unfold ChkAt at h
  have hk := (List.getElem?_eq_some_iff.1 hx)
  rw [h, List.drop_eq_getElem_cons hk.1, hk.2, chkGo, if_pos rfl]
theorem chkAt_bad {E : Nd → Int → Int} {t : List Nd} {k : Nat} {st : List Nat} {x : Nd} (h : ChkAt E t k st) (hx : t[k]? = some x) (hst : st ≠ []) (hE : E x ((st.length : Int) - 1) ≠ 0) : chkGo E [1] 0 t = ((k : Int), E x ((st.length : Int) - 1)) := by
  unfold ChkAt at h
  have hk := (List.getElem?_eq_some_iff.1 hx)
  rw [h, List.drop_eq_getElem_cons hk.1, hk.2, chkGo, if_neg hst, if_pos hE]
theorem chkAt_end {E : Nd → Int → Int} {t : List Nd} {k : Nat} {st : List Nat} (h : ChkAt E t k st) (hk : t.length ≤ k) : chkGo E [1] 0 t = if st = [] then (0, 0) else ((k : Int), 6) := by
  unfold ChkAt at h
  rw [h, List.drop_of_length_le hk, chkGo]
/-- What Check takes is a flat tree. -/
theorem chkGo_stack : ∀ (E : Nd → Int → Int) (t : List Nd) (st : List Nat) (i : Nat), (chkGo E st i t).2 = 0 → stackN st (kidsL t) = some [] := by
  intro E t
  induction t with
  | nil =>
    intro st i h
    rw [chkGo] at h
    split at h
    · rename_i hs; rw [hs]; rfl
    · cases h
  | cons x t ih =>
    intro st i h
    rw [chkGo] at h
    split at h
    · cases h
    · rename_i hs
      split at h
      · rename_i hE; exact absurd h hE
      · show stackN st (x.2.1.toNat :: kidsL t) = some []
        rw [stackN, if_neg hs]
        exact ih _ _ h
theorem chkD_tree {E : Nd → Int → Int} {t : List Nd} (h : (chkD E t).2 = 0) : eat (kidsL t) 1 = some [] ∧ t ≠ [] ∧ t.length ≤ 400 := by
  unfold chkD at h
  by_cases h1 : t = []
  · rw [if_pos h1] at h; cases h
  · rw [if_neg h1] at h
    by_cases h2 : 400 < t.length
    · rw [if_pos h2] at h; cases h
    · rw [if_neg h2] at h
      have := (stack_eat (kidsL t) [1] (by intro a ha; cases ha; decide)).1 (chkGo_stack E t [1] 0 h)
      exact ⟨this, h1, by omega⟩
end Go.Proofs.YtkngkajojcmmlaaGreatDoor

/- The reference's end of a subtree. -/
namespace Go.Proofs.YtkngkajojcmmlaaGreatDoor
open Go.RowKit Go.PlainAid

/-- Where the children of node i behind the first k begin. -/
def posK (ks : List Nat) (i k : Nat) : Nat := match eat (ks.drop (i + 1)) k with | some r => ks.length - r.length | none => 0
theorem posK_start {ks : List Nat} {i : Nat} (hi : i < ks.length) : posK ks i 0 = i + 1 := by
  unfold posK; rw [eat_zero]; simp only [List.length_drop]; omega
theorem eat_first {ks : List Nat} {i c : Nat} {r : List Nat} (hc : ks[i]? = some c) (h : eat (ks.drop i) 1 = some r) : eat (ks.drop (i + 1)) c = some r := by
  have hk := List.getElem?_eq_some_iff.1 hc
  rw [List.drop_eq_getElem_cons hk.1, hk.2] at h
  exact h
theorem posK_end {ks : List Nat} {i c : Nat} {r : List Nat} (hc : ks[i]? = some c) (h : eat (ks.drop i) 1 = some r) : posK ks i c = endN ks i := by
  unfold posK endN; rw [eat_first hc h, h]
theorem posK_step {ks : List Nat} {i c k : Nat} {r : List Nat} (hc : ks[i]? = some c) (h : eat (ks.drop i) 1 = some r) (hk : k < c) :
    i < posK ks i k ∧ posK ks i k < ks.length ∧ (∃ r', eat (ks.drop (posK ks i k)) 1 = some r') ∧ endN ks (posK ks i k) = posK ks i (k + 1) := by
  have hi := (List.getElem?_eq_some_iff.1 hc).1
  have h1 := eat_first hc h
  rw [show c = k + (1 + (c - k - 1)) by omega, eat_add] at h1
  cases hq : eat (ks.drop (i + 1)) k with
  | none => rw [hq] at h1; cases h1
  | some rk =>
    rw [hq] at h1
    have h2 : eat rk (1 + (c - k - 1)) = some r := h1
    rw [eat_add] at h2
    cases hq2 : eat rk 1 with
    | none => rw [hq2] at h2; cases h2
    | some r1 =>
      obtain ⟨p, e1, _, _⟩ := eat_suffix _ _ _ hq
      have hl := congrArg List.length e1
      rw [List.length_drop, List.length_append] at hl
      have hne : rk ≠ [] := by rintro rfl; cases hq2
      have hrk := List.length_pos_iff.2 hne
      have hP : posK ks i k = ks.length - rk.length := by unfold posK; rw [hq]
      have hD : ks.drop (posK ks i k) = rk := by
        rw [hP, show ks.length - rk.length = (i + 1) + p.length by omega, ← List.drop_drop, e1, List.drop_left]
      refine ⟨by rw [hP]; omega, by rw [hP]; omega, ⟨r1, by rw [hD]; exact hq2⟩, ?_⟩
      unfold endN
      rw [hD, hq2]
      unfold posK
      rw [eat_add, hq]
      show _ = match eat rk 1 with | some r => ks.length - r.length | none => 0
      rw [hq2]

set_option maxRecDepth 50000 in
set_option maxHeartbeats 1600000 in
theorem rend_any (g off cap : Nat) (t : List Nd) (w0 : World) (hg : g < w0.heap.size) (hl : t.length ≤ 1000000) (h0 : ∀ x ∈ t, 0 ≤ x.2.1)
    (hc : ∀ j u, (dcs t)[j]? = some u → w0.cell? ⟨g, off + j, none⟩ = some u) : ∀ (f i : Nat) (w : World), t.length - i ≤ f → i < t.length → (∃ r, eat ((kidsL t).drop i) 1 = some r) → Below w0.heap.size w0 w →
    Calls Tryz.prog 57 #[.slice (some ⟨g, off, none⟩) t.length cap, .int .i64 (i : Int)] w fun e w' => e = .returned (.int .i64 (endN (kidsL t) i : Int)) ∧ Below w.heap.size w w' := by
  have hkl : (kidsL t).length = t.length := List.length_map ..
  intro f
  induction f with
  | zero => intro i w h1 h2; omega
  | succ f ih =>
    intro i w hf hi ⟨r, hr⟩ hb
    obtain ⟨x, hx⟩ : ∃ x, t[i]? = some x := ⟨_, List.getElem?_eq_getElem hi⟩
    have hkc : (kidsL t)[i]? = some x.2.1.toNat := by unfold kidsL; rw [List.getElem?_map, hx]; rfl
    obtain ⟨c, hcE⟩ : ∃ c : Nat, x.2.1 = (c : Int) := ⟨x.2.1.toNat, by have := h0 x (List.mem_of_getElem? hx); omega⟩
    rw [show x.2.1.toNat = c by omega] at hkc
    have HCell : Hid (∀ W, Below w.heap.size w W → W.cell? ⟨g, off + i * 4 + 1, none⟩ = some (.int .i64 (c : Int))) := Lib.hid fun W hW => by
      have hbw := hb.trans (hW.mono hb.size)
      have := (hbw.cell (p := ⟨g, off + (i * 4 + 1), none⟩) hg).trans (hc _ _ (dcs_at t hx).2.1)
      rw [hcE] at this
      exact this
    have HEnd := Lib.hid (posK_end hkc hr)
    have HStart := Lib.hid (posK_start (ks := kidsL t) (by rw [hkl]; exact hi))
    have HStep : Hid (∀ k, k < c → ∃ p : Nat, posK (kidsL t) i k = p ∧ p < t.length ∧ ∀ W, Below w.heap.size w W → Calls Tryz.prog 57 #[.slice (some ⟨g, off, none⟩) t.length cap, .int .i64 (p : Int)] W fun e w' => e = .returned (.int .i64 (posK (kidsL t) i (k + 1) : Int)) ∧ Below W.heap.size W w') := Lib.hid fun k hk => by
      obtain ⟨s1, s2, s3, s4⟩ := posK_step hkc hr hk
      refine ⟨_, rfl, by rw [← hkl]; exact s2, fun W hW => ?_⟩
      have := ih _ W (by omega) (by rw [← hkl]; exact s2) s3 (hb.trans (hW.mono hb.size))
      rw [s4] at this; exact this
    have hcl : c ≤ 1000000 := by
      obtain ⟨q, e1, e2, _⟩ := eat_suffix _ _ _ (eat_first hkc hr)
      have hl2 := congrArg List.length e1
      rw [List.length_drop, List.length_append, hkl] at hl2
      omega
    have hi0 : (0 : Int) ≤ (i : Int) := Int.natCast_nonneg _
    have hi1 : (i : Int) < (t.length : Int) := by omega
    obtain ⟨n, hn⟩ : ∃ n, t.length = n := ⟨_, rfl⟩
    rw [hn] at hi1 hl HStep ⊢
    clear ih hr hkc hcE hx hc h0 hf hb
    have HP : Hid (∀ k, k ≤ c → posK (kidsL t) i k ≤ n) := Lib.hid fun k _ => by
      unfold posK
      split
      · rw [hkl, hn]; omega
      · omega
    clear hkl hn
    go_enter Tryz.func57, Tryz.ntmps57
    go_wp2_with fail
    -- MARK1
    go_loopw [5, 6] (fun x5 x6 wr => ∃ k p : Nat, x6 = .int .i64 k ∧ x5 = .int .i64 p ∧ Hid (posK (kidsL t) i k = p) ∧ k ≤ c ∧ Below w.heap.size w wr) (fun _ x6 _ => c - (intOf x6).toNat)
    case atStart => exact ⟨0, i + 1, rfl, by go_num, Lib.hid HStart.out, Nat.zero_le _, Below.refl _ _⟩
    case round =>
      obtain ⟨k, p, rfl, rfl, HPk, hk, hbr⟩ := hrel
      have d0 := HCell.out _ hbr
      by_cases hlt : k < c
      · obtain ⟨p', hp', hpn, C⟩ := HStep.out k hlt
        have : p = p' := HPk.out.symm.trans hp'
        subst this
        have CC := Lib.hid (C _ hbr)
        have hdk : decide ((k : Int) < (c : Int)) = true := decide_eq_true (by omega)
        clear hp' C
        go_wp2_with fail
        -- MARK2
        refine CC.out.mono ?_
        rintro e w1 ⟨rfl, hb1⟩
        go_wp2_with fail
        go_roundw
        case rel => exact ⟨k + 1, _, by go_num, rfl, Lib.hid rfl, by omega, hbr.trans (hb1.mono hbr.size)⟩
        case measure => simp [intOf]; omega
      · obtain rfl : k = c := by omega
        go_wp2_with fail
        go_ret
        exact ⟨ret_int (by rw [← HEnd.out, HPk.out]), hbr⟩
end Go.Proofs.YtkngkajojcmmlaaGreatDoor

/- The law's Far. -/
namespace Go.Proofs.YtkngkajojcmmlaaGreatDoor
open Go.RowKit Go.PlainAid

/-- Far: if it says false, there are few nodes, with short strings. -/
def DFarV (t : List Nd) (w : World) (e : Ending) (w' : World) : Prop := ∃ b, e = .returned (.bool b) ∧ (b = false → t.length ≤ 410 ∧ ∀ x ∈ t, x.2.2.2.length ≤ 100) ∧ Below w.heap.size w w'
set_option maxRecDepth 50000 in
set_option maxHeartbeats 1600000 in
theorem dfar_none (a : Option Addr) (c : Nat) (w : World) : Calls Tryz.prog 4 #[.slice a 0 c] w (DFarV [] w) := by
  go_enter Tryz.func4, Tryz.ntmps4
  go_wp2
  go_loop [3] (fun i => i = .int .i64 0) (fun _ => 0)
  case atStart => rfl
  case round =>
    subst hrel
    go_wp2
    go_ret
    exact ⟨_, rfl, fun _ => ⟨Nat.zero_le _, fun x h => by cases h⟩, Below.refl _ _⟩
set_option maxRecDepth 50000 in
set_option maxHeartbeats 1600000 in
theorem dfar_any (v : Value) (t : List Nd) (w : World) (h : NdsAt w v t) : Calls Tryz.prog 4 #[v] w (DFarV t w) := by
  rcases h with ⟨_, _, rfl, rfl⟩ | ⟨g, off, cap, rfl, hg, hc⟩
  · exact dfar_none _ _ w
  · have HC : Hid (∀ (wr : World) (k : Nat) (x : Nd), Below w.heap.size w wr → t[k]? = some x → wr.cell? ⟨g, off + k * 4 + 3, none⟩ = some (.string (str x.2.2.2))) :=
      Lib.hid fun wr k x hb hx => (hb.cell (p := ⟨g, off + (k * 4 + 3), none⟩) hg).trans (hc _ _ (dcs_at t hx).2.2.2)
    clear hc
    by_cases hbg : 410 < t.length
    · have hd : decide ((410 : Int) < (t.length : Int)) = true := decide_eq_true (by omega)
      go_enter Tryz.func4, Tryz.ntmps4
      go_wp2
      go_ret
      exact ⟨_, rfl, (fun e => by cases e), Below.refl _ _⟩
    · have hd : decide ((410 : Int) < (t.length : Int)) = false := decide_eq_false (by omega)
      go_enter Tryz.func4, Tryz.ntmps4
      go_wp2
      go_loopw [3] (fun i wr => ∃ k : Nat, k ≤ t.length ∧ i = .int .i64 k ∧ Hid (∀ (j : Nat) x, j < k → t[j]? = some x → x.2.2.2.length ≤ 100) ∧ Below w.heap.size w wr) (fun i _ => t.length - (intOf i).toNat)
      case atStart => exact ⟨0, Nat.zero_le _, rfl, Lib.hid (fun j x h => by omega), Below.refl _ _⟩
      case round =>
        obtain ⟨k, hk, rfl, hno, hbel⟩ := hrel
        by_cases hlt : k < t.length
        · obtain ⟨x, hxk⟩ : ∃ x, t[k]? = some x := ⟨_, List.getElem?_eq_getElem hlt⟩
          have c0 := HC.out wr k x hbel hxk
          have hkl : (k : Int) < (t.length : Int) := by omega
          have hk0 : (0 : Int) ≤ (k : Int) := Int.natCast_nonneg _
          have HX := Lib.hid hxk
          clear hxk
          obtain ⟨z, hz⟩ : ∃ z, (str x.2.2.2).size = z := ⟨_, rfl⟩
          have HZ : Hid (x.2.2.2.length = z) := Lib.hid (by rw [← hz, str_size])
          by_cases hbig : 100 < z
          · have hd2 : decide ((100 : Int) < (z : Int)) = true := decide_eq_true (by omega)
            clear hbig
            go_wp2
            go_ret
            exact ⟨_, rfl, (fun e => by cases e), hbel⟩
          · have hd2 : decide ((100 : Int) < (z : Int)) = false := decide_eq_false (by omega)
            have HN : Hid (∀ (j : Nat) x, j < k + 1 → t[j]? = some x → x.2.2.2.length ≤ 100) := Lib.hid (fun j y h1 h2 => by
              by_cases e : j = k
              · rw [e, HX.out] at h2; rw [← Option.some.inj h2, HZ.out]; omega
              · exact hno.out j y (by omega) h2)
            clear hno hbig
            go_wp2
            go_roundw
            case rel => exact ⟨k + 1, by omega, by go_num, HN, hbel⟩
            case measure => simp [intOf]; omega
        · obtain rfl : k = t.length := by omega
          go_wp2
          go_ret
          exact ⟨_, rfl, fun _ => ⟨by omega, fun x hx => by obtain ⟨j, hj⟩ := List.getElem?_of_mem hx; exact hno.out j x (List.getElem?_eq_some_iff.1 hj).1 hj⟩, hbel⟩
end Go.Proofs.YtkngkajojcmmlaaGreatDoor

/- The reference's Ints: two rows of numbers are the same. -/
namespace Go.Proofs.YtkngkajojcmmlaaGreatDoor
open Go.RowKit Go.PlainAid

/-- The slice value v holds the numbers l (an empty one may have an address). -/
def IntRow (w : World) (v : Value) (l : List Int) : Prop := ∃ a c, v = .slice a l.length c ∧ (l = [] ∨ ∃ g off, a = some ⟨g, off, none⟩ ∧ g < w.heap.size ∧ ∀ (j : Nat) (n : Int), l[j]? = some n → w.cell? ⟨g, off + j, none⟩ = some (.int .i64 n))
theorem IntRow.below {w w' : World} {v : Value} {l : List Int} (h : IntRow w v l) (hb : Below w.heap.size w w') : IntRow w' v l := by
  obtain ⟨a, c, e, h⟩ := h
  refine ⟨a, c, e, h.imp id ?_⟩
  rintro ⟨g, off, e, hg, hc⟩
  exact ⟨g, off, e, Nat.lt_of_lt_of_le hg hb.size, fun j n hj => (hb.cell (p := ⟨g, off + j, none⟩) hg).trans (hc j n hj)⟩
theorem take_more {l m : List Int} {k : Nat} {x : Int} (h : l.take k = m.take k) (h1 : l[k]? = some x) (h2 : m[k]? = some x) : l.take (k + 1) = m.take (k + 1) := by
  rw [List.take_add_one, List.take_add_one, h, h1, h2]
set_option maxRecDepth 50000 in
set_option maxHeartbeats 1600000 in
theorem ints4_any (v v' : Value) (l m : List Int) (w : World) (h : IntRow w v l) (h' : IntRow w v' m) (hl : l.length ≤ 1000000) :
    Calls Tryz.prog 21 #[v, v'] w fun e w' => e = .returned (.bool (decide (l = m))) ∧ Below w.heap.size w w' := by
  obtain ⟨a, c, rfl, hA⟩ := h
  obtain ⟨a', c', rfl, hA'⟩ := h'
  have HA := Lib.hid hA
  have HA' := Lib.hid hA'
  clear hA hA'
  by_cases hn : l.length = m.length
  · obtain ⟨n, hln⟩ : ∃ n, l.length = n := ⟨_, rfl⟩
    have hmn : m.length = n := hn ▸ hln
    have HL := Lib.hid hln
    have HM := Lib.hid hmn
    rw [hln] at hl
    rw [hln, hmn]
    clear hn hln hmn
    go_enter Tryz.func21, Tryz.ntmps21
    go_wp2_with fail
    go_loopw [5] (fun x5 wr => ∃ k : Nat, x5 = .int .i64 k ∧ k ≤ n ∧ Hid (l.take k = m.take k) ∧ Below w.heap.size w wr) (fun x5 _ => n - (intOf x5).toNat)
    case atStart => exact ⟨0, rfl, Nat.zero_le _, Lib.hid (by rw [List.take_zero, List.take_zero]), Below.refl _ _⟩
    case round =>
      obtain ⟨k, rfl, hk, HT, hbr⟩ := hrel
      by_cases hlt : k < n
      · obtain ⟨x, hx⟩ : ∃ x, l[k]? = some x := ⟨_, List.getElem?_eq_getElem (by rw [HL.out]; exact hlt)⟩
        obtain ⟨y, hy⟩ : ∃ y, m[k]? = some y := ⟨_, List.getElem?_eq_getElem (by rw [HM.out]; exact hlt)⟩
        rcases HA.out with hnil | ⟨g1, o1, rfl, hg1, hc1⟩
        · rw [hnil] at hx; cases hx
        rcases HA'.out with hnil | ⟨g2, o2, rfl, hg2, hc2⟩
        · rw [hnil] at hy; cases hy
        have d1 : wr.cell? ⟨g1, o1 + k, none⟩ = some (.int .i64 x) := (hbr.cell (p := ⟨g1, o1 + k, none⟩) hg1).trans (hc1 _ _ hx)
        have d2 : wr.cell? ⟨g2, o2 + k, none⟩ = some (.int .i64 y) := (hbr.cell (p := ⟨g2, o2 + k, none⟩) hg2).trans (hc2 _ _ hy)
        have hk0 : (0 : Int) ≤ (k : Int) := Int.natCast_nonneg _
        have hk1 : (k : Int) < (n : Int) := by omega
        by_cases hxy : x = y
        · subst hxy
          have HT2 := Lib.hid (take_more HT.out hx hy)
          clear hx hy hc1 hc2
          go_wp2_with fail
          go_quiet (fail)
          go_wp2_with fail
          exact ⟨⟨k + 1, by go_num, by omega, HT2, ⟨hbr.os, hbr.tape, hbr.output, hbr.size, hbr.block⟩⟩, by simp [intOf]; omega⟩
        · have hne : (x != y) = true := bne_iff_ne.2 hxy
          have HD : Hid (decide (l = m) = false) := Lib.hid (decide_eq_false (fun e => by rw [e, hy] at hx; exact hxy (Option.some.inj hx).symm))
          clear hx hy hc1 hc2 hxy
          go_wp2_with fail
          go_quiet (fail)
          go_wp2_with fail
          go_ret
          exact ⟨ret_bool (by rw [HD.out]), ⟨hbr.os, hbr.tape, hbr.output, hbr.size, hbr.block⟩⟩
      · obtain rfl : k = n := by omega
        have HD : Hid (decide (l = m) = true) := Lib.hid (decide_eq_true (by
          have := HT.out
          rwa [List.take_of_length_le (Nat.le_of_eq HL.out), List.take_of_length_le (Nat.le_of_eq HM.out)] at this))
        go_wp2_with fail
        go_ret
        exact ⟨ret_bool (by rw [HD.out]), hbr⟩
  · have HD : Hid (decide (l = m) = false) := Lib.hid (decide_eq_false (fun e => hn (by rw [e])))
    have hne : ((l.length : Int) != (m.length : Int)) = true := bne_iff_ne.2 (by omega)
    clear hn
    go_enter Tryz.func21, Tryz.ntmps21
    go_wp2_with fail
    go_ret
    exact ⟨ret_bool (by rw [HD.out]), Below.refl _ _⟩
end Go.Proofs.YtkngkajojcmmlaaGreatDoor

/- Flat trees: positions of children, parents, paths (mathematics). -/
namespace Go.Proofs.YtkngkajojcmmlaaGreatDoor

def Tr (ks : List Nat) : Prop := eat ks 1 = some []
theorem Tr.each {ks : List Nat} (h : Tr ks) {p : Nat} (hp : p < ks.length) : ∃ r, eat (ks.drop p) 1 = some r := eat_each h p hp
theorem Tr.end_bd {ks : List Nat} (h : Tr ks) {p : Nat} (hp : p < ks.length) : p < endN ks p ∧ endN ks p ≤ ks.length := by
  obtain ⟨r, hr⟩ := h.each hp
  have := endN_of (Nat.le_of_lt hp) hr
  omega
theorem Tr.pos {ks : List Nat} (h : Tr ks) : 0 < ks.length := by
  cases ks with
  | nil => cases h
  | cons k l => simp
theorem Tr.end_0 {ks : List Nat} (h : Tr ks) : endN ks 0 = ks.length := by
  unfold endN; rw [List.drop_zero, show eat ks 1 = some [] from h]; simp
/-- How many children a node has. -/
def cnt (ks : List Nat) (i : Nat) : Nat := ks.getD i 0
theorem cnt_at {ks : List Nat} {i : Nat} (hi : i < ks.length) : ks[i]? = some (cnt ks i) := by
  unfold cnt; rw [List.getD_eq_getElem?_getD, List.getElem?_eq_getElem hi]; rfl
theorem cnt_of {ks : List Nat} {i c : Nat} (h : ks[i]? = some c) : cnt ks i = c := by
  unfold cnt; rw [List.getD_eq_getElem?_getD, h]; rfl
theorem Tr.pos_step {ks : List Nat} (h : Tr ks) {i k : Nat} (hi : i < ks.length) (hk : k < cnt ks i) :
    i < posK ks i k ∧ posK ks i k < ks.length ∧ endN ks (posK ks i k) = posK ks i (k + 1) := by
  obtain ⟨r, hr⟩ := h.each hi
  obtain ⟨a, b, _, d⟩ := posK_step (cnt_at hi) hr hk
  exact ⟨a, b, d⟩
theorem Tr.pos_next {ks : List Nat} (h : Tr ks) {i k : Nat} (hi : i < ks.length) (hk : k < cnt ks i) : posK ks i k < posK ks i (k + 1) := by
  obtain ⟨_, b, c⟩ := h.pos_step hi hk
  rw [← c]; exact (h.end_bd b).1
theorem Tr.pos_end {ks : List Nat} (h : Tr ks) {i : Nat} (hi : i < ks.length) : posK ks i (cnt ks i) = endN ks i := by
  obtain ⟨r, hr⟩ := h.each hi
  exact posK_end (cnt_at hi) hr
theorem Tr.pos_mono {ks : List Nat} (h : Tr ks) {i : Nat} (hi : i < ks.length) : ∀ {d k : Nat}, k + d ≤ cnt ks i → posK ks i k + d ≤ posK ks i (k + d) := by
  intro d
  induction d with
  | zero => intro k _; exact Nat.le_refl _
  | succ d ih =>
    intro k hk
    have h1 := ih (k := k) (by omega)
    have h2 := h.pos_next hi (k := k + d) (by omega)
    rw [show k + (d + 1) = k + d + 1 by omega]; omega
theorem Tr.pos_le {ks : List Nat} (h : Tr ks) {i k m : Nat} (hi : i < ks.length) (hk : k ≤ m) (hm : m ≤ cnt ks i) : posK ks i k ≤ posK ks i m := by
  have := h.pos_mono hi (d := m - k) (k := k) (by omega)
  rw [show k + (m - k) = m by omega] at this; omega
theorem Tr.pos_lt {ks : List Nat} (h : Tr ks) {i k m : Nat} (hi : i < ks.length) (hk : k < m) (hm : m ≤ cnt ks i) : posK ks i k < posK ks i m := by
  have := h.pos_mono hi (d := m - k) (k := k) (by omega)
  rw [show k + (m - k) = m by omega] at this; omega
theorem Tr.pos_inj {ks : List Nat} (h : Tr ks) {i k m : Nat} (hi : i < ks.length) (hk : k < cnt ks i) (hm : m < cnt ks i) (e : posK ks i k = posK ks i m) : k = m := by
  rcases Nat.lt_trichotomy k m with h1 | h1 | h1
  · have := h.pos_lt hi h1 (Nat.le_of_lt hm); omega
  · exact h1
  · have := h.pos_lt hi h1 (Nat.le_of_lt hk); omega
/-- Each node below another one is below one of its children. -/
theorem Tr.child {ks : List Nat} (h : Tr ks) {i j : Nat} (hi : i < ks.length) (h1 : i < j) (h2 : j < endN ks i) : ∃ k, k < cnt ks i ∧ posK ks i k ≤ j ∧ j < posK ks i (k + 1) := by
  have hE := h.pos_end hi
  have : ∀ m, m ≤ cnt ks i → j < posK ks i m → ∃ k, k < m ∧ posK ks i k ≤ j ∧ j < posK ks i (k + 1) := by
    intro m
    induction m with
    | zero => intro _ hj; rw [posK_start hi] at hj; omega
    | succ m ih =>
      intro hm hj
      by_cases hp : posK ks i m ≤ j
      · exact ⟨m, by omega, hp, hj⟩
      · obtain ⟨k, a, b⟩ := ih (by omega) (by omega)
        exact ⟨k, by omega, b⟩
  exact this _ (Nat.le_refl _) (by rw [hE]; exact h2)
/-- Subtrees nest. -/
theorem Tr.nest {ks : List Nat} (h : Tr ks) : ∀ (f : Nat) {i j : Nat}, j - i ≤ f → i < ks.length → i < j → j < endN ks i → endN ks j ≤ endN ks i := by
  intro f
  induction f with
  | zero => intro i j hf _ h1; omega
  | succ f ih =>
    intro i j hf hi h1 h2
    obtain ⟨k, hk, ha, hb⟩ := h.child hi h1 h2
    obtain ⟨s1, s2, s3⟩ := h.pos_step hi hk
    have hle : posK ks i (k + 1) ≤ endN ks i := by rw [← h.pos_end hi]; exact h.pos_le hi (by omega) (Nat.le_refl _)
    by_cases e : posK ks i k = j
    · rw [← e, s3]; exact hle
    · have := ih (i := posK ks i k) (j := j) (by omega) s2 (by omega) (by rw [s3]; exact hb)
      rw [s3] at this; omega
/-- The last node before i, from below p, whose subtree has i. -/
def parGo (ks : List Nat) (i : Nat) : Nat → Nat
  | 0 => 0
  | p + 1 => if i < endN ks p then p else parGo ks i p
def parN (ks : List Nat) (i : Nat) : Nat := parGo ks i i
theorem Tr.par {ks : List Nat} (h : Tr ks) {i : Nat} (hi : i < ks.length) (h0 : 0 < i) : parN ks i < i ∧ i < endN ks (parN ks i) ∧ ∀ q, parN ks i < q → q < i → endN ks q ≤ i := by
  have : ∀ p, 0 < p → p ≤ i → (∀ q, p ≤ q → q < i → endN ks q ≤ i) → parGo ks i p < i ∧ i < endN ks (parGo ks i p) ∧ ∀ q, parGo ks i p < q → q < i → endN ks q ≤ i := by
    intro p
    induction p with
    | zero => intro h; omega
    | succ p ih =>
      intro _ hp hq
      rw [parGo]
      by_cases hc : i < endN ks p
      · rw [if_pos hc]; exact ⟨by omega, hc, fun q h1 h2 => hq q (by omega) h2⟩
      · rw [if_neg hc]
        by_cases hp0 : p = 0
        · subst hp0; rw [h.end_0] at hc; omega
        · exact ih (by omega) (by omega) fun q h1 h2 => by
            by_cases e : q = p
            · subst e; omega
            · exact hq q (by omega) h2
  exact this i h0 (Nat.le_refl _) fun q h1 h2 => by omega
/-- A node is a child of its parent. -/
theorem Tr.par_child {ks : List Nat} (h : Tr ks) {i : Nat} (hi : i < ks.length) (h0 : 0 < i) : ∃ k, k < cnt ks (parN ks i) ∧ posK ks (parN ks i) k = i := by
  obtain ⟨p1, p2, p3⟩ := h.par hi h0
  obtain ⟨k, hk, ha, hb⟩ := h.child (i := parN ks i) (by omega) p1 p2
  refine ⟨k, hk, ?_⟩
  obtain ⟨s1, s2, s3⟩ := h.pos_step (i := parN ks i) (by omega) hk
  by_cases e : posK ks (parN ks i) k = i
  · exact e
  · have := p3 (posK ks (parN ks i) k) s1 (by omega); omega
theorem Tr.par_of {ks : List Nat} (h : Tr ks) {p k : Nat} (hp : p < ks.length) (hk : k < cnt ks p) : parN ks (posK ks p k) = p := by
  obtain ⟨s1, s2, s3⟩ := h.pos_step hp hk
  obtain ⟨p1, p2, p3⟩ := h.par (i := posK ks p k) s2 (by omega)
  obtain ⟨i, hi⟩ : ∃ i, posK ks p k = i := ⟨_, rfl⟩
  have hnx := h.pos_next hp hk
  rw [hi] at s1 s2 s3 p1 p2 p3 hnx ⊢
  have hin : i < endN ks p := by
    rw [← h.pos_end hp]; exact Nat.lt_of_lt_of_le hnx (h.pos_le hp (by omega) (Nat.le_refl _))
  rcases Nat.lt_trichotomy (parN ks i) p with hl | hl | hl
  · have := p3 p hl s1; omega
  · exact hl
  · -- between p and i: below an earlier child
    obtain ⟨m, hm, ma, mb⟩ := h.child hp hl (by omega)
    have hmk : m < k := by
      rcases Nat.lt_or_ge m k with h1 | h1
      · exact h1
      · have := h.pos_le hp (k := k) (m := m) h1 (Nat.le_of_lt hm); omega
    have h2 := h.pos_le hp (k := m + 1) (m := k) (by omega) (by omega)
    obtain ⟨t1, t2, t3⟩ := h.pos_step hp hm
    have hle : endN ks (parN ks i) ≤ posK ks p (m + 1) := by
      by_cases e : posK ks p m = parN ks i
      · rw [← e, t3]; exact Nat.le_refl _
      · have := h.nest _ (i := posK ks p m) (j := parN ks i) (Nat.le_refl _) t2 (by omega) (by omega); omega
    omega
/-- The children of a node. -/
def kidsN (ks : List Nat) (i : Nat) : List Nat := (List.range (cnt ks i)).map (posK ks i)
theorem kidsN_len (ks : List Nat) (i : Nat) : (kidsN ks i).length = cnt ks i := by unfold kidsN; rw [List.length_map, List.length_range]
theorem kidsN_at {ks : List Nat} {i k : Nat} (hk : k < cnt ks i) : (kidsN ks i)[k]? = some (posK ks i k) := by
  unfold kidsN; rw [List.getElem?_map, List.getElem?_range hk]; rfl
/-- Where a path leads. -/
def fol (ks : List Nat) : Nat → List Int → Option Nat
  | i, [] => some i
  | i, x :: r => if 0 ≤ x ∧ x < (cnt ks i : Int) then fol ks (posK ks i x.toNat) r else none
theorem fol_app (ks : List Nat) : ∀ (a b : List Int) (i : Nat), fol ks i (a ++ b) = (fol ks i a).bind fun j => fol ks j b := by
  intro a
  induction a with
  | nil => intro b i; rfl
  | cons x a ih =>
    intro b i
    rw [List.cons_append, fol, fol]
    by_cases h : 0 ≤ x ∧ x < (cnt ks i : Int)
    · rw [if_pos h, if_pos h, ih]
    · rw [if_neg h, if_neg h]; rfl
theorem fol_kid {ks : List Nat} {i k : Nat} (hk : k < cnt ks i) (r : List Int) : fol ks i ((k : Int) :: r) = fol ks (posK ks i k) r := by
  rw [fol, if_pos (by omega), Int.toNat_natCast]
theorem fol_one {ks : List Nat} {i j k : Nat} {l : List Int} (h : fol ks i l = some j) (hk : k < cnt ks j) : fol ks i (l ++ [(k : Int)]) = some (posK ks j k) := by
  rw [fol_app, h]; show fol ks j [(k : Int)] = _; rw [fol_kid hk]; rfl
theorem Tr.fol_bd {ks : List Nat} (h : Tr ks) : ∀ (l : List Int) (i j : Nat), i < ks.length → fol ks i l = some j → i ≤ j ∧ j < endN ks i ∧ (l ≠ [] → i < j) := by
  intro l
  induction l with
  | nil => intro i j hi e; cases e; exact ⟨Nat.le_refl _, (h.end_bd hi).1, fun e => absurd rfl e⟩
  | cons x l ih =>
    intro i j hi e
    rw [fol] at e
    split at e
    · rename_i hx
      have hk : x.toNat < cnt ks i := by omega
      obtain ⟨s1, s2, s3⟩ := h.pos_step hi hk
      obtain ⟨a, b, _⟩ := ih _ _ s2 e
      have hle : posK ks i (x.toNat + 1) ≤ endN ks i := by rw [← h.pos_end hi]; exact h.pos_le hi (by omega) (Nat.le_refl _)
      exact ⟨by omega, by omega, fun _ => by omega⟩
    · cases e
/-- One path leads to a node. -/
theorem Tr.fol_inj {ks : List Nat} (h : Tr ks) : ∀ (l m : List Int) (i j : Nat), i < ks.length → fol ks i l = some j → fol ks i m = some j → l = m := by
  intro l
  induction l with
  | nil =>
    intro m i j hi h1 h2
    cases h1
    cases m with
    | nil => rfl
    | cons y m => have := (h.fol_bd _ _ _ hi h2).2.2 (by simp); omega
  | cons x l ih =>
    intro m i j hi h1 h2
    cases m with
    | nil => cases h2; have := (h.fol_bd _ _ _ hi h1).2.2 (by simp); omega
    | cons y m =>
      rw [fol] at h1 h2
      split at h1
      · rename_i hx
        split at h2
        · rename_i hy
          have kx : x.toNat < cnt ks i := by omega
          have ky : y.toNat < cnt ks i := by omega
          obtain ⟨a1, a2, a3⟩ := h.pos_step hi kx
          obtain ⟨b1, b2, b3⟩ := h.pos_step hi ky
          obtain ⟨c1, c2, _⟩ := h.fol_bd _ _ _ a2 h1
          obtain ⟨d1, d2, _⟩ := h.fol_bd _ _ _ b2 h2
          have hxy : x.toNat = y.toNat := by
            rcases Nat.lt_trichotomy x.toNat y.toNat with g | g | g
            · have := h.pos_le hi (k := x.toNat + 1) (m := y.toNat) g (Nat.le_of_lt ky); omega
            · exact g
            · have := h.pos_le hi (k := y.toNat + 1) (m := x.toNat) g (Nat.le_of_lt kx); omega
          rw [hxy] at h1
          rw [show x = y by omega, ih _ _ _ b2 h1 h2]
        · cases h2
      · cases h1

/-- What stands before a place: how many subtrees are missing behind it. -/
theorem eat_front : ∀ (a : List Nat) (m : Nat), (∃ m', ∀ x, eat (a ++ x) m = eat x m') ∨ ∃ r, r ≠ [] ∧ ∀ x, eat (a ++ x) m = some (r ++ x) := by
  intro a
  induction a with
  | nil => intro m; exact .inl ⟨m, fun _ => rfl⟩
  | cons k a ih =>
    intro m
    cases m with
    | zero => exact .inr ⟨k :: a, by simp, fun x => eat_zero _⟩
    | succ m =>
      rcases ih (k + m) with ⟨m', h⟩ | ⟨r, hr, h⟩
      · exact .inl ⟨m', fun x => by rw [List.cons_append, eat_cons]; exact h x⟩
      · exact .inr ⟨r, hr, fun x => by rw [List.cons_append, eat_cons]; exact h x⟩
/-- A subtree may be replaced by another tree. -/
theorem Tr.put {a s b s' : List Nat} (h : Tr (a ++ (s ++ b))) (hs : Tr s) (hs' : Tr s') : Tr (a ++ (s' ++ b)) := by
  rcases eat_front a 1 with ⟨m, hm⟩ | ⟨r, hr, hx⟩
  · have h1 : eat (s ++ b) m = some [] := by rw [← hm]; exact h
    show eat _ 1 = _
    rw [hm]
    cases m with
    | zero =>
      rw [eat_zero] at h1
      have h2 : s.length + b.length = 0 := by have h3 := congrArg List.length (Option.some.inj h1); rwa [List.length_append] at h3
      have := hs.pos
      omega
    | succ m =>
      rw [Nat.add_comm m 1, eat_add, eat_behind _ _ _ b hs] at h1
      rw [Nat.add_comm m 1, eat_add, eat_behind _ _ _ b hs']
      exact h1
  · have := (hx (s ++ b)).symm.trans h
    have h3 : r.length + (s ++ b).length = 0 := by have h4 := congrArg List.length (Option.some.inj this); rwa [List.length_append] at h4
    have := List.length_pos_iff.2 hr
    omega
theorem Tr.list : ∀ (l : List (List Nat)), (∀ x ∈ l, Tr x) → Tr (l.length :: l.flatten) := by
  intro l h
  show eat _ 1 = _
  rw [eat_cons]
  have : ∀ (l : List (List Nat)), (∀ x ∈ l, Tr x) → eat l.flatten l.length = some [] := by
    intro l
    induction l with
    | nil => intro _; rfl
    | cons x l ih =>
      intro h
      rw [List.flatten_cons, List.length_cons, Nat.add_comm, eat_add, eat_behind _ _ _ _ (h x (by simp))]
      exact ih fun y hy => h y (by simp [hy])
  exact this l h
/-- The part of a flat tree that a node has is one. -/
theorem Tr.sub {ks : List Nat} (h : Tr ks) {i : Nat} (hi : i < ks.length) : Tr ((ks.take (endN ks i)).drop i) ∧ ks = ks.take i ++ ((ks.take (endN ks i)).drop i ++ ks.drop (endN ks i)) := by
  obtain ⟨r, hr⟩ := h.each hi
  obtain ⟨e1, e2, e3⟩ := endN_of (Nat.le_of_lt hi) hr
  obtain ⟨p, hp, he⟩ := eat_cut hr
  have hs : ks = ks.take i ++ ((ks.take (endN ks i)).drop i ++ ks.drop (endN ks i)) := by
    have h1 : ks.drop (endN ks i) = (ks.drop i).drop (endN ks i - i) := by rw [List.drop_drop, show i + (endN ks i - i) = endN ks i by omega]
    rw [List.drop_take, h1, List.take_append_drop, List.take_append_drop]
  refine ⟨?_, hs⟩
  have hd : ks.drop i = (ks.take (endN ks i)).drop i ++ ks.drop (endN ks i) := by
    have := congrArg (List.drop i) hs
    rw [List.drop_left' (by rw [List.length_take]; omega)] at this
    exact this
  rw [e3, hp] at hd
  show eat _ 1 = _
  rw [← List.append_cancel_right hd]; exact he
end Go.Proofs.YtkngkajojcmmlaaGreatDoor

/- The stack of Check in memory, and what Check returns. -/
namespace Go.Proofs.YtkngkajojcmmlaaGreatDoor
open Go.RowKit Go.PlainAid

/-- A stack (its top first) as the elements of a row, its top last. -/
def stV (st : List Nat) : List Value := st.reverse.map fun q : Nat => Value.int .i64 (q : Int)
theorem stV_len (st : List Nat) : (stV st).length = st.length := by unfold stV; rw [List.length_map, List.length_reverse]
theorem stV_cons (a : Nat) (r : List Nat) : stV (a :: r) = stV r ++ [.int .i64 (a : Int)] := by unfold stV; rw [List.reverse_cons, List.map_append]; rfl
theorem stV_top (a : Nat) (r : List Nat) : (stV (a :: r))[r.length]? = some (.int .i64 (a : Int)) := by
  rw [stV_cons, List.getElem?_append_right (by rw [stV_len]; exact Nat.le_refl _), stV_len, Nat.sub_self]; rfl
theorem stV_set (a b : Nat) (r : List Nat) : (stV (a :: r)).set r.length (.int .i64 (b : Int)) = stV (b :: r) := by
  rw [stV_cons, stV_cons, List.set_append, if_neg (by rw [stV_len]; omega), stV_len, Nat.sub_self]; rfl
theorem stV_cut (a : Nat) (r : List Nat) : (stV (a :: r)).take r.length = stV r := by
  rw [stV_cons, List.take_append_of_le_length (by rw [stV_len]; exact Nat.le_refl _), List.take_of_length_le (by rw [stV_len]; exact Nat.le_refl _)]
theorem popZ_nil : popZ [] = [] := rfl
theorem popZ_zero (r : List Nat) : popZ (0 :: r) = popZ r := by unfold popZ; rw [List.dropWhile_cons]; simp
theorem popZ_pos {a : Nat} (r : List Nat) (h : a ≠ 0) : popZ (a :: r) = a :: r := by unfold popZ; rw [List.dropWhile_cons, if_neg (by simpa using h)]
theorem pushN_cons (k a : Nat) (r : List Nat) : pushN k (a :: r) = popZ (k :: (a - 1) :: r) := rfl
theorem popZ_len (st : List Nat) : (popZ st).length ≤ st.length := by
  have := (List.dropWhile_suffix (l := st) (p := fun x => x == 0)).length_le; exact this
theorem pushN_len (k : Nat) (st : List Nat) : (pushN k st).length ≤ st.length + 1 := by
  cases st with
  | nil => simp [pushN]
  | cons a r => rw [pushN_cons]; have := popZ_len (k :: (a - 1) :: r); simpa using this

/-- Whether a string is empty. -/
def emB (s : List UInt8) : Bool := ((str s).toList == [])
/-- The error of a node at a depth; sy: which strings are symbols. -/
def ndE (sy : List UInt8 → Bool) (x : Nd) (d : Int) : Int := nodeE x.1 x.2.1 x.2.2.1 (emB x.2.2.2) (sy x.2.2.2) d
theorem ndE_kids {sy : List UInt8 → Bool} {x : Nd} {d : Int} (h : ndE sy x d = 0) : 0 ≤ x.2.1 := by
  unfold ndE nodeE at h
  split at h
  · cases h
  · rename_i hk
    unfold kindB at hk
    split at hk
    · have h1 : decide (x.2.1 = 0) = true := by cases h1 : decide (x.2.1 = 0) with | true => rfl | false => exact absurd (by rw [h1]; rfl) hk
      have := of_decide_eq_true h1; omega
    · split at hk
      · have h1 : decide (x.2.1 = 0) = true := by cases h1 : decide (x.2.1 = 0) with | true => rfl | false => exact absurd (by rw [h1]; rfl) hk
        have := of_decide_eq_true h1; omega
      · split at hk
        · simp only [Bool.and_eq_true, decide_eq_true_eq, Bool.not_eq_false] at hk; exact hk.1.1
        · exact absurd rfl hk
/-- What Check returns of nodes. -/
def chkT (sy : List UInt8 → Bool) (t : List Nd) : Int × Int := chkD (ndE sy) t
def chkTV (sy : List UInt8 → Bool) (t : List Nd) : Value := .tuple #[.int .i64 (chkT sy t).1, .int .i64 (chkT sy t).2]
/-- Symbol answers sy, in every world above w. -/
def SymAll (f : FuncId) (sy : List UInt8 → Bool) (w : World) : Prop := ∀ s, SymAt f s (sy s) w
theorem SymAll.below {f : FuncId} {sy : List UInt8 → Bool} {w w' : World} (h : SymAll f sy w) (hb : Below w.heap.size w w') : SymAll f sy w' := fun s W hW => h s W (hb.trans (hW.mono hb.size))
theorem infoSk : (Tryz.prog.info? 3).map (fun i => (i.zero, i.size, i.bytes)) = some (some (.int .i64 0), 1, 8) := by kernel_rfl
end Go.Proofs.YtkngkajojcmmlaaGreatDoor

/- Rows of one-cell elements that the call owns. -/
namespace Go.Proofs.YtkngkajojcmmlaaGreatDoor
open Go.RowKit Go.PlainAid

theorem own_cut {w : World} {B n m : Nat} {e : TypeId} {a : Option Addr} {c : Nat} {xs : List Value} (h : w.ownsRow B e 1 (.slice a n c) n xs) (hm : m ≤ n) : w.ownsRow B e 1 (.slice a m c) m (xs.take m) := by
  obtain ⟨h1, h2⟩ := h
  refine ⟨by rw [List.length_take]; omega, ?_⟩
  rcases h2 with ⟨hv, hn⟩ | ⟨g, cap, cur, hv, hb, hg, hc, hx, hs, ht⟩
  · obtain ⟨rfl, rfl, rfl⟩ := Value.slice.inj hv
    obtain rfl : m = 0 := by omega
    exact .inl ⟨rfl, rfl⟩
  · obtain ⟨rfl, _, rfl⟩ := Value.slice.inj hv
    refine .inr ⟨g, c, cur, rfl, hb, hg, by omega, hx, hs, ?_⟩
    rw [← ht, List.take_take, Nat.mul_one, Nat.mul_one, Nat.min_eq_left hm]
theorem own_form {w : World} {B n z : Nat} {e : TypeId} {v : Value} {xs : List Value} (h : w.ownsRow B e z v n xs) : (v = .slice none 0 0 ∧ n = 0) ∨ ∃ g c, v = .slice (some ⟨g, 0, none⟩) n c ∧ B ≤ g ∧ g < w.heap.size := by
  rcases h.2 with h | ⟨g, cap, cur, hv, hb, hg, _⟩
  · exact .inl h
  · exact .inr ⟨g, cap, hv, hb, (Array.getElem?_eq_some_iff.1 hg).1⟩
theorem own_cap {w : World} {B n z : Nat} {e : TypeId} {a : Option Addr} {c : Nat} {xs : List Value} (h : w.ownsRow B e z (.slice a n c) n xs) : n ≤ c ∧ c ≤ maxLen := by
  rcases h.2 with ⟨hv, hn⟩ | ⟨g, cap, cur, hv, hb, hg, h1, h2, _⟩
  · obtain ⟨_, rfl, rfl⟩ := Value.slice.inj hv; exact ⟨Nat.le_refl _, Nat.zero_le _⟩
  · obtain ⟨_, _, rfl⟩ := Value.slice.inj hv; exact ⟨h1, h2⟩
theorem own_len {w : World} {B n z : Nat} {e : TypeId} {v : Value} {xs : List Value} (h : w.ownsRow B e z v n xs) : ∃ a c, v = .slice a n c := by
  rcases own_form h with ⟨rfl, rfl⟩ | ⟨g, c, rfl, _⟩
  · exact ⟨_, _, rfl⟩
  · exact ⟨_, _, rfl⟩
theorem own_cell {w : World} {B n : Nat} {e : TypeId} {g c : Nat} {xs : List Value} (h : w.ownsRow B e 1 (.slice (some ⟨g, 0, none⟩) n c) n xs) {j : Nat} {u : Value} (hj : xs[j]? = some u) : w.cell? ⟨g, j, none⟩ = some u := by
  have := h.cells (g := g) rfl j u hj
  have e1 : (⟨g, 0, none⟩ : Addr).add j = ⟨g, j, none⟩ := by cases j <;> simp [Addr.add]
  rw [e1] at this; exact this
/-- A row that was just made. -/
theorem own_mk (w : World) (l : List Value) (e : TypeId) (n : Nat) (hn : n = l.length) (hm : n ≤ maxLen) : (w.alloc (.cells l.toArray e)).ownsRow w.heap.size e 1 (.slice (some ⟨w.heap.size, 0, none⟩) n n) n l := by
  refine ⟨by omega, .inr ⟨_, n, l.toArray, rfl, Nat.le_refl _, World.alloc_heap_new _ _, Nat.le_refl _, hm, by simp; omega, ?_⟩⟩
  rw [Nat.mul_one, List.take_of_length_le (by simp; omega)]
end Go.Proofs.YtkngkajojcmmlaaGreatDoor

/- Ends of subtrees: what a walk through a flat tree leaves (mathematics). -/
namespace Go.Proofs.YtkngkajojcmmlaaGreatDoor

/-- The ends that a walk from i to p leaves. -/
def EndsOk (ks : List Nat) (i p : Nat) (es es' : List Nat) : Prop := es'.length = es.length ∧ ∀ j, j < es.length → es'[j]? = if i ≤ j ∧ j < p then some (endN ks j) else es[j]?
theorem EndsOk.refl (ks : List Nat) (i : Nat) (es : List Nat) : EndsOk ks i i es es := ⟨rfl, fun j _ => by rw [if_neg (by omega)]⟩
theorem EndsOk.trans {ks : List Nat} {a b c : Nat} {e0 e1 e2 : List Nat} (h1 : EndsOk ks a b e0 e1) (h2 : EndsOk ks b c e1 e2) (hab : a ≤ b) (hbc : b ≤ c) : EndsOk ks a c e0 e2 := by
  refine ⟨h2.1.trans h1.1, fun j hj => ?_⟩
  rw [h2.2 j (by rw [h1.1]; exact hj), h1.2 j hj]
  by_cases h : b ≤ j ∧ j < c
  · rw [if_pos h, if_pos (by omega)]
  · rw [if_neg h]
    by_cases h' : a ≤ j ∧ j < b
    · rw [if_pos h', if_pos (by omega)]
    · rw [if_neg h', if_neg (by omega)]
theorem EndsOk.close {ks : List Nat} {i p : Nat} {e0 e1 : List Nat} (h : EndsOk ks (i + 1) p e0 e1) (hi : i < e0.length) (hp : i + 1 ≤ p) (hE : endN ks i = p) : EndsOk ks i p e0 (e1.set i p) := by
  refine ⟨by rw [List.length_set]; exact h.1, fun j hj => ?_⟩
  by_cases hji : j = i
  · subst hji
    rw [List.getElem?_set_self (by rw [h.1]; exact hi), if_pos (by omega), hE]
  · rw [List.getElem?_set_ne (by omega), h.2 j hj]
    by_cases h' : i + 1 ≤ j ∧ j < p
    · rw [if_pos h', if_pos (by omega)]
    · rw [if_neg h', if_neg (by omega)]
/-- All ends. -/
def endsL (ks : List Nat) : List Nat := (List.range ks.length).map (endN ks)
theorem endsL_len (ks : List Nat) : (endsL ks).length = ks.length := by unfold endsL; rw [List.length_map, List.length_range]
theorem endsL_at {ks : List Nat} {j : Nat} (hj : j < ks.length) : (endsL ks)[j]? = some (endN ks j) := by
  unfold endsL; rw [List.getElem?_map, List.getElem?_range hj]; rfl
theorem EndsOk.whole {ks e0 e1 : List Nat} (h : EndsOk ks 0 ks.length e0 e1) (hl : e0.length = ks.length) : e1 = endsL ks := by
  apply List.ext_getElem?
  intro j
  by_cases hj : j < ks.length
  · rw [h.2 j (by omega), if_pos (by omega), endsL_at hj]
  · rw [List.getElem?_eq_none (by rw [h.1]; omega), List.getElem?_eq_none (by rw [endsL_len]; omega)]
/-- Where k subtrees from i on end, p. -/
def WalkAt (ks : List Nat) (i k p : Nat) : Prop := p ≤ ks.length ∧ eat (ks.drop i) k = some (ks.drop p)
theorem walkAt_start {ks : List Nat} {i : Nat} (hi : i ≤ ks.length) : WalkAt ks i 0 i := ⟨hi, eat_zero _⟩
theorem walkAt_le {ks : List Nat} {i k p : Nat} (hi : i ≤ ks.length) (h : WalkAt ks i k p) : i + k ≤ p := by
  obtain ⟨x, h1, h2, _⟩ := eat_suffix _ _ _ h.2
  have hl := congrArg List.length h1
  rw [List.length_drop, List.length_append, List.length_drop] at hl
  have := h.1; omega
theorem walkAt_end {ks : List Nat} {i p : Nat} (_hi : i ≤ ks.length) (h : WalkAt ks i 1 p) : endN ks i = p := by
  unfold endN; rw [h.2]; show ks.length - (ks.drop p).length = p
  rw [List.length_drop]; have := h.1; omega
theorem walkAt_one {ks : List Nat} {i : Nat} (hi : i ≤ ks.length) (h : (eat (ks.drop i) 1).isSome = true) : WalkAt ks i 1 (endN ks i) := by
  cases hq : eat (ks.drop i) 1 with
  | none => rw [hq] at h; cases h
  | some r =>
    obtain ⟨h1, h2, h3⟩ := endN_of hi hq
    exact ⟨h2, by rw [h3]; exact hq⟩
theorem walkAt_step {ks : List Nat} {i k p q : Nat} (h : WalkAt ks i k p) (h' : WalkAt ks p 1 q) : WalkAt ks i (k + 1) q := ⟨h'.1, by rw [eat_add, h.2]; exact h'.2⟩
theorem walkAt_list {ks : List Nat} {i c p : Nat} (hc : ks[i]? = some c) (h : WalkAt ks (i + 1) c p) : WalkAt ks i 1 p := by
  have hk := List.getElem?_eq_some_iff.1 hc
  refine ⟨h.1, ?_⟩
  rw [List.drop_eq_getElem_cons hk.1, hk.2]
  exact h.2
theorem walk_none {ks : List Nat} {i c k p : Nat} (hc : ks[i]? = some c) (hk : k < c) (h : WalkAt ks (i + 1) k p) (hn : (eat (ks.drop p) 1).isSome = false) : (eat (ks.drop i) 1).isSome = false := by
  have hk' := List.getElem?_eq_some_iff.1 hc
  rw [List.drop_eq_getElem_cons hk'.1, hk'.2]
  show (eat (ks.drop (i + 1)) c).isSome = false
  rw [show c = k + (1 + (c - k - 1)) by omega, eat_add, h.2]
  show (eat (ks.drop p) (1 + (c - k - 1))).isSome = false
  rw [eat_add]
  cases hq : eat (ks.drop p) 1 with
  | none => rfl
  | some r => rw [hq] at hn; cases hn
theorem walk_out {ks : List Nat} {i : Nat} (hi : ks.length ≤ i) : (eat (ks.drop i) 1).isSome = false := by
  rw [List.drop_of_length_le hi]; rfl
/-- Numbers as values. -/
def natV (l : List Nat) : List Value := l.map fun q : Nat => Value.int .i64 (q : Int)
theorem natV_len (l : List Nat) : (natV l).length = l.length := by unfold natV; rw [List.length_map]
theorem natV_at {l : List Nat} {j q : Nat} (h : l[j]? = some q) : (natV l)[j]? = some (.int .i64 (q : Int)) := by unfold natV; rw [List.getElem?_map, h]; rfl
theorem natV_set (l : List Nat) (j q : Nat) : (natV l).set j (.int .i64 (q : Int)) = natV (l.set j q) := by unfold natV; rw [List.map_set]
end Go.Proofs.YtkngkajojcmmlaaGreatDoor

/- What is put together of data is one, unless it is too large or too deep (mathematics). -/
namespace Go.Proofs.YtkngkajojcmmlaaGreatDoor

/-- A node that is good, unless it is too deep. -/
def okN (sy : List UInt8 → Bool) (x : Nd) : Prop := kindB x.1 x.2.1 x.2.2.1 (emB x.2.2.2) = true ∧ valE x.1 x.2.2.1 (sy x.2.2.2) = 0
theorem okN_of {sy : List UInt8 → Bool} {x : Nd} {d : Int} (h : ndE sy x d = 0) : okN sy x := by
  unfold ndE nodeE at h
  unfold okN
  split at h
  · cases h
  · rename_i hk
    split at h
    · cases h
    · exact ⟨by simpa using hk, h⟩
theorem okN_err {sy : List UInt8 → Bool} {x : Nd} (h : okN sy x) (d : Int) : ndE sy x d = 0 ∨ ndE sy x d = 3 := by
  unfold ndE nodeE
  rw [h.1, if_neg (by simp)]
  split
  · exact .inr rfl
  · exact .inl h.2
theorem chkGo_ok {sy : List UInt8 → Bool} : ∀ (t : List Nd) (st : List Nat) (i : Nat), (chkGo (ndE sy) st i t).2 = 0 → ∀ x ∈ t, okN sy x := by
  intro t
  induction t with
  | nil => intro st i _ x hx; cases hx
  | cons y t ih =>
    intro st i h x hx
    rw [chkGo] at h
    split at h
    · cases h
    · split at h
      · rename_i hE; exact absurd h hE
      · rename_i hE
        rcases List.mem_cons.1 hx with e | e
        · rw [e]; exact okN_of (Decidable.not_not.1 hE)
        · exact ih _ _ h x e
theorem chkT_ok {sy : List UInt8 → Bool} {t : List Nd} (h : (chkT sy t).2 = 0) : Tr (kidsL t) ∧ t ≠ [] ∧ t.length ≤ 400 ∧ (∀ x ∈ t, okN sy x) ∧ chkT sy t = (0, 0) := by
  obtain ⟨h1, h2, h3⟩ := chkD_tree h
  have h4 : chkT sy t = chkGo (ndE sy) [1] 0 t := by unfold chkT chkD; rw [if_neg h2, if_neg (by omega)]
  refine ⟨h1, h2, h3, chkGo_ok t [1] 0 (by rw [← h4]; exact h), ?_⟩
  rw [h4] at h ⊢
  have : ∀ (t : List Nd) (st : List Nat) (i : Nat), (chkGo (ndE sy) st i t).2 = 0 → chkGo (ndE sy) st i t = (0, 0) := by
    intro t
    induction t with
    | nil =>
      intro st i h
      rw [chkGo] at h ⊢
      split at h
      · rename_i hs; rw [if_pos hs]
      · cases h
    | cons y t ih =>
      intro st i h
      rw [chkGo] at h ⊢
      split at h
      · cases h
      · rename_i hs
        rw [if_neg hs]
        split at h
        · rename_i hE; exact absurd h hE
        · rename_i hE; rw [if_neg hE]; exact ih _ _ h
  exact this _ _ _ h
theorem chkT_kids {sy : List UInt8 → Bool} {t : List Nd} (h : (chkT sy t).2 = 0) : ∀ x ∈ t, 0 ≤ x.2.1 := by
  intro x hx
  have h1 := ((chkT_ok h).2.2.2.1 x hx).1
  unfold kindB at h1
  split at h1
  · rename_i hk; simp only [Bool.and_eq_true, decide_eq_true_eq] at h1; omega
  · split at h1
    · simp only [Bool.and_eq_true, decide_eq_true_eq] at h1; omega
    · split at h1
      · simp only [Bool.and_eq_true, decide_eq_true_eq] at h1; omega
      · cases h1
theorem chkGo_3 {sy : List UInt8 → Bool} : ∀ (t : List Nd) (st : List Nat) (i : Nat), (∀ x ∈ t, okN sy x) → stackN st (kidsL t) = some [] → (chkGo (ndE sy) st i t).2 = 0 ∨ (chkGo (ndE sy) st i t).2 = 3 := by
  intro t
  induction t with
  | nil =>
    intro st i _ h
    have hs : st = [] := by simpa [kidsL, stackN] using h
    rw [chkGo, if_pos hs]; exact .inl rfl
  | cons y t ih =>
    intro st i hx h
    have h' : stackN st (y.2.1.toNat :: kidsL t) = some [] := h
    rw [stackN] at h'
    rw [chkGo]
    split at h'
    · cases h'
    · rename_i hs
      rw [if_neg hs]
      split
      · rename_i hE
        rcases okN_err (hx y (by simp)) ((st.length : Int) - 1) with e | e
        · exact absurd e hE
        · exact .inr e
      · exact ih _ _ (fun x h => hx x (by simp [h])) h'
/-- What is a flat tree of good nodes is a datum, or too large, or too deep. -/
theorem chkT_3 {sy : List UInt8 → Bool} {t : List Nd} (h : Tr (kidsL t)) (hx : ∀ x ∈ t, okN sy x) : (chkT sy t).2 = 0 ∨ (chkT sy t).2 = 3 := by
  have hne : t ≠ [] := by rintro rfl; cases h
  unfold chkT chkD
  rw [if_neg hne]
  split
  · exact .inr rfl
  · exact chkGo_3 t [1] 0 hx ((stack_eat (kidsL t) [1] (by intro a ha; cases ha; decide)).2 h)
theorem kidsL_app (a b : List Nd) : kidsL (a ++ b) = kidsL a ++ kidsL b := List.map_append
theorem kidsL_take (t : List Nd) (n : Nat) : kidsL (t.take n) = (kidsL t).take n := List.map_take
theorem kidsL_drop (t : List Nd) (n : Nat) : kidsL (t.drop n) = (kidsL t).drop n := List.map_drop
theorem kidsL_len (t : List Nd) : (kidsL t).length = t.length := List.length_map ..
/-- What Put makes. -/
def putS (t : List Nd) (i : Nat) (s : List Nd) : List Nd := t.take i ++ (s ++ t.drop (endN (kidsL t) i))
theorem put_3 {sy : List UInt8 → Bool} {t s : List Nd} {i : Nat} (ht : (chkT sy t).2 = 0) (hs : (chkT sy s).2 = 0) (hi : i < t.length) : (chkT sy (putS t i s)).2 = 0 ∨ (chkT sy (putS t i s)).2 = 3 := by
  obtain ⟨t1, _, _, t4, _⟩ := chkT_ok ht
  obtain ⟨s1, _, _, s4, _⟩ := chkT_ok hs
  have hi' : i < (kidsL t).length := by rw [kidsL_len]; exact hi
  obtain ⟨u1, u2⟩ := t1.sub hi'
  refine chkT_3 ?_ ?_
  · unfold putS
    rw [kidsL_app, kidsL_app, kidsL_take, kidsL_drop]
    exact Tr.put (by rw [← u2]; exact t1) u1 s1
  · intro x hx
    unfold putS at hx
    rcases List.mem_append.1 hx with h | h
    · exact t4 x (List.mem_of_mem_take h)
    · rcases List.mem_append.1 h with h | h
      · exact s4 x h
      · exact t4 x (List.mem_of_mem_drop h)
end Go.Proofs.YtkngkajojcmmlaaGreatDoor
