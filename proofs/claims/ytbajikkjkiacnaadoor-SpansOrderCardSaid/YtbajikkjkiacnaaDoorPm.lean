/- Spans: what the contracts of layer 3 speak of. Plain mathematics. -/
import Derived.Test.YtbajikkjkiacnaaDoorKit
namespace Go.Proofs.YtbajikkjkiacnaaDoor

abbrev Sp := Int × Int
def isS (s : Sp) : Bool := decide (0 ≤ s.1 ∧ s.1 ≤ s.2)
/-- A span with numbers up to 2^62. -/
def okS (s : Sp) : Bool := decide (0 ≤ s.1 ∧ s.1 ≤ s.2 ∧ s.2 ≤ 4611686018427387904)
def wiS (a b : Sp) : Bool := decide (b.1 ≤ a.1 ∧ a.2 ≤ b.2)
def beS (a b : Sp) : Bool := decide (a.2 ≤ b.1 ∧ ¬ (a.1 = b.1 ∧ a.2 = b.2))
theorem isS_iff {s : Sp} : isS s = true ↔ 0 ≤ s.1 ∧ s.1 ≤ s.2 := decide_eq_true_iff
theorem okS_iff {s : Sp} : okS s = true ↔ 0 ≤ s.1 ∧ s.1 ≤ s.2 ∧ s.2 ≤ 4611686018427387904 := decide_eq_true_iff
theorem okS_not {s : Sp} : okS s = false ↔ ¬ (0 ≤ s.1 ∧ s.1 ≤ s.2 ∧ s.2 ≤ 4611686018427387904) := decide_eq_false_iff_not
theorem wiS_iff {a b : Sp} : wiS a b = true ↔ b.1 ≤ a.1 ∧ a.2 ≤ b.2 := decide_eq_true_iff
theorem wiS_not {a b : Sp} : wiS a b = false ↔ ¬ (b.1 ≤ a.1 ∧ a.2 ≤ b.2) := decide_eq_false_iff_not
theorem beS_iff {a b : Sp} : beS a b = true ↔ a.2 ≤ b.1 ∧ ¬ (a.1 = b.1 ∧ a.2 = b.2) := decide_eq_true_iff
theorem beS_not {a b : Sp} : beS a b = false ↔ ¬ (a.2 ≤ b.1 ∧ ¬ (a.1 = b.1 ∧ a.2 = b.2)) := decide_eq_false_iff_not

/-- The index of the first that is no span, -1 if all are. -/
def badS (l : List Sp) : Int := match l.findIdx? (fun s => !okS s) with | some k => (k : Int) | none => -1
theorem badS_no {l : List Sp} (h : ∀ (j : Nat) s, l[j]? = some s → okS s = true) : badS l = -1 := by
  unfold badS
  rw [List.findIdx?_eq_none_iff.2]
  intro s hs
  obtain ⟨j, hj⟩ := List.getElem?_of_mem hs
  rw [h j s hj]; rfl
theorem badS_at {l : List Sp} {k : Nat} {s : Sp} (h : ∀ (j : Nat) s, j < k → l[j]? = some s → okS s = true) (hk : l[k]? = some s) (hs : okS s = false) : badS l = (k : Int) := by
  have hkl : k < l.length := (List.getElem?_eq_some_iff.1 hk).1
  have : l.findIdx? (fun s => !okS s) = some k := by
    rw [List.findIdx?_eq_some_iff_getElem]
    refine ⟨hkl, ?_, fun j hj => ?_⟩
    · rw [List.getElem?_eq_getElem hkl] at hk
      rw [Option.some.inj hk, hs]; rfl
    · have := h j (l[j]'(by omega)) hj (List.getElem?_eq_getElem (by omega))
      rw [this]; simp
  unfold badS; rw [this]
theorem badS_all {l : List Sp} (h : badS l < 0) : ∀ (j : Nat) s, l[j]? = some s → okS s = true := by
  unfold badS at h
  cases hf : l.findIdx? (fun s => !okS s) with
  | some k => rw [hf] at h; simp only at h; omega
  | none =>
    intro j s hj
    have := List.findIdx?_eq_none_iff.1 hf s (List.mem_of_getElem? hj)
    simpa using this
theorem badS_bd (l : List Sp) : -1 ≤ badS l ∧ badS l < l.length ∨ l = [] := by
  unfold badS
  cases hf : l.findIdx? (fun s => !okS s) with
  | some k => left; have := (List.findIdx?_eq_some_iff_getElem.1 hf).1; simp only; omega
  | none => left; simp only; omega

def coverG (a : Sp) (l : List Sp) : Sp := l.foldl (fun a s => (min a.1 s.1, max a.2 s.2)) a
/-- What Cover returns. -/
def coverS (l : List Sp) : Sp × Int := match l with
  | [] => ((0, 0), 4)
  | s :: t => if 0 ≤ badS (s :: t) then ((0, 0), 6) else (coverG s t, 0)
def meetS (a b : Sp) : Sp × Bool × Int := if okS a = false ∨ okS b = false then ((0, 0), false, 6) else if max a.1 b.1 ≤ min a.2 b.2 then ((max a.1 b.1, min a.2 b.2), true, 0) else ((0, 0), false, 0)
def withinS (a b : Sp) : Bool × Int := if okS a = false ∨ okS b = false then (false, 6) else (wiS a b, 0)
def beforeS (a b : Sp) : Bool × Int := if okS a = false ∨ okS b = false then (false, 6) else (beS a b, 0)
def checkS (n : Int) (s : Sp) : Int := if isS s = false then 6 else if n < s.2 then 7 else 0
def ovS (a b : Sp) : Bool := !wiS a b && !wiS b a && !beS a b && !beS b a
def shiftS (s c : Sp) (d : Int) : Sp × Int :=
  if okS s = false ∨ okS c = false then ((0, 0), 6) else if d < 0 ∨ 2305843009213693952 < d then ((0, 0), 7)
  else if (ovS s c || (wiS s c && !wiS c s)) = true then ((0, 0), 4) else if beS s c = true then (s, 0)
  else if beS c s = true then ((s.1 + (d - (c.2 - c.1)), s.2 + (d - (c.2 - c.1))), 0) else ((s.1, s.2 + (d - (c.2 - c.1))), 0)

/-- The span with this index. -/
def gs (l : List Sp) (i : Nat) : Sp := l.getD i (0, 0)
theorem gs_at {l : List Sp} {i : Nat} {s : Sp} (h : l[i]? = some s) : gs l i = s := by unfold gs; rw [List.getD_eq_getElem?_getD, h]; rfl
def fineS (s o : Sp) : Bool := wiS s o || beS o s
def rowOk (l : List Sp) (k : Nat) : Bool := decide (∀ i, i < k → fineS (gs l k) (gs l i) = true)
/-- The last span before one within which it is. -/
def parS (l : List Sp) (s : Sp) : Nat → Int
  | 0 => -1
  | i + 1 => if wiS s (gs l i) = true then (i : Int) else parS l s i
def parsS (l : List Sp) (k : Nat) : List Int := (List.range k).map fun j => parS l (gs l j) j
theorem parsS_succ (l : List Sp) (k : Nat) : parsS l (k + 1) = parsS l k ++ [parS l (gs l k) k] := by unfold parsS; rw [List.range_succ, List.map_append]; rfl
theorem parsS_len (l : List Sp) (k : Nat) : (parsS l k).length = k := by unfold parsS; rw [List.length_map, List.length_range]
def nestS (l : List Sp) : List Int × Int × Int :=
  if 2000 < l.length then ([], 0, 3) else if 0 ≤ badS l then ([], badS l, 6)
  else match (List.range l.length).find? (fun k => !rowOk l k) with | some k => ([], (k : Int), 6) | none => (parsS l l.length, 0, 0)
theorem nest_err {l : List Sp} {k : Nat} (h1 : l.length ≤ 2000) (h2 : badS l < 0) (h : ∀ j, j < k → rowOk l j = true) (hk : k < l.length) (he : rowOk l k = false) : nestS l = ([], (k : Int), 6) := by
  unfold nestS
  rw [if_neg (by omega), if_neg (by omega)]
  have : (List.range l.length).find? (fun k => !rowOk l k) = some k := by
    rw [List.find?_range_eq_some]
    refine ⟨by simp [he], by simpa using hk, fun j hj => ?_⟩
    rw [h j hj]; rfl
  rw [this]
theorem nest_ok {l : List Sp} (h1 : l.length ≤ 2000) (h2 : badS l < 0) (h : ∀ j, j < l.length → rowOk l j = true) : nestS l = (parsS l l.length, 0, 0) := by
  unfold nestS
  rw [if_neg (by omega), if_neg (by omega)]
  have : (List.range l.length).find? (fun k => !rowOk l k) = none := by
    rw [List.find?_eq_none]
    intro j hj
    rw [h j (List.mem_range.1 hj)]; simp
  rw [this]

/-- What was taken off the stack. -/
theorem popped {i t k : Sp} (ht : isS t = true) (h1 : beS i t = true) (h2 : fineS k t = true) : fineS k i = true ∧ (wiS k i = true → wiS k t = true) := by
  unfold fineS at h2 ⊢
  rw [Bool.or_eq_true, wiS_iff, beS_iff] at h2 ⊢
  rw [isS_iff] at ht
  rw [beS_iff] at h1
  rw [wiS_iff]
  constructor <;> omega
theorem wiS_trans {a b c : Sp} (h1 : wiS a b = true) (h2 : wiS b c = true) : wiS a c = true := by rw [wiS_iff] at *; omega

/-- The stack of Nest behind k spans, from below. -/
structure NS (l : List Sp) (k : Nat) (st : List Nat) : Prop where
  lt : ∀ q ∈ st, q < k
  asc : st.Pairwise (· < ·)
  chain : st.Pairwise fun a b => wiS (gs l b) (gs l a) = true
  all : ∀ i, i < k → i ∉ st → ∃ t, i < t ∧ t < k ∧ beS (gs l i) (gs l t) = true
  row : ∀ j, j < k → rowOk l j = true
theorem NS.start (l : List Sp) : NS l 0 [] := ⟨fun q h => (by cases h), List.Pairwise.nil, List.Pairwise.nil, fun i h => (by omega), fun j h => (by omega)⟩
theorem NS.whole {l : List Sp} {k : Nat} {st : List Nat} (h : NS l k st) (ok : ∀ i, i ≤ k → isS (gs l i) = true) (hf : ∀ q ∈ st, fineS (gs l k) (gs l q) = true) :
    ∀ m i, i < k → k - i ≤ m → fineS (gs l k) (gs l i) = true ∧ (wiS (gs l k) (gs l i) = true → ∃ q ∈ st, i ≤ q ∧ wiS (gs l k) (gs l q) = true) := by
  intro m
  induction m with
  | zero => intro i h1 h2; omega
  | succ m ih =>
    intro i h1 h2
    by_cases hi : i ∈ st
    · exact ⟨hf i hi, fun hw => ⟨i, hi, Nat.le_refl _, hw⟩⟩
    · obtain ⟨t, ht1, ht2, ht3⟩ := h.all i h1 hi
      obtain ⟨g1, g2⟩ := ih t ht2 (by omega)
      obtain ⟨p1, p2⟩ := popped (ok t (by omega)) ht3 g1
      refine ⟨p1, fun hw => ?_⟩
      obtain ⟨q, q1, q2, q3⟩ := g2 (p2 hw)
      exact ⟨q, q1, by omega, q3⟩
theorem rowOk_iff {l : List Sp} {k : Nat} : rowOk l k = true ↔ ∀ i, i < k → fineS (gs l k) (gs l i) = true := decide_eq_true_iff
theorem par_at {l : List Sp} {s : Sp} {p : Nat} (hw : wiS s (gs l p) = true) : ∀ k, p < k → (∀ i, p < i → i < k → wiS s (gs l i) = false) → parS l s k = (p : Int) := by
  intro k
  induction k with
  | zero => intro h; omega
  | succ k ih =>
    intro h hn
    rw [parS]
    by_cases e : p = k
    · rw [← e, if_pos hw]
    · rw [hn k (by omega) (by omega), if_neg (by simp), ih (by omega) (fun i h1 h2 => hn i h1 (by omega))]
theorem par_no {l : List Sp} {s : Sp} : ∀ k, (∀ i, i < k → wiS s (gs l i) = false) → parS l s k = -1 := by
  intro k
  induction k with
  | zero => intro _; rfl
  | succ k ih => intro h; rw [parS, h k (by omega), if_neg (by simp), ih fun i hi => h i (by omega)]

/-- A parent was found on the stack. -/
theorem NS.found {l : List Sp} {k : Nat} {a b : List Nat} {p : Nat} (h : NS l k (a ++ p :: b)) (ok : ∀ i, i ≤ k → isS (gs l i) = true) (hw : wiS (gs l k) (gs l p) = true)
    (hb : ∀ q ∈ b, wiS (gs l k) (gs l q) = false ∧ beS (gs l q) (gs l k) = true) : parS l (gs l k) k = (p : Int) ∧ NS l (k + 1) (a ++ [p] ++ [k]) := by
  have hch := List.pairwise_append.1 h.chain
  have hasc := List.pairwise_append.1 h.asc
  have ha : ∀ q ∈ a, wiS (gs l k) (gs l q) = true := fun q hq => wiS_trans hw (hch.2.2 q hq p (by simp))
  have hfine : ∀ q ∈ a ++ p :: b, fineS (gs l k) (gs l q) = true := by
    intro q hq
    unfold fineS
    rcases List.mem_append.1 hq with hq | hq
    · rw [ha q hq]; rfl
    · rcases List.mem_cons.1 hq with rfl | hq
      · rw [hw]; rfl
      · rw [(hb q hq).2, Bool.or_true]
  have hall := h.whole ok hfine
  have hpk : p < k := h.lt p (by simp)
  refine ⟨par_at hw k hpk fun i h1 h2 => ?_, ?_, ?_, ?_, ?_, ?_⟩
  · cases hc : wiS (gs l k) (gs l i) with
    | false => rfl
    | true =>
      exfalso
      obtain ⟨q, q1, q2, q3⟩ := (hall k i h2 (by omega)).2 hc
      rcases List.mem_append.1 q1 with hq | hq
      · have := hasc.2.2 q hq p (by simp); omega
      · rcases List.mem_cons.1 hq with rfl | hq
        · omega
        · rw [(hb q hq).1] at q3; cases q3
  · intro q hq
    rcases List.mem_append.1 hq with hq | hq
    · have := h.lt q (by
        rcases List.mem_append.1 hq with hq | hq
        · exact List.mem_append_left _ hq
        · rw [List.mem_singleton.1 hq]; simp)
      omega
    · rw [List.mem_singleton.1 hq]; omega
  · rw [List.pairwise_append]
    refine ⟨?_, List.pairwise_singleton _ _, fun q hq r hr => ?_⟩
    · exact h.asc.sublist (List.Sublist.append (List.Sublist.refl a) (List.Sublist.cons_cons p (List.nil_sublist b)))
    · rw [List.mem_singleton.1 hr]
      refine h.lt q ?_
      rcases List.mem_append.1 hq with hq | hq
      · exact List.mem_append_left _ hq
      · rw [List.mem_singleton.1 hq]; simp
  · rw [List.pairwise_append]
    refine ⟨?_, List.pairwise_singleton _ _, fun q hq r hr => ?_⟩
    · exact h.chain.sublist (List.Sublist.append (List.Sublist.refl a) (List.Sublist.cons_cons p (List.nil_sublist b)))
    · rw [List.mem_singleton.1 hr]
      rcases List.mem_append.1 hq with hq | hq
      · exact ha q hq
      · rw [List.mem_singleton.1 hq]; exact hw
  · intro i hi hn
    by_cases hik : i = k
    · exact absurd (by simp [hik]) hn
    · by_cases hib : i ∈ b
      · exact ⟨k, by omega, by omega, (hb i hib).2⟩
      · obtain ⟨t, t1, t2, t3⟩ := h.all i (by omega) (by
          intro hm; apply hn
          rcases List.mem_append.1 hm with hm | hm
          · simp [hm]
          · rcases List.mem_cons.1 hm with rfl | hm
            · simp
            · exact absurd hm hib)
        exact ⟨t, t1, by omega, t3⟩
  · intro j hj
    by_cases e : j = k
    · rw [e, rowOk_iff]; exact fun i hi => (hall k i hi (by omega)).1
    · exact h.row j (by omega)
/-- None on the stack is a parent. -/
theorem NS.none {l : List Sp} {k : Nat} {st : List Nat} (h : NS l k st) (ok : ∀ i, i ≤ k → isS (gs l i) = true)
    (hb : ∀ q ∈ st, wiS (gs l k) (gs l q) = false ∧ beS (gs l q) (gs l k) = true) : parS l (gs l k) k = -1 ∧ NS l (k + 1) [k] := by
  have hfine : ∀ q ∈ st, fineS (gs l k) (gs l q) = true := fun q hq => by unfold fineS; rw [(hb q hq).2, Bool.or_true]
  have hall := h.whole ok hfine
  refine ⟨par_no k fun i hi => ?_, ?_, List.pairwise_singleton _ _, List.pairwise_singleton _ _, ?_, ?_⟩
  · cases hc : wiS (gs l k) (gs l i) with
    | false => rfl
    | true =>
      exfalso
      obtain ⟨q, q1, q2, q3⟩ := (hall k i hi (by omega)).2 hc
      rw [(hb q q1).1] at q3; cases q3
  · intro q hq; rw [List.mem_singleton.1 hq]; omega
  · intro i hi hn
    have hik : i ≠ k := fun e => hn (by simp [e])
    by_cases hib : i ∈ st
    · exact ⟨k, by omega, by omega, (hb i hib).2⟩
    · obtain ⟨t, t1, t2, t3⟩ := h.all i (by omega) hib
      exact ⟨t, t1, by omega, t3⟩
  · intro j hj
    by_cases e : j = k
    · rw [e, rowOk_iff]; exact fun i hi => (hall k i hi (by omega)).1
    · exact h.row j (by omega)
theorem NS.bad {l : List Sp} {k : Nat} {st : List Nat} {p : Nat} (h : NS l k st) (hp : p ∈ st) (h1 : wiS (gs l k) (gs l p) = false) (h2 : beS (gs l p) (gs l k) = false) : rowOk l k = false := by
  cases hc : rowOk l k with
  | false => rfl
  | true =>
    have := rowOk_iff.1 hc p (h.lt p hp)
    unfold fineS at this; rw [h1, h2] at this; cases this

/-- The lines of a text. -/
def linesF : Int → Int → List UInt8 → List Sp
  | a, i, [] => [(a, i)]
  | a, i, c :: t => if (c.toNat : Int) = 10 then (a, i) :: linesF (i + 1) (i + 1) t else linesF a (i + 1) t
def linesG (l : List UInt8) : List Sp := linesF 0 0 l
end Go.Proofs.YtbajikkjkiacnaaDoor
