/- List and ParseList are inverse to each other: mathematics. -/
import Derived.Test.YtchnmbfeaaialaaGreatDoorInvI
namespace Go.Proofs.YtchnmbfeaaialaaGreatDoor
open Go.RowKit Go.PlainAid

theorem join_two (x y : List UInt8) (r : List (List UInt8)) (c : UInt8) : Lib.join (x :: y :: r) [c] = x ++ c :: Lib.join (y :: r) [c] := by
  rw [Lib.join_cons, Lib.join_cons]
  unfold Lib.joinTail
  simp
theorem cutF_ne (c : UInt8) (cur l : List UInt8) : ∃ y r, cutF c cur l = y :: r := by
  have := (cutF_len (c := c) (l := l) (cur := cur)).1
  cases h : cutF c cur l with
  | nil => rw [h] at this; simp at this
  | cons y r => exact ⟨y, r, rfl⟩
theorem join_cut (c : UInt8) : ∀ (l cur : List UInt8), Lib.join (cutF c cur l) [c] = cur ++ l := by
  intro l
  induction l with
  | nil => intro cur; rw [cutF, Lib.join_one, List.append_nil]
  | cons x l ih =>
    intro cur
    rw [cutF]
    split
    · rename_i h
      subst h
      have hi := ih []
      obtain ⟨y, r, hy⟩ := cutF_ne x [] l
      rw [hy] at hi ⊢
      rw [join_two, hi]; rfl
    · rw [ih, List.append_assoc]; rfl
theorem cut_join (c : UInt8) : ∀ (ts : List (List UInt8)), ts ≠ [] → (∀ t ∈ ts, c ∉ t) → cutF c [] (Lib.join ts [c]) = ts := by
  intro ts
  induction ts with
  | nil => intro h; exact absurd rfl h
  | cons x ts ih =>
    intro _ h
    have hx := h x (List.mem_cons_self ..)
    cases ts with
    | nil => rw [Lib.join_one, cutF_no hx, List.nil_append]
    | cons y r =>
      rw [join_two, cutF_first hx, ih (by simp) (fun t ht => h t (List.mem_cons_of_mem _ ht)), List.nil_append]
theorem digL_no {a : List UInt8} (h : digL a = true) {c : UInt8} (hc : c.toNat < 48 ∨ 57 < c.toNat) : c ∉ a := by
  intro hm
  unfold digL at h
  rw [List.all_eq_true] at h
  have := h c hm
  simp only [digB, decide_eq_true_iff] at this
  omega
theorem dec_no (u : Nat) {c : UInt8} (hc : c.toNat < 48 ∨ 57 < c.toNat) : c ∉ Lib.decDigits u := digL_no (natL_iff.1 (dec_natL u)).2.1 hc
theorem dec_inj {x y : Nat} (h : Lib.decDigits x = Lib.decDigits y) : x = y := by rw [← dec_num x, h, dec_num]

/-- Runs of numbers. -/
abbrev NP := Nat × Nat
def txP (x : NP) : Rn := (Lib.decDigits x.1, Lib.decDigits x.2)
def spellOne (x : NP) : List UInt8 := runT x.1 x.2
def spell (P : List NP) : List (List UInt8) := P.map spellOne
def goodP : Option Nat → List NP → Prop
  | _, [] => True
  | p, x :: P => x.1 ≤ x.2 ∧ (∀ q, p = some q → q + 1 < x.1) ∧ goodP (some x.2) P
theorem spell_form (x : NP) : spellOne x = if x.1 = x.2 then Lib.decDigits x.1 else Lib.decDigits x.1 ++ 45 :: Lib.decDigits x.2 := by
  unfold spellOne runT
  by_cases h : x.1 = x.2
  · rw [if_pos h, if_pos (by rw [h]), itoa_nat]
  · rw [if_neg h, if_neg (by omega), itoa_nat, itoa_nat, List.append_assoc]; rfl
theorem spell_no (x : NP) : (44 : UInt8) ∉ spellOne x := by
  rw [spell_form]
  split
  · exact dec_no _ (by decide)
  · intro h
    rcases List.mem_append.1 h with h | h
    · exact dec_no _ (by decide) h
    · rcases List.mem_cons.1 h with h | h
      · revert h; decide
      · exact dec_no _ (by decide) h
theorem runV_to {x : NP} (h : x.1 ≤ x.2) : runV (spellOne x) = some (txP x) := by
  rw [spell_form]
  have h45 := dec_no x.1 (c := 45) (by decide)
  have h45' := dec_no x.2 (c := 45) (by decide)
  by_cases he : x.1 = x.2
  · rw [if_pos he]
    unfold runV
    rw [cutF_no h45, List.nil_append]
    simp only
    rw [if_pos (dec_natL _)]
    unfold txP
    rw [he]
  · rw [if_neg he]
    unfold runV
    rw [cutF_first h45, cutF_no h45', List.nil_append, List.nil_append]
    simp only
    rw [dec_natL, dec_natL, lessL_num (dec_natL _) (dec_natL _), dec_num, dec_num, decide_eq_true (by omega : x.1 < x.2)]
    rfl
theorem runV_from {T : List UInt8} {r : Rn} (h : runV T = some r) : ∃ x : NP, x.1 ≤ x.2 ∧ T = spellOne x ∧ r = txP x := by
  have hj := join_cut 45 T []
  rw [List.nil_append] at hj
  unfold runV at h
  split at h
  · rename_i a hc
    split at h
    · rename_i hn
      cases h
      rw [hc, Lib.join_one] at hj
      refine ⟨(numFrom 0 a, numFrom 0 a), Nat.le_refl _, ?_, ?_⟩
      · rw [spell_form, if_pos rfl, ← hj]; exact natL_dec hn
      · unfold txP; rw [← natL_dec hn]
    · cases h
  · rename_i a b hc
    split at h
    · rename_i hn
      cases h
      rw [Bool.and_eq_true, Bool.and_eq_true] at hn
      obtain ⟨⟨ha, hb⟩, hl⟩ := hn
      rw [lessL_num ha hb, decide_eq_true_iff] at hl
      rw [hc, join_two, Lib.join_one] at hj
      refine ⟨(numFrom 0 a, numFrom 0 b), Nat.le_of_lt hl, ?_, ?_⟩
      · rw [spell_form, if_neg (Nat.ne_of_lt hl), ← hj]
        show _ = Lib.decDigits (numFrom 0 a) ++ 45 :: Lib.decDigits (numFrom 0 b)
        rw [← natL_dec ha, ← natL_dec hb]
      · unfold txP
        show (a, b) = (Lib.decDigits (numFrom 0 a), Lib.decDigits (numFrom 0 b))
        rw [← natL_dec ha, ← natL_dec hb]
    · cases h
  · cases h
theorem beh_num (p : Option Nat) (x : Nat) : behV (p.map Lib.decDigits) (Lib.decDigits x) = true ↔ ∀ q, p = some q → q + 1 < x := by
  cases p with
  | none => exact ⟨fun _ q h => (by cases h), fun _ => rfl⟩
  | some q =>
    show lessL (succL (Lib.decDigits q)) (Lib.decDigits x) = true ↔ _
    obtain ⟨h1, h2⟩ := succ_num (dec_natL q)
    rw [lessL_num h1 (dec_natL x), h2, dec_num, dec_num, decide_eq_true_iff]
    exact ⟨fun h r e => by cases e; exact h, fun h => h q rfl⟩
theorem runsV_to : ∀ (P : List NP) (p : Option Nat), goodP p P → runsV (p.map Lib.decDigits) (spell P) = some (P.map txP) := by
  intro P
  induction P with
  | nil => intro p _; rfl
  | cons x P ih =>
    intro p h
    obtain ⟨h1, h2, h3⟩ := h
    have hi := ih _ h3
    show runsV _ (spellOne x :: spell P) = _
    rw [runsV, runV_to h1]
    simp only
    rw [show (txP x).1 = Lib.decDigits x.1 from rfl, if_pos ((beh_num p x.1).2 h2)]
    have : runsV (some (txP x).2) (spell P) = some (P.map txP) := hi
    rw [this]; rfl
theorem runsV_from : ∀ (ts : List (List UInt8)) (p : Option Nat) (rs : List Rn), runsV (p.map Lib.decDigits) ts = some rs → ∃ P, goodP p P ∧ ts = spell P ∧ rs = P.map txP := by
  intro ts
  induction ts with
  | nil => intro p rs h; cases h; exact ⟨[], trivial, rfl, rfl⟩
  | cons T ts ih =>
    intro p rs h
    rw [runsV] at h
    split at h
    · cases h
    · rename_i r hr
      obtain ⟨x, h1, h2, rfl⟩ := runV_from hr
      split at h
      · rename_i hb
        rw [Option.map_eq_some_iff] at h
        obtain ⟨rs', h3, h4⟩ := h
        obtain ⟨P, h5, h6, h7⟩ := ih (some x.2) rs' h3
        refine ⟨x :: P, ⟨h1, (beh_num p x.1).1 hb, h5⟩, ?_, ?_⟩
        · rw [h2, h6]; rfl
        · rw [← h4, h7]; rfl
      · cases h

/-- The greatest number of some runs. -/
def topP (P : List NP) : Nat := match P.getLast? with | some r => r.2 | none => 0
theorem topP_cons (x y : NP) (P : List NP) : topP (x :: y :: P) = topP (y :: P) := by unfold topP; rw [List.getLast?_cons_cons]
theorem top_ge : ∀ (P : List NP) (p : Option Nat), goodP p P → ∀ x ∈ P, x.1 ≤ x.2 ∧ x.2 ≤ topP P := by
  intro P
  induction P with
  | nil => intro p _ x h; cases h
  | cons a P ih =>
    intro p h x hx
    obtain ⟨h1, h2, h3⟩ := h
    cases P with
    | nil =>
      rw [List.mem_singleton] at hx
      subst hx
      exact ⟨h1, Nat.le_refl _⟩
    | cons b P =>
      rw [topP_cons]
      rcases List.mem_cons.1 hx with rfl | hx
      · have := ih _ h3 b (List.mem_cons_self ..)
        have h4 := h3.2.1 _ rfl
        exact ⟨h1, by omega⟩
      · exact ih _ h3 x hx
theorem last_top {P : List NP} (h : P ≠ []) : lastVW (P.map txP) = Lib.decDigits (topP P) := by
  unfold lastVW topP
  rw [List.getLast?_map]
  cases hl : P.getLast? with
  | none => exact absurd (List.getLast?_eq_none_iff.1 hl) h
  | some r => rfl
theorem num_val {u : Nat} (h : u ≤ 1000000000) : numV (Lib.decDigits u) = (u : Int) := by
  obtain ⟨h1, h2⟩ := decL_nat (dec_natL u)
  unfold numV intS
  rw [if_pos h1, h2, dec_num, if_pos ⟨⟨by omega, by omega⟩, by omega, by omega⟩]

/-- Numbers one by one. -/
def ups : Int → Nat → List Int
  | _, 0 => []
  | x, k + 1 => x :: ups (x + 1) k
theorem ups_len : ∀ (k : Nat) (x : Int), (ups x k).length = k := by
  intro k
  induction k with
  | zero => intro x; rfl
  | succ k ih => intro x; rw [ups, List.length_cons, ih]
theorem ups_range : ∀ (k : Nat) (x : Int), ((List.range k).map fun (i : Nat) => x + (i : Int)) = ups x k := by
  intro k
  induction k with
  | zero => intro x; rfl
  | succ k ih =>
    intro x
    rw [List.range_succ_eq_map, List.map_cons, List.map_map, ups, ← ih]
    congr 1
    · simp
    · apply List.map_congr_left
      intro i _
      simp; omega
theorem upto_ups (x y : Int) : uptoV x y = ups x (y - x + 1).toNat := ups_range _ _
def expP (P : List NP) : List Int := P.flatMap fun x => ups x.1 (x.2 + 1 - x.1)
theorem expP_cons (x : NP) (P : List NP) : expP (x :: P) = ups x.1 (x.2 + 1 - x.1) ++ expP P := rfl
theorem exp_to : ∀ (P : List NP) (out : List Int), (∀ x ∈ P, x.1 ≤ x.2 ∧ x.2 ≤ 1000000000) → out.length + (expP P).length ≤ 500 → expV out (P.map txP) = some (out ++ expP P) := by
  intro P
  induction P with
  | nil => intro out _ _; show some out = _; rw [show expP [] = [] from rfl, List.append_nil]
  | cons x P ih =>
    intro out h hl
    obtain ⟨h1, h2⟩ := h x (List.mem_cons_self ..)
    rw [expP_cons, List.length_append, ups_len] at hl
    rw [List.map_cons, expV, show (txP x).1 = Lib.decDigits x.1 from rfl, show (txP x).2 = Lib.decDigits x.2 from rfl, num_val h2, num_val (by omega), if_neg (by omega), upto_ups, show ((x.2 : Int) - x.1 + 1).toNat = x.2 + 1 - x.1 by omega]
    rw [ih _ (fun y hy => h y (List.mem_cons_of_mem _ hy)) (by rw [List.length_append, ups_len]; omega), expP_cons, List.append_assoc]
theorem exp_from : ∀ (P : List NP) (out l : List Int), (∀ x ∈ P, x.1 ≤ x.2 ∧ x.2 ≤ 1000000000) → out.length ≤ 500 → expV out (P.map txP) = some l → l = out ++ expP P ∧ l.length ≤ 500 := by
  intro P
  induction P with
  | nil =>
    intro out l _ h0 h
    cases h
    exact ⟨by rw [show expP [] = [] from rfl, List.append_nil], h0⟩
  | cons x P ih =>
    intro out l h h0 hx
    obtain ⟨h1, h2⟩ := h x (List.mem_cons_self ..)
    rw [List.map_cons, expV, show (txP x).1 = Lib.decDigits x.1 from rfl, show (txP x).2 = Lib.decDigits x.2 from rfl, num_val h2, num_val (by omega), upto_ups, show ((x.2 : Int) - x.1 + 1).toNat = x.2 + 1 - x.1 by omega] at hx
    split at hx
    · cases hx
    · rename_i hlt
      have := ih _ l (fun y hy => h y (List.mem_cons_of_mem _ hy)) (by rw [List.length_append, ups_len]; omega) hx
      refine ⟨?_, this.2⟩
      rw [this.1, expP_cons, List.append_assoc]
end Go.Proofs.YtchnmbfeaaialaaGreatDoor
