/- Split and Join, Quote and Unquote are inverse to each other: mathematics. -/
import Derived.Test.YtnajkkbcfebegaaGreatDoorRJoin
namespace Go.Proofs.YtnajkkbcfebegaaGreatDoor
open Go.RowKit Go.PlainAid

/-- The line of some fields. -/
def lineF : List Fld → List UInt8
  | [] => []
  | x :: l => match l with | [] => formF x | _ :: _ => formF x ++ 32 :: lineF l
theorem lineF_one (x : Fld) : lineF [x] = formF x := rfl
theorem lineF_two (x y : Fld) (l : List Fld) : lineF (x :: y :: l) = formF x ++ 32 :: lineF (y :: l) := rfl
theorem lineF_snoc : ∀ (l : List Fld) (x : Fld), l ≠ [] → lineF (l ++ [x]) = lineF l ++ 32 :: formF x := by
  intro l
  induction l with
  | nil => intro x h; exact absurd rfl h
  | cons a l ih =>
    intro x _
    cases l with
    | nil => rfl
    | cons b l =>
      have := ih x (by simp)
      rw [List.cons_append] at this
      rw [List.cons_append, List.cons_append, lineF_two, this, lineF_two, List.append_assoc]; rfl
theorem jnK_line (l : List Fld) : ∀ k, k ≤ l.length → jnK l k = lineF (l.take k) := by
  intro k
  induction k with
  | zero => intro _; rfl
  | succ k ih =>
    intro hk
    have hx := List.getElem?_eq_getElem (l := l) (i := k) (by omega)
    have ht : l.take (k + 1) = l.take k ++ [l[k]'(by omega)] := by rw [List.take_add_one, hx]; rfl
    rw [jnK, gf_at hx, ht]
    by_cases h0 : k = 0
    · subst h0; rfl
    · rw [if_neg h0, ih (by omega), lineF_snoc _ _ (by intro e; have := congrArg List.length e; rw [List.length_take, List.length_nil] at this; omega), List.append_assoc]; rfl
theorem jn_line (l : List Fld) : jnK l l.length = lineF l := by rw [jnK_line l _ (Nat.le_refl _), List.take_length]

theorem esc_head (c : UInt8) : ∃ a r, esc c = a :: r ∧ a ≠ 34 := by
  have h := rd_esc c []
  rw [List.append_nil] at h
  cases he : esc c with
  | nil => rw [he] at h; cases h
  | cons a r =>
    refine ⟨a, r, rfl, ?_⟩
    rintro rfl
    rw [he] at h
    have h2 : rd (34 :: r) = none := rfl
    rw [h2] at h
    cases h
theorem quoP_to : ∀ (x : List UInt8) (f : Nat) (pre r : List UInt8), x.length < f → quoP f (pre ++ (escs x ++ 34 :: r)) pre.length = some (x, pre.length + (escs x).length + 1) := by
  intro x
  induction x with
  | nil =>
    intro f pre r hf
    cases f with
    | zero => cases hf
    | succ f => rw [quoP, List.drop_left]; rfl
  | cons c x ih =>
    intro f pre r hf
    cases f with
    | zero => cases hf
    | succ f =>
      obtain ⟨a, t, he, ha⟩ := esc_head c
      have hE : escs (c :: x) = esc c ++ escs x := rfl
      have hd : (pre ++ (escs (c :: x) ++ 34 :: r)).drop pre.length = a :: (t ++ (escs x ++ 34 :: r)) := by
        rw [List.drop_left, hE, he]; simp
      have hr := rd_esc c (escs x ++ 34 :: r)
      rw [he, List.cons_append] at hr
      have hl : pre ++ (escs (c :: x) ++ 34 :: r) = (pre ++ esc c) ++ (escs x ++ 34 :: r) := by rw [hE]; simp
      have hi := ih f (pre ++ esc c) r (by simp only [List.length_cons] at hf; omega)
      rw [List.length_append] at hi
      rw [quoP, hd]
      simp only
      rw [if_neg ha, hr]
      simp only
      rw [hl, ← he, hi, Option.map_some, hE, List.length_append]
      congr 2; omega
theorem quoP_from : ∀ (f : Nat) (l : List UInt8) (p : Nat) (b : List UInt8) (q : Nat), quoP f l p = some (b, q) → l.drop p = escs b ++ 34 :: l.drop q ∧ q = p + (escs b).length + 1 := by
  intro f
  induction f with
  | zero => intro l p b q h; cases h
  | succ f ih =>
    intro l p b q h
    rw [quoP] at h
    split at h
    · cases h
    · rename_i a r hd
      split at h
      · rename_i ha
        subst ha
        cases h
        refine ⟨?_, rfl⟩
        show l.drop p = 34 :: l.drop (p + 1)
        rw [hd]
        congr 1
        have := congrArg (List.drop 1) hd
        rw [List.drop_drop] at this
        exact this.symm
      · split at h
        · cases h
        · rename_i c n hr
          rw [Option.map_eq_some_iff] at h
          obtain ⟨⟨b', q'⟩, hq, he⟩ := h
          cases he
          obtain ⟨r2, h1, h2⟩ := rd_some hr
          obtain ⟨h3, h4⟩ := ih _ _ _ _ hq
          have h5 : l.drop (p + n) = r2 := by
            rw [← List.drop_drop, hd, h1, h2, List.drop_left]
          have hE : escs (c :: b') = esc c ++ escs b' := rfl
          refine ⟨?_, ?_⟩
          · rw [hd, h1, ← h5, h3, hE, List.append_assoc]
          · rw [h4, hE, List.length_append, h2]; omega
theorem quoS_to (x pre r : List UInt8) : quoS (pre ++ (quoteL x ++ r)) pre.length = some (x, pre.length + (quoteL x).length) := by
  have hd : (pre ++ (quoteL x ++ r)).drop pre.length = 34 :: (escs x ++ [34] ++ r) := by rw [List.drop_left]; rfl
  have hl : pre ++ (quoteL x ++ r) = (pre ++ [34]) ++ (escs x ++ 34 :: r) := by unfold quoteL; simp
  unfold quoS
  rw [hd]
  show (if (34 : UInt8) = 34 then _ else _) = _
  rw [if_pos rfl]
  have hx : x.length ≤ (escs x).length := by
    clear hd hl
    induction x with
    | nil => simp
    | cons c x ih =>
      have hE : escs (c :: x) = esc c ++ escs x := rfl
      have := esc_ne c
      rw [hE, List.length_append, List.length_cons]; omega
  have hf : x.length < (pre ++ (quoteL x ++ r)).length + 1 := by
    rw [hl]; simp only [List.length_append, List.length_cons]; omega
  have := quoP_to x _ (pre ++ [34]) r hf
  rw [← hl, show (pre ++ [(34 : UInt8)]).length = pre.length + 1 by simp] at this
  rw [this]
  unfold quoteL
  simp only [List.length_cons, List.length_append, List.length_nil]
  congr 2; omega
theorem quoS_from {l : List UInt8} {p : Nat} {b : List UInt8} {q : Nat} (h : quoS l p = some (b, q)) : l.drop p = quoteL b ++ l.drop q ∧ q = p + (quoteL b).length := by
  unfold quoS at h
  split at h
  · cases h
  · rename_i a r hd
    split at h
    · rename_i ha
      subst ha
      obtain ⟨h1, h2⟩ := quoP_from _ _ _ _ _ h
      have h3 : l.drop (p + 1) = r := by rw [← List.drop_drop, hd]; rfl
      refine ⟨?_, ?_⟩
      · rw [hd, ← h3, h1]; unfold quoteL; simp
      · rw [h2]; unfold quoteL; simp only [List.length_cons, List.length_append, List.length_nil]; omega
    · cases h
theorem unq_quote (x : List UInt8) : unqS (str (quoteL x)) = some x := by
  have h := quoS_to x [] []
  rw [List.nil_append, List.append_nil, List.length_nil, Nat.zero_add] at h
  exact unqS_all (x := (x, (quoteL x).length)) (by simpa [str] using h) (by rw [str_size])
theorem quote_unq {s : ByteArray} {x : List UInt8} (h : unqS s = some x) : s = str (quoteL x) := by
  unfold unqS at h
  split at h
  · rename_i b n hq
    split at h
    · rename_i hn
      obtain ⟨h1, h2⟩ := quoS_from hq
      have hl : s.data.toList.length = s.size := by simp
      cases h
      rw [List.drop_zero, List.drop_of_length_le (by rw [hl]; simpa using Nat.le_of_eq hn.symm), List.append_nil] at h1
      apply ByteArray.ext
      rw [← Array.toList_inj, h1]; simp [str]
    · cases h
  · cases h

/-- A field that has a form in a line. -/
def okF (x : Fld) : Prop := x.2 = true ∨ bareL x.1 = true
theorem okF_form {x : Fld} : okF x ↔ noForm x = false := by
  unfold okF noForm
  cases x.2 <;> cases bareL x.1 <;> simp
/-- What may stand behind a field. -/
def Behind (r : List UInt8) : Prop := r = [] ∨ ∃ t, r = 32 :: t
theorem tw_form : ∀ (x r : List UInt8), x.all bareC = true → Behind r → (x ++ r).takeWhile bareC = x := by
  intro x
  induction x with
  | nil =>
    intro r _ h
    rcases h with rfl | ⟨t, rfl⟩
    · rfl
    · rw [List.nil_append, List.takeWhile_cons, if_neg (by decide)]
  | cons c x ih =>
    intro r h hr
    rw [List.all_cons, Bool.and_eq_true] at h
    rw [List.cons_append, List.takeWhile_cons, if_pos h.1, ih r h.2 hr]
theorem field_to {x : Fld} {pre r : List UInt8} (hx : okF x) (hr : Behind r) : fieldAt (pre ++ (formF x ++ r)) pre.length = some (x.1, x.2, pre.length + (formF x).length) := by
  obtain ⟨S, Q⟩ := x
  cases Q with
  | true =>
    have hd : (pre ++ (quoteL S ++ r))[pre.length]? = some 34 := by
      rw [List.getElem?_append_right (Nat.le_refl _), Nat.sub_self]; rfl
    show fieldAt (pre ++ (quoteL S ++ r)) pre.length = _
    unfold fieldAt
    rw [if_pos hd, quoS_to]; rfl
  | false =>
    have hb : bareL S = true := by rcases hx with h | h; · cases h
                                   · exact h
    unfold bareL at hb
    rw [Bool.and_eq_true] at hb
    obtain ⟨h1, h2⟩ := hb
    cases S with
    | nil => cases h1
    | cons c S =>
      have hc : c ≠ 34 := by rw [List.all_cons, Bool.and_eq_true] at h2; exact (bareC_ne h2.1).2
      have hd : (pre ++ (c :: S ++ r))[pre.length]? ≠ some 34 := by
        rw [List.getElem?_append_right (Nat.le_refl _), Nat.sub_self]
        intro e
        exact hc (Option.some.inj e)
      have ht : ((pre ++ (c :: S ++ r)).drop pre.length).takeWhile bareC = c :: S := by rw [List.drop_left]; exact tw_form _ _ h2 hr
      show fieldAt (pre ++ (c :: S ++ r)) pre.length = _
      unfold fieldAt bareE
      rw [if_neg hd, ht, if_neg (by simp)]
      rfl
theorem field_from {L : List UInt8} {p : Nat} {S : List UInt8} {Q : Bool} {q : Nat} (h : fieldAt L p = some (S, Q, q)) : okF (S, Q) ∧ L.drop p = formF (S, Q) ++ L.drop q ∧ q = p + (formF (S, Q)).length := by
  unfold fieldAt at h
  split at h
  · rw [Option.map_eq_some_iff] at h
    obtain ⟨⟨b, q'⟩, h1, h2⟩ := h
    cases h2
    obtain ⟨h3, h4⟩ := quoS_from h1
    exact ⟨.inl rfl, h3, h4⟩
  · split at h
    · cases h
    · rename_i hne
      cases h
      refine ⟨.inr ?_, ?_, rfl⟩
      · show bareL ((L.drop p).takeWhile bareC) = true
        unfold bareL
        rw [Bool.and_eq_true]
        refine ⟨?_, ?_⟩
        · cases ht : (L.drop p).takeWhile bareC with
          | nil => exfalso; apply hne; unfold bareE; rw [ht]; rfl
          | cons c t => rfl
        · rw [List.all_eq_true]
          intro c hc
          have := List.all_takeWhile (p := bareC) (l := L.drop p)
          rw [List.all_eq_true] at this
          exact this c hc
      · show L.drop p = (L.drop p).takeWhile bareC ++ L.drop (p + ((L.drop p).takeWhile bareC).length)
        rw [← List.drop_drop]
        generalize L.drop p = M
        clear hne
        induction M with
        | nil => rfl
        | cons c M ih =>
          by_cases hc : bareC c = true
          · rw [List.takeWhile_cons, if_pos hc, List.length_cons, List.drop_succ_cons, List.cons_append, ← ih]
          · rw [List.takeWhile_cons, if_neg hc]; rfl
def yOf (x : Fld) : Yld := (x.1, x.2, true)
theorem form_pos {x : Fld} (hx : okF x) : 1 ≤ (formF x).length := by
  obtain ⟨S, Q⟩ := x
  cases Q with
  | true => show 1 ≤ (quoteL S).length; unfold quoteL; simp
  | false =>
    have hb : bareL S = true := by rcases hx with h | h; · cases h
                                   · exact h
    cases S with
    | nil => cases hb
    | cons c S => show 1 ≤ (c :: S).length; simp
theorem flds_to : ∀ (l : List Fld) (f : Nat) (pre : List UInt8), l ≠ [] → (∀ x ∈ l, okF x) → l.length ≤ f → flds f (pre ++ lineF l) pre.length = l.map yOf := by
  intro l
  induction l with
  | nil => intro f pre h; exact absurd rfl h
  | cons x l ih =>
    intro f pre _ hok hf
    cases f with
    | zero => simp at hf
    | succ f =>
      have hx := hok x (List.mem_cons_self ..)
      cases l with
      | nil =>
        have h := field_to (pre := pre) (r := []) hx (.inl rfl)
        rw [List.append_nil] at h
        have hlen : (pre ++ formF x).length ≤ pre.length + (formF x).length := by rw [List.length_append]; omega
        rw [lineF_one, flds, h]
        simp only
        rw [if_neg (by omega), if_pos hlen]; rfl
      | cons y l =>
        have h := field_to (pre := pre) (r := 32 :: lineF (y :: l)) hx (.inr ⟨_, rfl⟩)
        have h32 : (pre ++ (formF x ++ 32 :: lineF (y :: l)))[pre.length + (formF x).length]? = some 32 := by
          rw [← List.append_assoc, List.getElem?_append_right (by rw [List.length_append]; omega), List.length_append, Nat.sub_self]; rfl
        have hlen : ¬ (pre ++ (formF x ++ 32 :: lineF (y :: l))).length ≤ pre.length + (formF x).length := by
          simp only [List.length_append, List.length_cons]; omega
        have hl : pre ++ (formF x ++ 32 :: lineF (y :: l)) = (pre ++ formF x ++ [32]) ++ lineF (y :: l) := by simp
        have hi := ih f (pre ++ formF x ++ [32]) (by simp) (fun z hz => hok z (List.mem_cons_of_mem _ hz)) (by simp only [List.length_cons] at *; omega)
        rw [lineF_two, flds, h]
        simp only
        rw [if_neg (fun e => e.2 h32), if_neg hlen]
        rw [List.length_append, List.length_append, List.length_singleton, ← hl] at hi
        rw [hi]; rfl
theorem flds_from : ∀ (f : Nat) (L : List UInt8) (p : Nat), (∀ y ∈ flds f L p, y.2.2 = true) → p ≤ L.length → L.length + 1 < f + p →
    flds f L p ≠ [] ∧ (∀ x ∈ (flds f L p).map fldOf, okF x) ∧ lineF ((flds f L p).map fldOf) = L.drop p := by
  intro f
  induction f with
  | zero => intro L p _ h1 h2; omega
  | succ f ih =>
    intro L p hall hp hf
    cases hx : fieldAt L p with
    | none =>
      rw [flds, hx] at hall
      have := hall bad (List.mem_singleton.2 rfl)
      cases this
    | some x =>
      obtain ⟨S, Q, q⟩ := x
      obtain ⟨hok, hd, hq⟩ := field_from hx
      by_cases hb : q < L.length ∧ L[q]? ≠ some 32
      · rw [flds, hx] at hall
        simp only at hall
        rw [if_pos hb] at hall
        have := hall bad (List.mem_singleton.2 rfl)
        cases this
      · have hF : flds (f + 1) L p = (S, Q, true) :: (if L.length ≤ q then [] else flds f L (q + 1)) := by
          rw [flds, hx]
          simp only
          rw [if_neg hb]
        rw [hF] at hall ⊢
        by_cases hqe : L.length ≤ q
        · rw [if_pos hqe]
          refine ⟨by simp, fun z hz => ?_, ?_⟩
          · have : z = (S, Q) := by simpa [fldOf] using hz
            rw [this]; exact hok
          · rw [hd, List.drop_of_length_le hqe, List.append_nil]; rfl
        · rw [if_neg hqe] at hall ⊢
          have h32 : L[q]? = some 32 := Classical.byContradiction fun e => hb ⟨by omega, e⟩
          have hpos := form_pos hok
          obtain ⟨i1, i2, i3⟩ := ih L (q + 1) (fun y hy => hall y (List.mem_cons_of_mem _ hy)) (by omega) (by omega)
          refine ⟨by simp, fun z hz => ?_, ?_⟩
          · rw [List.map_cons, List.mem_cons] at hz
            rcases hz with rfl | hz
            · exact hok
            · exact i2 z hz
          · have hdq : L.drop q = 32 :: L.drop (q + 1) := by
              rw [List.drop_eq_getElem_cons (by omega)]
              congr 1
              exact Option.some.inj ((List.getElem?_eq_getElem (by omega)).symm.trans h32)
            rw [hd, hdq, ← i3, List.map_cons]
            cases hm : (flds f L (q + 1)).map fldOf with
            | nil => exact absurd (List.map_eq_nil_iff.1 hm) i1
            | cons y l => exact lineF_two _ _ _
theorem line_len : ∀ (l : List Fld), (∀ x ∈ l, okF x) → l.length ≤ (lineF l).length := by
  intro l
  induction l with
  | nil => intro _; exact Nat.le_refl _
  | cons x l ih =>
    intro h
    have h1 := form_pos (h x (List.mem_cons_self ..))
    have h2 := ih fun y hy => h y (List.mem_cons_of_mem _ hy)
    cases l with
    | nil => exact h1
    | cons y l => rw [lineF_two]; simp only [List.length_append, List.length_cons] at *; omega
theorem any_form {l : List Fld} : l.any noForm = false ↔ ∀ x ∈ l, okF x := by
  rw [List.any_eq_false]
  exact ⟨fun h x hx => okF_form.2 (by simpa using h x hx), fun h x hx => by simpa using okF_form.1 (h x hx)⟩
/-- Split takes what Join gives. -/
theorem split_join {l : List Fld} (h : (joinS l).2 = 0) : splitS (joinS l).1 = (l, 0) := by
  unfold joinS at h ⊢
  by_cases h1 : tooL l = true
  · rw [if_pos h1] at h; cases h
  by_cases h2 : l.any noForm = true
  · rw [if_neg h1, if_pos h2] at h; cases h
  by_cases h3 : 8192 < (jnK l l.length).length
  · rw [if_neg h1, if_neg h2, if_pos h3] at h; cases h
  rw [if_neg h1, if_neg h2, if_neg h3]
  have hok := any_form.1 (Bool.eq_false_iff.2 h2)
  rw [jn_line] at h3 ⊢
  simp only
  have hF : fldsOf (lineF l) = l.map yOf := by
    unfold fldsOf
    cases l with
    | nil => rfl
    | cons x l =>
      have hn := line_len _ hok
      rw [if_neg (by intro e; rw [e] at hn; simp at hn)]
      have := flds_to (x :: l) ((lineF (x :: l)).length + 2) [] (by simp) hok (by omega)
      rwa [List.nil_append] at this
  have hM : (l.map yOf).map fldOf = l := by
    rw [List.map_map]
    exact List.map_id'' (fun x => rfl) l
  unfold splitS
  rw [if_neg h3, hF, if_neg (by simp [yOf]), hM, if_neg h1]
/-- Join gives back what Split took. -/
theorem join_split {L : List UInt8} (h : (splitS L).2 = 0) : joinS (splitS L).1 = (L, 0) := by
  unfold splitS at h ⊢
  by_cases h1 : 8192 < L.length
  · rw [if_pos h1] at h; cases h
  by_cases h2 : ((fldsOf L).any fun y => !y.2.2) = true
  · rw [if_neg h1, if_pos h2] at h; cases h
  by_cases h3 : tooL ((fldsOf L).map fldOf) = true
  · rw [if_neg h1, if_neg h2, if_pos h3] at h; cases h
  rw [if_neg h1, if_neg h2, if_neg h3]
  simp only
  have hall : ∀ y ∈ fldsOf L, y.2.2 = true := by
    intro y hy
    rw [List.any_eq_true] at h2
    cases hq : y.2.2 with
    | true => rfl
    | false => exact absurd ⟨y, hy, by rw [hq]; rfl⟩ h2
  have hB : (∀ x ∈ (fldsOf L).map fldOf, okF x) ∧ lineF ((fldsOf L).map fldOf) = L := by
    unfold fldsOf at hall ⊢
    by_cases hL : L = []
    · rw [if_pos hL, hL]; exact ⟨fun x hx => (by cases hx), rfl⟩
    · rw [if_neg hL] at hall ⊢
      obtain ⟨_, i2, i3⟩ := flds_from _ L 0 hall (Nat.zero_le _) (by omega)
      exact ⟨i2, i3⟩
  unfold joinS
  rw [if_neg h3, if_neg (by rw [any_form.2 hB.1]; simp), jn_line, hB.2, if_neg h1]
end Go.Proofs.YtnajkkbcfebegaaGreatDoor
