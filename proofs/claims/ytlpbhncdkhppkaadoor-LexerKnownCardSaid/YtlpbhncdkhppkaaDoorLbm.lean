/- Printing and taking apart (mathematics). -/
import Derived.Test.YtlpbhncdkhppkaaDoorLu
import Derived.Test.YtlpbhncdkhppkaaDoorLx
import Derived.Test.YtlpbhncdkhppkaaDoorLsame
namespace Go.Proofs.YtlpbhncdkhppkaaDoor

/-- What ends a word. -/
def endT (Z : List UInt8) : Prop := Z = [] ∨ ∃ c r, Z = c :: r ∧ (c = 32 ∨ c = 41 ∨ c = 93)
theorem endT_word {Z : List UInt8} (h : endT Z) : wordN Z = 0 := by
  unfold wordN
  rcases h with rfl | ⟨c, r, rfl, rfl | rfl | rfl⟩
  · exact runN_stop (by rw [dec_nil]; simp)
  · exact runN_stop (by rw [dec_c1 (by decide)]; decide +kernel)
  · exact runN_stop (by rw [dec_c1 (by decide)]; decide +kernel)
  · exact runN_stop (by rw [dec_c1 (by decide)]; decide +kernel)
/-- Bytes of a word, one by one. -/
def wB (c : UInt8) : Bool := decide (ub c < 128) && isWr (ub c)
theorem word_bytes : ∀ (b Z : List UInt8), (∀ c ∈ b, wB c = true) → wordN (b ++ Z) = b.length + wordN Z := by
  intro b
  induction b with
  | nil => intro Z _; simp
  | cons c r ih =>
    intro Z h
    have hc := h c (by simp)
    unfold wB at hc
    rw [Bool.and_eq_true, decide_eq_true_iff] at hc
    have hi := ih Z (fun x hx => h x (by simp [hx]))
    unfold wordN at hi ⊢
    rw [List.cons_append, runN_step (by rw [dec_c1 hc.1]) (by rw [dec_c1 hc.1]; exact hc.2), dec_c1 hc.1]
    show 1 + runN isWr ((c :: (r ++ Z)).drop 1) = _
    rw [List.drop_succ_cons, List.drop_zero, hi, List.length_cons]; omega
theorem dig_wB_fin : ∀ n : Fin 10, wB (UInt8.ofNat (48 + n.val)) = true := by decide +kernel
theorem dig_wB {c : UInt8} (h : 48 ≤ c.toNat ∧ c.toNat ≤ 57) : wB c = true := by
  have H := dig_wB_fin ⟨c.toNat - 48, by omega⟩
  have e : UInt8.ofNat (48 + (c.toNat - 48)) = c := by rw [show 48 + (c.toNat - 48) = c.toNat by omega]; simp
  simp only [e] at H; exact H
theorem digA_mem {d : List UInt8} (h : digA d = true) : ∀ c ∈ d, 48 ≤ c.toNat ∧ c.toNat ≤ 57 := by
  induction d with
  | nil => intro c hc; cases hc
  | cons a r ih =>
    obtain ⟨h1, h2⟩ := digA_cons.1 h
    intro c hc
    rcases List.mem_cons.1 hc with rfl | hc
    · exact h1
    · exact ih h2 c hc
theorem digA_app {a b : List UInt8} (ha : digA a = true) (hb : digA b = true) : digA (a ++ b) = true := by
  unfold digA at *; rw [List.all_append, ha, hb]; rfl
theorem dec_good : ∀ (f u : Nat), u ≤ f → digA (Lib.decDigits u) = true ∧ numFrom 0 (Lib.decDigits u) = u := by
  have hone : ∀ v, v < 10 → digA [UInt8.ofNat (48 + v)] = true := fun v hv => digA_cons.2 ⟨by simp; omega, rfl⟩
  intro f
  induction f with
  | zero =>
    intro u h
    obtain rfl : u = 0 := by omega
    rw [Lib.decDigits_one (by omega)]; exact ⟨by decide, by decide⟩
  | succ f ih =>
    intro u h
    by_cases h10 : u < 10
    · rw [Lib.decDigits_one h10]
      refine ⟨hone u h10, ?_⟩
      rw [numFrom_cons, numFrom_nil]; simp; omega
    · rw [Lib.decDigits, dif_neg h10]
      obtain ⟨h1, h2⟩ := ih (u / 10) (by omega)
      refine ⟨digA_app h1 (hone _ (by omega)), ?_⟩
      rw [numFrom_snoc, h2]; simp; omega
theorem dec_nn (u : Nat) : Lib.decDigits u ≠ [] := fun e => by
  have h1 := Lib.decDigits_length u
  have h2 := Lib.nDigits_pos u
  rw [e] at h1; simp at h1; omega
theorem dec_unsigned (u : Nat) : unsigned (Lib.decDigits u) = Lib.decDigits u ∧ (Lib.decDigits u).head? ≠ some 45 := by
  have hd := (dec_good u u (Nat.le_refl _)).1
  cases hx : Lib.decDigits u with
  | nil => exact absurd hx (dec_nn u)
  | cons c r =>
    rw [hx] at hd
    have h1 := (digA_cons.1 hd).1
    have h43 : c ≠ 43 := by rintro rfl; revert h1; decide
    have h45 : c ≠ 45 := by rintro rfl; revert h1; decide
    refine ⟨?_, ?_⟩
    · unfold unsigned; simp only; rw [if_neg (by intro e; rcases e with e | e; exact h43 e; exact h45 e)]
    · rw [List.head?_cons]; intro e; exact h45 (Option.some.inj e)
/-- The decimal form of a number is an integer of this value. -/
theorem itoa_int (n : Int) (h : fits n) : intE (Lib.itoa n) = (n, 0) := by
  by_cases hn : n < 0
  · have e : Lib.itoa n = 45 :: Lib.decDigits n.natAbs := by unfold Lib.itoa; rw [if_pos hn]
    have hb : intB (Lib.itoa n) = true := by rw [e]; exact (intB_iff _).2 ⟨dec_nn _, (dec_good _ _ (Nat.le_refl _)).1⟩
    have hv : numI (Lib.itoa n) = n := by
      rw [e]; unfold numI; rw [if_pos (show (45 :: Lib.decDigits n.natAbs).head? = some 45 from rfl)]
      show -(numFrom 0 (Lib.decDigits n.natAbs) : Int) = n
      rw [(dec_good _ _ (Nat.le_refl _)).2]; omega
    unfold intE; rw [if_pos hb, hv, if_pos h]
  · have e : Lib.itoa n = Lib.decDigits n.toNat := by unfold Lib.itoa; rw [if_neg hn]
    obtain ⟨h1, h2⟩ := dec_unsigned n.toNat
    have hb : intB (Lib.itoa n) = true := by rw [e]; exact (intB_iff _).2 ⟨by rw [h1]; exact dec_nn _, by rw [h1]; exact (dec_good _ _ (Nat.le_refl _)).1⟩
    have hv : numI (Lib.itoa n) = n := by
      rw [e]; unfold numI; rw [if_neg h2, h1, (dec_good _ _ (Nat.le_refl _)).2]; omega
    unfold intE; rw [if_pos hb, hv, if_pos h]
theorem itoa_bytes (n : Int) : ∀ c ∈ Lib.itoa n, wB c = true := by
  have hd : ∀ u, ∀ c ∈ Lib.decDigits u, wB c = true := fun u c hc => dig_wB (digA_mem (dec_good u u (Nat.le_refl _)).1 c hc)
  unfold Lib.itoa
  split
  · intro c hc
    rcases List.mem_cons.1 hc with rfl | hc
    · decide +kernel
    · exact hd _ c hc
  · exact hd _

/-- A token without an error, more exactly. -/
theorem ck0x {k n : Int} {x : List UInt8} (h : ckT k n x = 0) : (x = [] ∧ k ≠ 7) ∨ (k = 7 ∧ n = 0 ∧ symL x = true) := by
  cases hz : kdB k n (x == [])
  · rw [ck_kind hz] at h; omega
  by_cases h7 : k = 7
  · subst h7
    rw [kd_7] at hz
    have hn : n = 0 := beq_iff_eq.1 hz
    subst hn
    rw [ck_7] at h
    right
    refine ⟨rfl, rfl, ?_⟩
    cases hs : symL x
    · rw [hs] at h; simp at h
    · rfl
  · left
    refine ⟨?_, h7⟩
    have hk : k = 1 ∨ k = 2 ∨ k = 3 ∨ k = 4 ∨ k = 5 ∨ k = 6 := by rcases ck0 h with h | h | h | h | h | h | h <;> omega
    have hx : (x == []) = true := by
      rcases hk with rfl | rfl | rfl | rfl | rfl | rfl
      · rw [kd_z (by omega)] at hz; exact hz
      · rw [kd_z (by omega)] at hz; exact hz
      · rw [kd_q (by omega), Bool.and_eq_true] at hz; exact hz.1
      · rw [kd_q (by omega), Bool.and_eq_true] at hz; exact hz.1
      · rw [kd_z (by omega)] at hz; exact hz
      · rw [kd_z (by omega)] at hz; exact hz
    exact beq_iff_eq.1 hx
theorem symL_facts {x : List UInt8} (h : symL x = true) : x ≠ [] ∧ x.length ≤ 24 ∧ intB x = false ∧ wordN x = x.length := by
  unfold symL at h
  simp only [Bool.and_eq_true, decide_eq_true_iff, Bool.not_eq_true'] at h
  exact ⟨h.1.1.1, h.1.1.2, h.1.2, h.2⟩
theorem take_app (a b : List UInt8) : (a ++ b).take a.length = a := List.take_left
/-- A word that stands before the end of a word. -/
theorem word_print {x Z : List UInt8} (hx : x ≠ []) (hw : wordN (x ++ Z) = x.length) : tokN (x ++ Z) = x.length ∧ tokT (x ++ Z) = wordT x ∧ spN (x ++ Z) = 0 := by
  have hl := List.length_pos_iff.2 hx
  have hc : isWc (clsP (x ++ Z)).1 = true := by
    have h1 := runN_eq isWr (x ++ Z)
    have h2 : runN isWr (x ++ Z) = x.length := hw
    by_cases h : (dec (x ++ Z)).2.2 = 0 ∧ isWr (dec (x ++ Z)).1 = true
    · rw [clsP_ok h.1]; exact h.2
    · rw [if_neg h] at h1; omega
  obtain ⟨h1, h2, _⟩ := tok_word hc
  refine ⟨by rw [h1, hw], by rw [h2, hw, take_app], ?_⟩
  rcases isWc_iff.1 hc with e | e | e <;> exact spN_stop (by rw [e]; decide) (by rw [e]; decide)
/-- What a printed token is taken apart to. -/
theorem tok_print {k n : Int} {x Z : List UInt8} (hc : ckT k n x = 0) (hf : fits n) (hZ : k = 5 ∨ k = 6 ∨ k = 7 → endT Z) :
    txT k n x ≠ [] ∧ tokN (txT k n x ++ Z) = (txT k n x).length ∧ tokT (txT k n x ++ Z) = (k, n, x, 0) ∧ spN (txT k n x ++ Z) = 0 := by
  rcases ck0x hc with ⟨rfl, h7⟩ | ⟨rfl, rfl, hs⟩
  · rcases ck0 hc with ⟨rfl, rfl | rfl⟩ | ⟨rfl, rfl | rfl⟩ | ⟨rfl, rfl⟩ | ⟨rfl, rfl⟩ | rfl | ⟨rfl, rfl | rfl⟩ | rfl
    · exact ⟨by decide, (tok_40 Z).1, (tok_40 Z).2, spN_stop (by show (clsP (40 :: Z)).1 ≠ 1; rw [cls_40]; decide) (by show (clsP (40 :: Z)).1 ≠ 6; rw [cls_40]; decide)⟩
    · exact ⟨by decide, (tok_91 Z).1, (tok_91 Z).2, spN_stop (by show (clsP (91 :: Z)).1 ≠ 1; rw [cls_91]; decide) (by show (clsP (91 :: Z)).1 ≠ 6; rw [cls_91]; decide)⟩
    · exact ⟨by decide, (tok_41 Z).1, (tok_41 Z).2, spN_stop (by show (clsP (41 :: Z)).1 ≠ 1; rw [cls_41]; decide) (by show (clsP (41 :: Z)).1 ≠ 6; rw [cls_41]; decide)⟩
    · exact ⟨by decide, (tok_93 Z).1, (tok_93 Z).2, spN_stop (by show (clsP (93 :: Z)).1 ≠ 1; rw [cls_93]; decide) (by show (clsP (93 :: Z)).1 ≠ 6; rw [cls_93]; decide)⟩
    · exact ⟨by decide, (tok_39 Z).1, (tok_39 Z).2, spN_stop (by show (clsP (39 :: Z)).1 ≠ 1; rw [cls_39]; decide) (by show (clsP (39 :: Z)).1 ≠ 6; rw [cls_39]; decide)⟩
    · exact ⟨by decide, (tok_skip Z).1, (tok_skip Z).2, spN_stop (by show (clsP (35 :: 59 :: Z)).1 ≠ 1; rw [cls_35]; decide) (by show (clsP (35 :: 59 :: Z)).1 ≠ 6; rw [cls_35]; decide)⟩
    · have e : txT 5 n [] = Lib.itoa n := by unfold txT; rw [if_pos rfl]
      rw [e]
      have hne := itoa_ne n
      have hw : wordN (Lib.itoa n ++ Z) = (Lib.itoa n).length := by rw [word_bytes _ _ (itoa_bytes n), endT_word (hZ (by omega))]; rfl
      obtain ⟨h1, h2, h3⟩ := word_print hne hw
      refine ⟨hne, h1, ?_, h3⟩
      rw [h2]; unfold wordT; rw [itoa_int n hf, if_pos rfl]
    · have hz : wordN (102 :: Z) = 1 := by
        have := word_bytes [102] Z (by decide +kernel)
        rw [endT_word (hZ (by omega))] at this; exact this
      obtain ⟨h1, h2⟩ := tok_hash (t := 102 :: Z) (by simp)
      refine ⟨by decide, by rw [hz] at h1; exact h1, ?_, spN_stop (by show (clsP (35 :: 102 :: Z)).1 ≠ 1; rw [cls_35]; decide) (by show (clsP (35 :: 102 :: Z)).1 ≠ 6; rw [cls_35]; decide)⟩
      show tokT (35 :: 102 :: Z) = _
      rw [h2, hz]; rfl
    · have hz : wordN (116 :: Z) = 1 := by
        have := word_bytes [116] Z (by decide +kernel)
        rw [endT_word (hZ (by omega))] at this; exact this
      obtain ⟨h1, h2⟩ := tok_hash (t := 116 :: Z) (by simp)
      refine ⟨by decide, by rw [hz] at h1; exact h1, ?_, spN_stop (by show (clsP (35 :: 116 :: Z)).1 ≠ 1; rw [cls_35]; decide) (by show (clsP (35 :: 116 :: Z)).1 ≠ 6; rw [cls_35]; decide)⟩
      show tokT (35 :: 116 :: Z) = _
      rw [h2, hz]; rfl
    · exact absurd rfl h7
  · have e : txT 7 0 x = x := by unfold txT; rw [if_neg (by omega), if_pos rfl]
    rw [e]
    obtain ⟨s1, s2, s3, s4⟩ := symL_facts hs
    have hw : wordN (x ++ Z) = x.length := by
      have := run_app isWr _ x Z (Nat.le_refl _) s4
      have h0 := endT_word (hZ (by omega))
      unfold wordN at h0 ⊢
      omega
    obtain ⟨h1, h2, h3⟩ := word_print s1 hw
    refine ⟨s1, h1, ?_, h3⟩
    have hi : intE x = (0, 6) := by unfold intE; rw [s3]; rfl
    rw [h2]; unfold wordT; rw [hi, if_neg (by decide), if_neg (by decide), if_neg (by omega)]
/-- What stands behind a token that does not open. -/
theorem sep_end {p : Int} {r : List Tok} (hp : p = 5 ∨ p = 6 ∨ p = 7) (h : ∀ t ∈ r, ck t = 0) : endT (prG (some p) r) := by
  cases r with
  | nil => exact .inl rfl
  | cons t r =>
    right
    have hc := h t (by simp)
    by_cases h2 : t.1 = 2
    · have hs : sepO (some p) t.1 = [] := by unfold sepO; simp only; rw [h2, ap_2]; rfl
      rw [prG, hs, List.nil_append]
      have hc' : ckT t.1 t.2.2.2.1 t.2.2.2.2 = 0 := hc
      rw [h2] at hc'
      have hn : t.2.2.2.1 = 1 ∨ t.2.2.2.1 = 2 := by rcases ck0 hc' with h | h | h | h | h | h | h <;> omega
      unfold tx
      rw [h2, tx_2]
      rcases hn with e | e
      · rw [if_pos e]; exact ⟨41, _, rfl, by simp⟩
      · rw [if_neg (by omega), if_pos e]; exact ⟨93, _, rfl, by simp⟩
    · have hs : sepO (some p) t.1 = [32] := by unfold sepO; simp only; rw [ap_t (by omega) (by omega) (by omega) h2]; rfl
      rw [prG, hs]
      exact ⟨32, _, rfl, by simp⟩
theorem sep_cases (o : Option Int) (k : Int) : sepO o k = [] ∨ sepO o k = [32] := by
  unfold sepO; cases o with
  | none => exact .inl rfl
  | some p => simp only; split; exact .inr rfl; exact .inl rfl
/-- What is printed is taken apart to the same tokens, but for spans. -/
theorem lex_print : ∀ (l : List Tok) (o : Option Int) (off : Nat), (∀ t ∈ l, ck t = 0 ∧ fits t.2.2.2.1) → ∃ m, lexO off (prG o l) = (m, (0, 0), 0) ∧ m.map bareT = l.map bareT := by
  intro l
  induction l with
  | nil => intro o off _; exact ⟨[], lexO_none (by rw [prG, firstS_nil]), rfl⟩
  | cons t r ih =>
    intro o off h
    obtain ⟨hc, hf⟩ := h t (by simp)
    obtain ⟨h1, h2, h3, h4⟩ := tok_print (Z := prG (some t.1) r) (show ckT t.1 t.2.2.2.1 t.2.2.2.2 = 0 from hc) hf (fun hk => sep_end hk (fun u hu => (h u (by simp [hu])).1))
    have hT : txT t.1 t.2.2.2.1 t.2.2.2.2 = tx t := rfl
    rw [hT] at h1 h2 h3 h4
    obtain ⟨s, hs⟩ : ∃ s, spN (prG o (t :: r)) = s ∧ (prG o (t :: r)).drop s = tx t ++ prG (some t.1) r := by
      rw [prG]
      rcases sep_cases o t.1 with e | e
      · rw [e, List.nil_append]; exact ⟨0, h4, rfl⟩
      · rw [e]
        refine ⟨1, ?_, rfl⟩
        show spN (32 :: (tx t ++ prG (some t.1) r)) = 1
        rw [spN_space (by rw [cls_32]), cls_32]
        show 1 + spN (tx t ++ prG (some t.1) r) = 1
        rw [h4]
    obtain ⟨hs1, hs2⟩ := hs
    have hd : (prG o (t :: r)).drop (spN (prG o (t :: r))) = tx t ++ prG (some t.1) r := by rw [hs1, hs2]
    have hne : (prG o (t :: r)).drop (spN (prG o (t :: r))) ≠ [] := by rw [hd]; intro e; exact h1 (List.append_eq_nil_iff.1 e).1
    have hp := firstS_pos (off := off) hne
    rw [hd, h3, h2] at hp
    have h0 : (firstS off (prG o (t :: r))).2 = 0 := by rw [hp]
    have hrest : (prG o (t :: r)).drop (spN (prG o (t :: r)) + tokN ((prG o (t :: r)).drop (spN (prG o (t :: r))))) = prG (some t.1) r := by
      rw [← List.drop_drop, hd, h2, List.drop_left]
    have hk := lexO_ok h0
    rw [hrest] at hk
    obtain ⟨m, hm1, hm2⟩ := ih (some t.1) (off + (spN (prG o (t :: r)) + tokN ((prG o (t :: r)).drop (spN (prG o (t :: r)))))) (fun u hu => h u (by simp [hu]))
    rw [hm1, if_pos rfl] at hk
    refine ⟨_, hk, ?_⟩
    rw [List.map_cons, List.map_cons, hm2, hp]; rfl
/-- Printing does not look at spans. -/
theorem print_bare : ∀ (l l' : List Tok), l.map bareT = l'.map bareT → badT l = badT l' ∧ ∀ o, prG o l = prG o l' := by
  intro l
  induction l with
  | nil =>
    intro l' h
    cases l' with
    | nil => exact ⟨rfl, fun _ => rfl⟩
    | cons a r => cases h
  | cons t r ih =>
    intro l' h
    cases l' with
    | nil => cases h
    | cons t' r' =>
      rw [List.map_cons, List.map_cons] at h
      obtain ⟨h1, h2⟩ := List.cons.inj h
      obtain ⟨i1, i2⟩ := ih r' h2
      obtain ⟨k, f, u, n, x⟩ := t
      obtain ⟨k', f', u', n', x'⟩ := t'
      unfold bareT at h1
      simp only [Prod.mk.injEq] at h1
      obtain ⟨rfl, rfl, rfl⟩ := h1
      have hck : ck (k, f, u, n, x) = ck (k, f', u', n, x) := rfl
      refine ⟨by rw [badT, badT, i1, hck], fun o => ?_⟩
      rw [prG, prG]
      show sepO o k ++ (txT k n x ++ prG (some k) r) = sepO o k ++ (txT k n x ++ prG (some k) r')
      rw [i2]
theorem prS_bare {l l' : List Tok} (h : l.map bareT = l'.map bareT) : prS l = prS l' := by
  obtain ⟨h1, h2⟩ := print_bare l l' h
  unfold prS; rw [h1, h2]
/-- The stage's theorem, of what is printed. -/
theorem back_S {l : List Tok} {s : List UInt8} {at' : Nat} (hf : ∀ t ∈ l, fits t.2.2.2.1) (h : prS l = (s, at', 0)) : s.length ≤ 8000 ∧ ∃ m, lexS s = (m, (0, 0), 0) ∧ m.map bareT = l.map bareT ∧ prS m = (s, at', 0) := by
  have hb : (badT l).2 = 0 := by
    by_cases hb : (badT l).2 = 0
    · exact hb
    · unfold prS at h; rw [if_pos hb] at h
      exact absurd (congrArg (fun r => r.2.2) h) hb
  have hlen : ¬ 8000 < (prG none l).length := by
    intro hl
    unfold prS at h; rw [if_neg (by rw [hb]; simp), if_pos hl] at h
    exact absurd (congrArg (fun r => r.2.2) h) (by simp)
  have hs : s = prG none l := by
    have h' := h
    unfold prS at h'; rw [if_neg (by rw [hb]; simp), if_neg hlen] at h'
    exact (congrArg (fun r => r.1) h').symm
  obtain ⟨m, h1, h2⟩ := lex_print l none 0 (fun t ht => ⟨bad0 l hb t ht, hf t ht⟩)
  refine ⟨by rw [hs]; omega, m, ?_, h2, by rw [prS_bare h2]; exact h⟩
  rw [hs]; unfold lexS; rw [if_neg hlen]; exact h1
/-- What is taken apart: its tokens. -/
theorem mk_ok {y : List UInt8} (h : (mkT y).2.2.2 = 0) : mkT y ∈ [((1 : Int), (1 : Int), ([] : List UInt8), (0 : Int)), (1, 2, [], 0), (2, 1, [], 0), (2, 2, [], 0), (3, 0, [], 0), (4, 0, [], 0), (6, 0, [], 0), (6, 1, [], 0)] := by
  unfold mkT marksS at *
  simp only [mkGo] at *
  (repeat' split) <;> simp_all
theorem mk_good : ∀ r ∈ [((1 : Int), (1 : Int), ([] : List UInt8), (0 : Int)), (1, 2, [], 0), (2, 1, [], 0), (2, 2, [], 0), (3, 0, [], 0), (4, 0, [], 0), (6, 0, [], 0), (6, 1, [], 0)], ckT r.1 r.2.1 r.2.2.1 = 0 ∧ fits r.2.1 ∧ r.2.2.1.length ≤ 24 := by
  have : ∀ r ∈ [((1 : Int), (1 : Int), ([] : List UInt8), (0 : Int)), (1, 2, [], 0), (2, 1, [], 0), (2, 2, [], 0), (3, 0, [], 0), (4, 0, [], 0), (6, 0, [], 0), (6, 1, [], 0)], decide (ckT r.1 r.2.1 r.2.2.1 = 0 ∧ fits r.2.1 ∧ r.2.2.1.length ≤ 24) = true := by decide +kernel
  exact fun r hr => of_decide_eq_true (this r hr)
theorem tok_good {L : List UInt8} (hL : L ≠ []) (h : (tokT L).2.2.2 = 0) : ckT (tokT L).1 (tokT L).2.1 (tokT L).2.2.1 = 0 ∧ fits (tokT L).2.1 ∧ (tokT L).2.2.1.length ≤ 24 := by
  cases hc : isWc (clsP L).1
  · have e := tokT_else hc
    rw [e] at h ⊢
    exact mk_good _ (mk_ok h)
  · obtain ⟨h1, h2, h3⟩ := tok_word hc
    have hp := tokN_pos L
    have hl := tokN_le hL
    have hlen : (L.take (wordN L)).length = wordN L := by rw [List.length_take]; omega
    have hw : wordN (L.take (wordN L)) = wordN L := run_cut isWr _ L (wordN L) (Nat.le_refl _) (Nat.le_refl _)
    obtain ⟨y, hy⟩ : ∃ y, L.take (wordN L) = y := ⟨_, rfl⟩
    rw [hy] at h2 hlen hw
    rw [h2] at h ⊢
    have hy0 : y ≠ [] := by rintro rfl; simp at hlen; omega
    unfold wordT at h ⊢
    by_cases h0 : (intE y).2 = 0
    · rw [if_pos h0]
      have hf : fits (intE y).1 := by
        unfold intE at h0 ⊢
        split at h0
        · rename_i hb
          rw [if_pos hb]
          split at h0
          · rename_i hf; rw [if_pos hf]; exact hf
          · simp at h0
        · simp at h0
      refine ⟨?_, hf, by simp⟩
      show ckT 5 (intE y).1 [] = 0
      rw [ck_else (by rw [kd_z (by omega)]; rfl) (by omega)]
      have e : txT 5 (intE y).1 [] = Lib.itoa (intE y).1 := by unfold txT; rw [if_pos rfl]
      rw [e, if_neg (itoa_ne _)]
    · rw [if_neg h0] at h ⊢
      by_cases h7 : (intE y).2 = 7
      · rw [if_pos h7] at h; simp at h
      · rw [if_neg h7] at h ⊢
        by_cases h24 : 24 < y.length
        · rw [if_pos h24] at h; simp at h
        · rw [if_neg h24]
          have hb : intB y = false := by
            cases hb : intB y
            · rfl
            · exfalso; unfold intE at h0 h7; rw [if_pos hb] at h0 h7
              split at h0
              · simp at h0
              · rename_i hf; rw [if_neg hf] at h7; simp at h7
          have hs : symL y = true := by
            rw [symL_else hy0 (by omega) hb]; exact decide_eq_true (by omega)
          refine ⟨?_, by show fits 0; unfold fits; omega, by show y.length ≤ 24; omega⟩
          show ckT 7 0 y = 0
          rw [ck_7, if_pos hs]
theorem lex_good : ∀ (f off : Nat) (L : List UInt8), L.length ≤ f → (lexO off L).1.length ≤ L.length ∧ ∀ t ∈ (lexO off L).1, ck t = 0 ∧ fits t.2.2.2.1 ∧ t.2.2.2.2.length ≤ 24 := by
  intro f
  induction f with
  | zero =>
    intro off L h
    obtain rfl : L = [] := List.eq_nil_of_length_eq_zero (by omega)
    rw [lexO_none (by rw [firstS_nil])]
    exact ⟨Nat.le_refl _, fun t ht => by cases ht⟩
  | succ f ih =>
    intro off L h
    by_cases h4 : (firstS off L).2 = 4
    · rw [lexO_none h4]; exact ⟨Nat.zero_le _, fun t ht => by cases ht⟩
    have hne : L.drop (spN L) ≠ [] := fun e => h4 (firstS_none.2 e)
    by_cases h0 : (firstS off L).2 = 0
    · have hst := stepN_le hne
      obtain ⟨i1, i2⟩ := ih (off + (spN L + tokN (L.drop (spN L)))) (L.drop (spN L + tokN (L.drop (spN L)))) (by rw [List.length_drop]; omega)
      have hp := firstS_pos (off := off) hne
      rw [List.length_drop] at i1
      rw [lexO_ok h0]
      by_cases h2 : (lexO (off + (spN L + tokN (L.drop (spN L)))) (L.drop (spN L + tokN (L.drop (spN L))))).2.2 = 0
      · rw [if_pos h2]
        refine ⟨by simp only [List.length_cons]; omega, fun t ht => ?_⟩
        rcases List.mem_cons.1 ht with rfl | ht
        · rw [hp] at h0 ⊢
          exact tok_good hne h0
        · exact i2 t ht
      · rw [if_neg h2]
        exact ⟨by omega, i2⟩
    · rw [lexO_bad h4 h0]; exact ⟨Nat.zero_le _, fun t ht => by cases ht⟩
theorem itoa_24 {n : Int} (h : fits n) : (Lib.itoa n).length ≤ 24 := by have := itoa_le h; omega
theorem tx_24 {t : Tok} (h : fits t.2.2.2.1 ∧ t.2.2.2.2.length ≤ 24) : (tx t).length ≤ 24 := by
  unfold tx txT
  split
  · exact itoa_24 h.1
  · split
    · exact h.2
    · have := txGo_le marksS t.1 t.2.2.2.1 (by decide); omega
theorem prG_25 : ∀ (l : List Tok) (o : Option Int), (∀ t ∈ l, fits t.2.2.2.1 ∧ t.2.2.2.2.length ≤ 24) → (prG o l).length ≤ 25 * l.length := by
  intro l
  induction l with
  | nil => intro o _; simp [prG]
  | cons t r ih =>
    intro o h
    have h1 := tx_24 (h t (by simp))
    have h2 := ih (some t.1) (fun u hu => h u (by simp [hu]))
    rw [prG]
    simp only [List.length_append, List.length_cons]
    rcases sep_cases o t.1 with e | e <;> rw [e] <;> simp only [List.length_nil, List.length_cons] <;> omega
theorem bad_none : ∀ l : List Tok, (∀ t ∈ l, ck t = 0) → badT l = (0, 0) := by
  intro l
  induction l with
  | nil => intro _; rfl
  | cons t r ih =>
    intro h
    rw [badT, if_neg (by rw [h t (by simp)]; simp), ih (fun u hu => h u (by simp [hu]))]; rfl
/-- The tokens of a text of at most 300 bytes are printed. -/
theorem lex_prints {b : List UInt8} (hb : b.length ≤ 300) : prS (lexS b).1 = (prG none (lexS b).1, 0, 0) ∧ (lexS b).1.length ≤ 300 ∧ ∀ t ∈ (lexS b).1, fits t.2.2.2.1 ∧ t.2.2.2.2.length ≤ 24 := by
  have e : lexS b = lexO 0 b := by unfold lexS; rw [if_neg (by omega)]
  obtain ⟨h1, h2⟩ := lex_good _ 0 b (Nat.le_refl _)
  rw [← e] at h1 h2
  have hg : ∀ t ∈ (lexS b).1, fits t.2.2.2.1 ∧ t.2.2.2.2.length ≤ 24 := fun t ht => (h2 t ht).2
  have h3 := prG_25 _ none hg
  refine ⟨?_, by omega, hg⟩
  unfold prS
  rw [bad_none _ (fun t ht => (h2 t ht).1), if_neg (by simp), if_neg (by omega)]
end Go.Proofs.YtlpbhncdkhppkaaDoor
