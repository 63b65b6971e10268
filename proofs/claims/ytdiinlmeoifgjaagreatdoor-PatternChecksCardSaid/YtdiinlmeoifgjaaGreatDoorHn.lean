/- Patterns: the parts of a list, how small an input may be (mathematics). -/
import Derived.Test.YtdiinlmeoifgjaaGreatDoorHm
namespace Go.Proofs.YtdiinlmeoifgjaaGreatDoor

/-- No ellipsis stands where it may not: a says that the next one is the first, b that there was one. -/
def okD : Bool → Bool → List Bool → Prop
  | _, _, [] => True
  | a, b, d :: t => (d = true → a = false ∧ b = false) ∧ okD false (b || d) t
/-- The parts, as the program counts them: before, repeated, after. -/
abbrev Pt3 := Int × Bool × Int
def ptS (s : Pt3) (d : Bool) : Pt3 := if d = true then (s.1 - 1, true, s.2.2) else if s.2.1 = true then (s.1, s.2.1, s.2.2 + 1) else (s.1 + 1, s.2.1, s.2.2)
def ptF (ds : List Bool) : Pt3 := ds.foldl ptS (0, false, 0)
/-- The parts, as the first ellipsis tells them. -/
def dvG : Nat → List Bool → Pt3
  | k, [] => ((k : Int), false, 0)
  | k, d :: t => if d = true then ((k : Int) - 1, true, (t.length : Int)) else dvG (k + 1) t
def dvF (ds : List Bool) : Pt3 := dvG 0 ds
theorem okD_no {ds : List Bool} : ∀ {a : Bool}, okD a true ds → ∀ d ∈ ds, d = false := by
  induction ds with
  | nil => intro a _ d hd; cases hd
  | cons x t ih =>
    intro a h d hd
    have hx : x = false := by
      cases x with
      | false => rfl
      | true => have := (h.1 rfl).2; cases this
    subst hx
    rcases List.mem_cons.1 hd with rfl | hd
    · rfl
    · exact ih (a := false) (by simpa [okD] using h.2) d hd
theorem ptS_after {ds : List Bool} (h : ∀ d ∈ ds, d = false) : ∀ x z : Int, ds.foldl ptS (x, true, z) = (x, true, z + (ds.length : Int)) := by
  induction ds with
  | nil => intro x z; simp
  | cons d t ih =>
    intro x z
    have hd := h d (by simp)
    subst hd
    rw [List.foldl_cons]
    show t.foldl ptS (x, true, z + 1) = _
    rw [ih (fun d hd => h d (by simp [hd])), List.length_cons]
    simp; omega
theorem ptF_go {ds : List Bool} : ∀ {a : Bool} (k : Nat), okD a false ds → ds.foldl ptS ((k : Int), false, 0) = dvG k ds := by
  induction ds with
  | nil => intro a k _; rfl
  | cons d t ih =>
    intro a k h
    rw [List.foldl_cons, dvG]
    cases d with
    | true =>
      show t.foldl ptS ((k : Int) - 1, true, 0) = _
      rw [ptS_after (okD_no (a := false) h.2)]; simp
    | false =>
      show t.foldl ptS ((k : Int) + 1, false, 0) = _
      have := ih (k + 1) (a := false) (by simpa [okD] using h.2)
      rw [Int.natCast_add] at this
      exact this
theorem ptF_dvF {ds : List Bool} (h : okD true false ds) : ptF ds = dvF ds := ptF_go 0 h
theorem okD_tail {a b : Bool} {d : Bool} {t : List Bool} (h : okD a b (d :: t)) : okD false (b || d) t := h.2
/-- Which elements are not counted: the ellipsis, and the one before it. -/
theorem dvG_at {ds : List Bool} : ∀ {a : Bool} (k : Nat), okD a false ds → (a = false → 0 < k) → ∀ j, j < ds.length →
    (((dvG k ds).2.1 = true ∧ (((k + j : Nat) : Int) = (dvG k ds).1 ∨ ((k + j : Nat) : Int) = (dvG k ds).1 + 1)) ↔ (ds[j]? = some true ∨ ds[j + 1]? = some true)) := by
  induction ds with
  | nil => intro a k _ _ j hj; simp at hj
  | cons d t ih =>
    intro a k h hk j hj
    cases d with
    | true =>
      have hno := okD_no (a := false) h.2
      have hat : ∀ m, t[m]? ≠ some true := fun m hm => by have := hno _ (List.mem_of_getElem? hm); cases this
      rw [dvG, if_pos rfl]
      cases j with
      | zero => simp
      | succ j =>
        simp only [List.getElem?_cons_succ]
        constructor
        · rintro ⟨_, h1⟩; exfalso; omega
        · rintro (h1 | h1)
          · exact absurd h1 (hat _)
          · exact absurd h1 (hat _)
    | false =>
      have h2 : okD false false t := by simpa [okD] using h.2
      rw [dvG, if_neg (by simp)]
      cases j with
      | zero =>
        -- the first one: counted unless the next one is the ellipsis
        simp only [List.getElem?_cons_zero, Nat.zero_add, List.getElem?_cons_succ, Nat.add_zero]
        cases t with
        | nil =>
          rw [dvG]; simp
        | cons d2 t2 =>
          cases d2 with
          | true => rw [dvG, if_pos rfl]; simp
          | false =>
            have h3 := ih (k + 1) h2 (by intro _; omega) 0 (by simp)
            rw [dvG, if_neg (by simp)] at h3 ⊢
            constructor
            · rintro ⟨hr, h1⟩
              -- the ellipsis lies behind
              have hlow : ∀ (l : List Bool) (q : Nat), (dvG q l).2.1 = true → (q : Int) - 1 ≤ (dvG q l).1 := by
                intro l
                induction l with
                | nil => intro q hq; simp [dvG] at hq
                | cons z l ihl =>
                  intro q hq
                  rw [dvG] at hq ⊢
                  split
                  · simp
                  · rename_i hz
                    rw [if_neg hz] at hq
                    have := ihl (q + 1) hq; omega
              have := hlow _ _ hr
              omega
            · intro h1; simp at h1
      | succ j =>
        have h3 := ih (k + 1) h2 (by intro _; omega) j (by simpa using hj)
        simp only [List.getElem?_cons_succ]
        rw [show k + (j + 1) = k + 1 + j by omega]
        exact h3
theorem dvF_at {ds : List Bool} (h : okD true false ds) {j : Nat} (hj : j < ds.length) :
    ((dvF ds).2.1 = true ∧ ((j : Int) = (dvF ds).1 ∨ (j : Int) = (dvF ds).1 + 1)) ↔ (ds[j]? = some true ∨ ds[j + 1]? = some true) := by
  have := dvG_at 0 h (by simp) j hj
  rw [Nat.zero_add] at this; exact this

/-- The first element of a list that is looked at: which one, and where. -/
def skp (q : Nat) : Nat := if q = 0 then 1 else 0
def elX (p : List Sx) (q : Nat) : List Nat := (kidsN (kidsX p) q).drop (skp q)
def dsX (p : List Sx) (q : Nat) : List Bool := (elX p q).map (dotAt p)
/-- Nothing is wrong about ellipses. -/
def NoSt (p : List Sx) (l : List Spt) : Prop := ∀ z ∈ l, dotAt p z.1 = true → z.2.2 = false
/-- The flags of the elements from i on. -/
def flL (p : List Sx) : Nat → Nat → Nat → List Bool
  | 0, _, _ => []
  | m + 1, i, e => if e ≤ i then [] else dotAt p i :: flL p m (endX p i) e
theorem flL_ok {p : List Sx} (h : PatOk p) : ∀ (m i f e d : Nat) (b : Bool), InL p i e → e - i ≤ m → f ≤ i → NoSt p (spE p i f e d b) → okD (decide (i = f)) b (flL p m i e) := by
  intro m
  induction m with
  | zero => intro i f e d b _ _ _ _; trivial
  | succ m ih =>
    intro i f e d b hin hm hf hno
    rw [flL]
    by_cases hle : e ≤ i
    · rw [if_pos hle]; trivial
    · rw [if_neg hle]
      obtain ⟨hn, hn1, hn2⟩ := hin.next h (by omega)
      rw [spE_step h hin (by omega)] at hno
      have h1 := hno (i, dpt p i e d, b || decide (i = f)) (by simp)
      simp only at h1
      refine ⟨fun hd => ?_, ?_⟩
      · have := h1 hd
        rw [Bool.or_eq_false_iff] at this
        exact ⟨this.2, this.1⟩
      · have := ih (endX p i) f e d (b || dotAt p i) hn (by omega) (by omega) (fun z hz => hno z (List.mem_append_right _ hz))
        rw [decide_eq_false (by omega)] at this
        exact this
theorem flL_els {p : List Sx} (h : PatOk p) {q : Nat} (hq : q < p.length) : ∀ (m j : Nat), j ≤ cnt (kidsX p) q → endX p q - posK (kidsX p) q j ≤ m → flL p m (posK (kidsX p) q j) (endX p q) = ((kidsN (kidsX p) q).drop j).map (dotAt p) := by
  have hk : q < (kidsX p).length := by rw [kidsX_len]; exact hq
  intro m
  induction m with
  | zero =>
    intro j hj hm
    have hle := h.tr.pos_le hk hj (Nat.le_refl _)
    rw [h.tr.pos_end hk] at hle
    have hje : j = cnt (kidsX p) q := by
      rcases Nat.lt_or_ge j (cnt (kidsX p) q) with h1 | h1
      · have := h.tr.pos_lt hk h1 (Nat.le_refl _)
        rw [h.tr.pos_end hk] at this
        unfold endX at hm; omega
      · omega
    rw [hje, List.drop_of_length_le (by rw [kidsN_len]; exact Nat.le_refl _)]; rfl
  | succ m ih =>
    intro j hj hm
    rw [flL]
    rcases Nat.lt_or_ge j (cnt (kidsX p) q) with h1 | h1
    · have hlt := h.tr.pos_lt hk h1 (Nat.le_refl _)
      rw [h.tr.pos_end hk] at hlt
      obtain ⟨s1, s2, s3⟩ := h.tr.pos_step hk h1
      rw [if_neg (by unfold endX; omega)]
      have hat := kidsN_at h1
      obtain ⟨hl, he⟩ := List.getElem?_eq_some_iff.1 hat
      rw [List.drop_eq_getElem_cons hl, he, List.map_cons]
      have hnx := h.tr.pos_next hk h1
      have := ih (j + 1) (by omega) (by omega)
      rw [← this]
      show _ :: flL p m (endX p (posK (kidsX p) q j)) _ = _
      unfold endX at *
      rw [s3]
    · have hje : j = cnt (kidsX p) q := by omega
      subst hje
      have hle : endX p q ≤ endN (kidsX p) q := Nat.le_refl _
      rw [h.tr.pos_end hk, if_pos hle, List.drop_of_length_le (by rw [kidsN_len]; exact Nat.le_refl _)]; rfl
/-- The list at q lies in the list around it. -/
theorem spE_sub {p : List Sx} (h : PatOk p) {q : Nat} (hq : lstAt p q = true) : ∀ (m i f e d : Nat) (b : Bool), InL p i e → e - i = m → i ≤ q → q < e → ∃ d', ∀ z ∈ spE p (q + 1) (q + 1) (endX p q) d' false, z ∈ spE p i f e d b := by
  intro m
  induction m using Nat.strongRecOn with
  | _ m ih =>
    intro i f e d b hin hm h1 h2
    have hb := hin.bd h
    obtain ⟨hn, hn1, hn2⟩ := hin.next h (by omega : i < e)
    rw [spE_step h hin (by omega)]
    by_cases he : i = q
    · subst he
      refine ⟨dpt p i e d, fun z hz => ?_⟩
      rw [if_pos hq]
      exact List.mem_append_left _ (List.mem_cons_of_mem _ hz)
    · by_cases hin2 : q < endX p i
      · have hl : lstAt p i = true := by
          cases hl : lstAt p i with
          | true => rfl
          | false => have := h.end_leaf (i := i) (by omega) hl; omega
        obtain ⟨d', hd⟩ := ih (endX p i - (i + 1)) (by omega) (i + 1) (i + 1) (endX p i) (dpt p i e d) false (InL.first h (by omega)) rfl (by omega) hin2
        refine ⟨d', fun z hz => ?_⟩
        rw [if_pos hl]
        exact List.mem_append_left _ (List.mem_cons_of_mem _ (hd z hz))
      · obtain ⟨d', hd⟩ := ih (e - endX p i) (by omega) (endX p i) f e d (b || dotAt p i) hn rfl (by omega) h2
        exact ⟨d', fun z hz => List.mem_append_right _ (hd z hz)⟩
theorem rdF_nost {p : List Sx} {L : List Pid} : ∀ (l : List Spt) (vs : List (Pid × Nat)), SpIn p l → (rdF p L vs l).2.2 = 0 → NoSt p l := by
  intro l
  induction l with
  | nil => intro vs _ _ z hz; cases hz
  | cons y l ih =>
    intro vs hin h z hz hd
    obtain ⟨yy, hy⟩ : ∃ yy, p[y.1]? = some yy := ⟨_, List.getElem?_eq_getElem (hin y (by simp))⟩
    have hin' : SpIn p l := fun x hx => hin x (by simp [hx])
    rw [rdF, hy] at h
    simp only at h
    split at h
    · cases h
    · rename_i hno
      rcases List.mem_cons.1 hz with e | hz
      · subst e
        rw [dotAt_of hy] at hd
        cases hs : z.2.2 with
        | false => rfl
        | true => exact absurd ⟨hd, hs⟩ hno
      · split at h
        · exact ih _ hin' h z hz hd
        · split at h
          · cases h
          · split at h
            · cases h
            · exact ih _ hin' h z hz hd
/-- What is known of a pattern without errors. -/
structure GoodP (p : List Sx) : Prop extends HdOk p where
  nost : NoSt p (spP p)
theorem rdP_good {p : List Sx} {L : List Pid} (h : (rdP p L).2.2 = 0) : GoodP p := by
  unfold rdP at h
  by_cases h1 : (hdP p).2 = 0
  · rw [if_neg (by simpa using h1)] at h
    have hd := hdP_ok h1
    refine ⟨hd, ?_⟩
    have hin : SpIn p (spP p) := spE_in hd.toPatOk _ _ _ _ _ _ hd.inl rfl
    by_cases h2 : (rdF p L [] (spP p)).2.2 = 0
    · exact rdF_nost _ _ hin h2
    · rw [if_pos h2] at h; exact absurd h h2
  · rw [if_pos h1] at h; exact absurd h h1
theorem GoodP.list {p : List Sx} (h : GoodP p) {q : Nat} (hq : q < p.length) (hl : lstAt p q = true) : okD true false (dsX p q) := by
  have hk : q < (kidsX p).length := by rw [kidsX_len]; exact hq
  unfold dsX elX skp
  by_cases h0 : q = 0
  · subst h0
    rw [if_pos rfl]
    have hc : 1 ≤ cnt (kidsX p) 0 := by
      rcases Nat.eq_zero_or_pos (cnt (kidsX p) 0) with h1 | h1
      · have := h.tr.pos_end hk
        rw [h1, posK_start hk] at this
        have h3 : 0 + 1 = p.length := this.trans h.end_0
        have := h.long; omega
      · exact h1
    have hp1 : posK (kidsX p) 0 1 = 2 := by
      obtain ⟨s1, s2, s3⟩ := h.tr.pos_step hk (k := 0) (by omega)
      rw [posK_start hk] at s3
      rw [← s3]; exact h.one
    have h3 := flL_els h.toPatOk hq p.length 1 hc (by rw [h.toPatOk.end_0]; omega)
    rw [← h3, hp1, h.toPatOk.end_0]
    have := flL_ok h.toPatOk p.length 2 2 p.length 0 false h.inl (by omega) (Nat.le_refl _) h.nost
    simpa using this
  · rw [if_neg h0, List.drop_zero]
    have h1 : q ≠ 1 := by rintro rfl; rw [h.lf] at hl; cases hl
    obtain ⟨d', hd⟩ := spE_sub h.toPatOk hl (p.length - 2) 2 2 p.length 0 false h.inl rfl (by omega) hq
    have h3 := flL_els h.toPatOk hq p.length 0 (Nat.zero_le _) (by have := (h.toPatOk.end_bd hq).2; omega)
    rw [List.drop_zero, posK_start hk] at h3
    rw [← h3]
    have := flL_ok h.toPatOk p.length (q + 1) (q + 1) (endX p q) d' false (InL.first h.toPatOk hq) (by have := (h.toPatOk.end_bd hq).2; omega) (Nat.le_refl _) (fun z hz => h.nost z (hd z hz))
    simpa using this

/-- How many nodes the elements from i on need. -/
def ndL (p : List Sx) : Nat → Nat → Nat → Nat
  | 0, _, _ => 0
  | m + 1, i, e => if e ≤ i then 0 else
      (if dotAt p i = true ∨ (endX p i < e ∧ dotAt p (endX p i) = true) then 0 else 1 + if lstAt p i = true then ndL p m (i + 1) (endX p i) else 0) + ndL p m (endX p i) e
def cn0 (p : List Sx) (l : List Spt) : Nat := (l.filter fun z => decide (z.2.1 = 0) && !dotAt p z.1).length
theorem cn0_app (p : List Sx) (a b : List Spt) : cn0 p (a ++ b) = cn0 p a + cn0 p b := by unfold cn0; rw [List.filter_append, List.length_append]
theorem cn0_cons (p : List Sx) (z : Spt) (b : List Spt) : cn0 p (z :: b) = (if z.2.1 = 0 ∧ dotAt p z.1 = false then 1 else 0) + cn0 p b := by
  unfold cn0
  rw [List.filter_cons]
  by_cases h : z.2.1 = 0 ∧ dotAt p z.1 = false
  · rw [if_pos h, if_pos (by simp [h.1, h.2])]; simp; omega
  · rw [if_neg h, if_neg (by simpa using h)]; simp
theorem dpt_le (p : List Sx) (i e d : Nat) : d ≤ dpt p i e d := by unfold dpt; split <;> omega
theorem spL_deep (p : List Sx) : ∀ (m i f e d : Nat) (b : Bool), 0 < d → cn0 p (spL p m i f e d b) = 0 := by
  intro m
  induction m with
  | zero => intro i f e d b _; rfl
  | succ m ih =>
    intro i f e d b hd
    rw [spL]
    split
    · rfl
    · have h1 := dpt_le p i e d
      rw [cn0_app, cn0_cons, ih _ _ _ _ _ hd, if_neg (by simp only; omega)]
      split
      · rw [ih _ _ _ _ _ (by omega)]
      · rfl
theorem spL_nd {p : List Sx} : ∀ (m i f e : Nat) (b : Bool), cn0 p (spL p m i f e 0 b) = ndL p m i e := by
  intro m
  induction m with
  | zero => intro i f e b; rfl
  | succ m ih =>
    intro i f e b
    rw [spL, ndL]
    split
    · rfl
    · rw [cn0_app, cn0_cons, ih]
      congr 1
      simp only
      by_cases hx : endX p i < e ∧ dotAt p (endX p i) = true
      · have hd : dpt p i e 0 = 1 := by unfold dpt; rw [if_pos hx]
        have hx2 : dotAt p i = true ∨ (endX p i < e ∧ dotAt p (endX p i) = true) := .inr hx
        rw [hd, if_neg (by simp), if_pos hx2]
        split
        · rw [spL_deep _ _ _ _ _ _ _ (by omega)]
        · rfl
      · have hd : dpt p i e 0 = 0 := by unfold dpt; rw [if_neg hx]
        rw [hd]
        by_cases hdot : dotAt p i = true
        · have hx2 : dotAt p i = true ∨ (endX p i < e ∧ dotAt p (endX p i) = true) := .inl hdot
          rw [if_pos hx2, dot_lst hdot, hdot]; simp [cn0]
        · have hx2 : ¬ (dotAt p i = true ∨ (endX p i < e ∧ dotAt p (endX p i) = true)) := by
            rintro (h | h)
            · exact hdot h
            · exact hx h
          have hf : dotAt p i = false := by simpa using hdot
          rw [if_neg hx2, hf, if_pos ⟨rfl, rfl⟩]
          congr 1
          split
          · exact ih _ _ _ _
          · rfl
/-- How many nodes an input has at least. -/
def fwP (p : List Sx) : Nat := 2 + cn0 p (spP p)
def ndP (p : List Sx) (i e : Nat) : Nat := ndL p p.length i e
theorem fwP_nd (p : List Sx) : fwP p = 2 + ndP p 2 p.length := by unfold fwP spP spE ndP; rw [spL_nd]
theorem ndP_step {p : List Sx} (h : PatOk p) {i e : Nat} (hin : InL p i e) (hlt : i < e) :
    ndP p i e = (if dotAt p i = true ∨ (endX p i < e ∧ dotAt p (endX p i) = true) then 0 else 1 + if lstAt p i = true then ndP p (i + 1) (endX p i) else 0) + ndP p (endX p i) e := by
  have h1 := congrArg (cn0 p) (spE_step h (f := 0) (d := 0) (b := false) hin hlt)
  unfold spE at h1
  unfold ndP
  obtain ⟨hn, hn1, hn2⟩ := hin.next h hlt
  have hb := hin.bd h
  obtain ⟨n, hn0⟩ : ∃ n, p.length = n + 1 := ⟨p.length - 1, by omega⟩
  rw [hn0, ndL, if_neg (by omega)]
  have f1 : ndL p n (endX p i) e = ndL p (n + 1) (endX p i) e := by
    rw [← spL_nd (f := 0) (b := false), ← spL_nd (f := 0) (b := false), spL_fuel h n (n + 1) (endX p i) 0 e 0 _ hn (by omega) (by omega)]
  have f2 : ndL p n (i + 1) (endX p i) = ndL p (n + 1) (i + 1) (endX p i) := by
    rw [← spL_nd (f := 0) (b := false), ← spL_nd (f := 0) (b := false), spL_fuel h n (n + 1) (i + 1) 0 (endX p i) 0 _ (InL.first h (by omega)) (by omega) (by omega)]
  rw [f1, f2]
theorem ndP_end (p : List Sx) {i e : Nat} (h : e ≤ i) : ndP p i e = 0 := by
  unfold ndP
  cases p.length with
  | zero => rfl
  | succ m => rw [ndL, if_pos h]
/-- What the node i needs. -/
def needX (p : List Sx) (i : Nat) : Nat := if lstAt p i = true then 1 + skp i + ndP p (posK (kidsX p) i (skp i)) (endX p i) else 1
-- MARK9
end Go.Proofs.YtdiinlmeoifgjaaGreatDoor
