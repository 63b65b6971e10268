/- Print. -/
import Derived.Test.YtemoeohchhpilaaDoorLk
import Derived.Deep.RegionHeld3
namespace Go.Proofs.YtemoeohchhpilaaDoor
open Go.RowKit Go.PlainAid

def tx (t : Tok) : List UInt8 := txT t.1 t.2.2.2.1 t.2.2.2.2
def ck (t : Tok) : Int := ckT t.1 t.2.2.2.1 t.2.2.2.2
def sepO (o : Option Int) (k : Int) : List UInt8 := match o with
  | none => []
  | some p => if apB p k = true then [32] else []
/-- The text of tokens behind one of some kind. -/
def prG : Option Int → List Tok → List UInt8
  | _, [] => []
  | o, t :: r => sepO o t.1 ++ (tx t ++ prG (some t.1) r)
/-- The first token with an error. -/
def badT : List Tok → Nat × Int
  | [] => (0, 0)
  | t :: r => if ck t ≠ 0 then (0, ck t) else if (badT r).2 = 0 then (0, 0) else ((badT r).1 + 1, (badT r).2)
def prS (l : List Tok) : List UInt8 × Nat × Int := if (badT l).2 ≠ 0 then ([], (badT l).1, (badT l).2) else if 8000 < (prG none l).length then ([], 0, 3) else (prG none l, 0, 0)
def prV (l : List Tok) : Value := .tuple #[.string (str (prS l).1), .int .i64 ((prS l).2.1 : Int), .int .i64 (prS l).2.2]
def prevK (l : List Tok) (k : Nat) (o : Option Int) : Option Int := if k = 0 then o else (l[k - 1]?).map (·.1)
theorem prG_at : ∀ (k : Nat) (l : List Tok) (o : Option Int) (t : Tok), l[k]? = some t → prG o (l.take (k + 1)) = prG o (l.take k) ++ (sepO (prevK l k o) t.1 ++ tx t) := by
  intro k
  induction k with
  | zero =>
    intro l o t h
    cases l with
    | nil => cases h
    | cons y r =>
      have : y = t := by simpa using h
      subst this
      simp [prG, prevK]
  | succ k ih =>
    intro l o t h
    cases l with
    | nil => cases h
    | cons y r =>
      have h' : r[k]? = some t := by simpa using h
      rw [List.take_succ_cons, List.take_succ_cons, prG, prG, ih r (some y.1) t h']
      have e : prevK (y :: r) (k + 1) o = prevK r k (some y.1) := by
        unfold prevK
        rw [if_neg (by omega)]
        cases k with
        | zero => simp
        | succ j => rw [if_neg (by omega)]; simp
      rw [e, List.append_assoc, List.append_assoc]
theorem prG_le (l : List Tok) : ∀ (k : Nat) (o : Option Int), (prG o (l.take k)).length ≤ (prG o l).length := by
  induction l with
  | nil => intro k o; simp
  | cons y r ih =>
    intro k o
    cases k with
    | zero => simp [prG]
    | succ k =>
      rw [List.take_succ_cons, prG, prG]
      have := ih k (some y.1)
      simp only [List.length_append]
      omega
/-- Checked up to a place. -/
def BadAt (l : List Tok) (k : Nat) : Prop := badT l = if (badT (l.drop k)).2 = 0 then (0, 0) else ((badT (l.drop k)).1 + k, (badT (l.drop k)).2)
theorem badT_0 : ∀ l : List Tok, (badT l).2 = 0 → badT l = (0, 0) := by
  intro l
  induction l with
  | nil => intro _; rfl
  | cons t r ih =>
    intro h
    unfold badT at h ⊢
    by_cases h1 : ck t ≠ 0
    · rw [if_pos h1] at h; exact absurd h h1
    · rw [if_neg h1] at h ⊢
      by_cases h2 : (badT r).2 = 0
      · rw [if_pos h2]
      · rw [if_neg h2] at h; exact absurd h h2
theorem badAt_start (l : List Tok) : BadAt l 0 := by
  unfold BadAt; rw [List.drop_zero]
  split
  · rename_i h; exact badT_0 l h
  · rfl
theorem badT_ok {t : Tok} {r : List Tok} (hc : ck t = 0) : badT (t :: r) = if (badT r).2 = 0 then (0, 0) else ((badT r).1 + 1, (badT r).2) := by
  rw [badT, if_neg (by rw [hc]; simp)]
theorem badAt_step {l : List Tok} {k : Nat} {t : Tok} (h : BadAt l k) (ht : l[k]? = some t) (hc : ck t = 0) : BadAt l (k + 1) := by
  obtain ⟨hk, rfl⟩ := List.getElem?_eq_some_iff.1 ht
  unfold BadAt at *
  rw [h, List.drop_eq_getElem_cons hk, badT_ok hc]
  by_cases h2 : (badT (l.drop (k + 1))).2 = 0
  · rw [if_pos h2, if_pos rfl, if_pos h2]
  · rw [if_neg h2, if_neg h2, if_neg h2]; simp only [Prod.mk.injEq, and_true]; omega
theorem badAt_bad {l : List Tok} {k : Nat} {t : Tok} (h : BadAt l k) (ht : l[k]? = some t) (hc : ck t ≠ 0) : prS l = ([], k, ck t) := by
  obtain ⟨hk, rfl⟩ := List.getElem?_eq_some_iff.1 ht
  unfold BadAt at h
  rw [List.drop_eq_getElem_cons hk, badT, if_pos hc, if_neg hc] at h
  unfold prS
  rw [h]; simp only
  rw [if_pos hc, Nat.zero_add]
theorem badAt_end {l : List Tok} {k : Nat} (h : BadAt l k) (hk : l.length ≤ k) : (badT l).2 = 0 := by
  unfold BadAt at h
  rw [List.drop_of_length_le hk] at h
  rw [h]; rfl

/-- Tokens whose numbers are int64. -/
def TkB (l : List Tok) : Prop := ∀ t ∈ l, fits t.2.2.2.1 ∧ t.2.2.2.2.length ≤ 1000000
def zeroU8 : Value := .int .u8 0
theorem infoU8 : (Tryd.prog.info? 5).map (fun i => (i.zero, i.size, i.bytes)) = some (some zeroU8, 1, 1) := by kernel_rfl
theorem itoa_le {n : Int} (h : fits n) : (Lib.itoa n).length ≤ 21 := Lib.itoa_length_le n h.1 h.2
theorem txGo_le : ∀ (M : List (List UInt8 × Int × Int)) (k n : Int), (∀ m ∈ M, m.1.length ≤ 2) → (txGo M k n).length ≤ 2 := by
  intro M
  induction M with
  | nil => intro k n _; simp [txGo]
  | cons m r ih =>
    intro k n h
    rw [txGo]
    split
    · exact h m (by simp)
    · exact ih k n (fun m hm => h m (by simp [hm]))
theorem tx_le {t : Tok} (h : fits t.2.2.2.1 ∧ t.2.2.2.2.length ≤ 1000000) : (tx t).length ≤ 1000000 := by
  unfold tx txT
  split
  · have := itoa_le h.1; omega
  · split
    · exact h.2
    · have := txGo_le marksS t.1 t.2.2.2.1 (by decide); omega

set_option maxRecDepth 50000 in
set_option maxHeartbeats 6400000 in
theorem Print_any (v : Value) (l : List Tok) (w : World) (h : TksAt w v l) (hl : l.length ≤ 1000000) (hB : TkB l) (T : PTabs w) :
    Calls Tryd.prog 14 #[v] w fun e w' => e = .returned (prV l) ∧ Below w.heap.size w w' := by
  obtain ⟨a, c, rfl⟩ := h.slice
  obtain ⟨n, hn⟩ : ∃ n, l.length = n := ⟨_, rfl⟩
  have HN := Lib.hid hn
  have HC : Hid (∀ (k : Nat) (t : Tok), l[k]? = some t → ∃ g off, a = some ⟨g, off, none⟩ ∧ ∀ W, Below w.heap.size w W → W.cell? ⟨g, off + k * 5, none⟩ = some (.int .i64 t.1) ∧ W.cell? ⟨g, off + k * 5 + 1, none⟩ = some (.int .i64 t.2.1) ∧ W.cell? ⟨g, off + k * 5 + 2, none⟩ = some (.int .i64 t.2.2.1) ∧
      W.cell? ⟨g, off + k * 5 + 3, none⟩ = some (.int .i64 t.2.2.2.1) ∧ W.cell? ⟨g, off + k * 5 + 4, none⟩ = some (.string (str t.2.2.2.2))) := Lib.hid fun k t ht => by
    obtain ⟨g, off, cap, e, hg, hc⟩ := h.some (by intro e; rw [e] at ht; cases ht)
    obtain ⟨rfl, _, rfl⟩ := Value.slice.inj e
    obtain ⟨d0, d1, d2, d3, d4⟩ := tcs_at l ht
    refine ⟨g, off, rfl, fun W hW => ?_⟩
    have F : ∀ j u, (tcs l)[j]? = some u → W.cell? ⟨g, off + j, none⟩ = some u := fun j u hj => (hW.cell (p := ⟨g, off + j, none⟩) hg).trans (hc j u hj)
    exact ⟨F _ _ d0, F _ _ d1, F _ _ d2, F _ _ d3, F _ _ d4⟩
  have CC := Lib.hid (fun (t : Tok) (ht : t ∈ l) W (hW : Below w.heap.size w W) => Check_any t.1 t.2.1 t.2.2.1 t.2.2.2.1 t.2.2.2.2 W (hB t ht).1 (T.below hW) (hB t ht).2)
  have CT := Lib.hid (fun (t : Tok) (ht : t ∈ l) W (hW : Below w.heap.size w W) => text_any t.1 t.2.1 t.2.2.1 t.2.2.2.1 t.2.2.2.2 W (hB t ht).1 (T.below hW).pw (T.below hW).gp (T.below hW).lt.tm (T.below hW).lt.gk)
  have CA := Lib.hid (fun (s t : Tok) W => apart_any s.1 s.2.1 s.2.2.1 s.2.2.2.1 t.1 t.2.1 t.2.2.1 t.2.2.2.1 (str s.2.2.2.2) (str t.2.2.2.2) W)
  have HL := Lib.hid (fun (t : Tok) (ht : t ∈ l) => tx_le (hB t ht))
  have HST := Lib.hid (badAt_start l)
  have HPA := Lib.hid (fun k t => prG_at k l none t)
  have HPL := Lib.hid (fun k => prG_le l k none)
  have HPV : Hid (∀ r, prS l = r → prV l = .tuple #[.string (str r.1), .int .i64 (r.2.1 : Int), .int .i64 r.2.2]) := Lib.hid fun r hr => by unfold prV; rw [hr]
  rw [hn] at hl ⊢
  clear h hB T hn
  go_enter Tryd.func14, Tryd.ntmps14
  go_wp2_with fail
  -- MARK1
  go_loopw [13] (fun x13 wr => ∃ k : Nat, x13 = .int .i64 (k : Int) ∧ k ≤ n ∧ Hid (BadAt l k) ∧ Below w.heap.size w wr) (fun x13 _ => n - (intOf x13).toNat)
  case atStart => exact ⟨0, rfl, Nat.zero_le _, HST, Below.refl _ _⟩
  case round =>
    obtain ⟨k, rfl, hk, HA, hb⟩ := hrel
    have hk0 : (0 : Int) ≤ (k : Int) := Int.natCast_nonneg _
    by_cases hlt : k < n
    · obtain ⟨t, ht⟩ : ∃ t, l[k]? = some t := ⟨_, List.getElem?_eq_getElem (by rw [HN.out]; exact hlt)⟩
      obtain ⟨g, off, rfl, hcell⟩ := HC.out k t ht
      obtain ⟨c0, c1, c2, c3, c4⟩ := hcell wr hb
      have C := Lib.hid (CC.out t (List.mem_of_getElem? ht))
      have HSt := Lib.hid (fun hc => badAt_step HA.out ht hc)
      have HBd := Lib.hid (fun hc => badAt_bad HA.out ht hc)
      obtain ⟨er, her⟩ : ∃ er, ck t = er := ⟨_, rfl⟩
      have her' : ckT t.1 t.2.2.2.1 t.2.2.2.2 = er := her
      rw [her'] at C
      rw [her] at HSt HBd
      obtain ⟨t0, t1, t2, t3, t4⟩ := t
      simp only at c0 c1 c2 c3 c4 C
      obtain ⟨W1, hW1⟩ : ∃ W1, W1 = wr.alloc (.cells #[.int .i64 t0, .int .i64 t1, .int .i64 t2, .int .i64 t3, .string (str t4)] 33) := ⟨_, rfl⟩
      have hb1 : Below w.heap.size w W1 := by rw [hW1]; exact hb.alloc hb.size _
      have hk1 : (k : Int) < (n : Int) := by omega
      clear ht hcell her her'
      by_cases he : er = 0
      · subst he
        have HS2 := Lib.hid (HSt.out rfl)
        clear HBd HSt
        go_wp2_with fail
        -- MARK2
        rw [← hW1]
        refine (C.out W1 hb1).mono ?_
        rintro e w2 ⟨rfl, hb2⟩
        go_wp2_with fail
        go_roundw
        case rel => exact ⟨k + 1, by go_num, by omega, HS2, hb1.trans (hb2.mono hb1.size)⟩
        case measure => simp [intOf]; omega
      · have HV := Lib.hid (HPV.out _ (HBd.out he))
        have hne : (er != 0) = true := bne_iff_ne.2 he
        clear HBd HSt he
        go_wp2_with fail
        rw [← hW1]
        refine (C.out W1 hb1).mono ?_
        rintro e w2 ⟨rfl, hb2⟩
        go_wp2_with fail
        -- MARK3
        go_ret3
        exact ⟨by rw [HV.out]; rfl, hb1.trans (hb2.mono hb1.size)⟩
    · obtain rfl : k = n := by omega
      have HB0 := Lib.hid (badAt_end HA.out (Nat.le_of_eq HN.out))
      have hd0 : decide ((k : Int) < (k : Int)) = false := decide_eq_false (Int.lt_irrefl _)
      obtain ⟨Wb, hWb⟩ : ∃ Wb, Wb = wr := ⟨_, rfl⟩
      subst hWb
      go_wp2_with fail
      -- MARK4
      go_loopw [8, 27] (fun x8 x27 wq => ∃ (j m : Nat) (b : Option Addr) (cb : Nat), x8 = .slice b m cb ∧ x27 = .int .i64 (j : Int) ∧ j ≤ k ∧ m ≤ 8000 ∧ Hid ((prG none (l.take j)).length = m) ∧ Hid (wq.ownsRow Wb.heap.size 5 1 (.slice b m cb) m ((prG none (l.take j)).map bc)) ∧ Below Wb.heap.size Wb wq) (fun _ x27 _ => k - (intOf x27).toNat)
      case atStart => exact ⟨0, 0, none, 0, rfl, rfl, Nat.zero_le _, Nat.zero_le _, Lib.hid rfl, Lib.hid (own_nil _ _ _ _), Below.refl _ _⟩
      case round =>
        obtain ⟨j, m, b, cb, rfl, rfl, hj, hm, HM, HO, hbq⟩ := hrel
        have hbw := hb.trans (hbq.mono hb.size)
        have hj0 : (0 : Int) ≤ (j : Int) := Int.natCast_nonneg _
        by_cases hlt : j < k
        · obtain ⟨t, ht⟩ : ∃ t, l[j]? = some t := ⟨_, List.getElem?_eq_getElem (by rw [HN.out]; exact hlt)⟩
          obtain ⟨g, off, ha, hcell⟩ := HC.out j t ht
          subst ha
          obtain ⟨c0, c1, c2, c3, c4⟩ := hcell wr hbw
          have C := Lib.hid (CT.out t (List.mem_of_getElem? ht))
          have HX := Lib.hid (HPA.out j t ht)
          have HXl := Lib.hid (HL.out t (List.mem_of_getElem? ht))
          have HTx : Hid (tx t = txT t.1 t.2.2.2.1 t.2.2.2.2) := Lib.hid rfl
          have hj1 : (j : Int) < (k : Int) := by omega
          obtain ⟨W1, hW1⟩ : ∃ W1, W1 = wr.alloc (.cells #[.int .i64 t.1, .int .i64 t.2.1, .int .i64 t.2.2.1, .int .i64 t.2.2.2.1, .string (str t.2.2.2.2)] 33) := ⟨_, rfl⟩
          have hb1 : Below wr.heap.size wr W1 := by rw [hW1]; exact below_b1 _ _
          have hz1 : wr.heap.size < W1.heap.size := by rw [hW1]; simp
          have hd1 : W1.heap[wr.heap.size]? = some (.cells #[.int .i64 t.1, .int .i64 t.2.1, .int .i64 t.2.2.1, .int .i64 t.2.2.2.1, .string (str t.2.2.2.2)] 33 (0, 0)) := by rw [hW1]; exact World.alloc_heap_new _ _
          have HBox : Hid (∀ W, Below W1.heap.size W1 W → (W.cell? ⟨wr.heap.size, 0, none⟩ = some (.int .i64 t.1) ∧ W.cell? ⟨wr.heap.size, 1, none⟩ = some (.int .i64 t.2.1) ∧ W.cell? ⟨wr.heap.size, 2, none⟩ = some (.int .i64 t.2.2.1) ∧ W.cell? ⟨wr.heap.size, 3, none⟩ = some (.int .i64 t.2.2.2.1) ∧ W.cell? ⟨wr.heap.size, 4, none⟩ = some (.string (str t.2.2.2.2)))) := Lib.hid fun W hW =>
            (box5_facts ((hW.block _ hz1).trans hd1)).1
          clear hd1
          obtain ⟨y, hy⟩ : ∃ y, tx t = y := ⟨_, rfl⟩
          have HY := Lib.hid hy
          have HTy : Hid (txT t.1 t.2.2.2.1 t.2.2.2.2 = y) := Lib.hid hy
          have hyl : y.length ≤ 1000000 := by rw [← hy]; exact HXl.out
          clear hy
          by_cases hjz : j = 0
          · have HSep : Hid (sepO (prevK l j none) t.1 = []) := Lib.hid (by unfold prevK; rw [if_pos hjz]; rfl)
            have hdz : decide ((0 : Int) < (j : Int)) = false := decide_eq_false (by omega)
            have hdz2 : ¬ (0 : Int) < (j : Int) := by omega
            have hdz3 : ¬ 0 < j := by omega
            clear hjz hcell ht
            go_wp2_with fail
            rw [← hW1]
            -- MARK5
            go_quiet (fail)
            -- MARK5b
            obtain ⟨V, hV⟩ : ∃ V, V = W1.drewN nq := ⟨_, rfl⟩
            have hbV : Below W1.heap.size W1 V := by rw [hV]; exact below_drewN _ _
            rw [← hV]
            clear hV
            have HOV : Hid (V.ownsRow Wb.heap.size 5 1 (.slice b m cb) m ((prG none (l.take j) ++ []).map bc)) := Lib.hid (by rw [List.append_nil]; exact own_below HO.out (hb1.trans (hbV.mono hb1.size)))
            have HMV : Hid ((prG none (l.take j) ++ []).length = m) := Lib.hid (by rw [List.append_nil]; exact HM.out)
            have hVw : Below w.heap.size w V := hbw.trans ((hb1.trans (hbV.mono hb1.size)).mono hbw.size)
            have hVb : Below Wb.heap.size Wb V := hbq.trans ((hb1.trans (hbV.mono hb1.size)).mono hbq.size)
            obtain ⟨x0, x1, x2, x3, x4⟩ := HBox.out V hbV
            have CTx := Lib.hid (C.out V hVw)
            obtain ⟨i0, hi, hz0, hz1, hz2⟩ := info_parts2 infoU8
            by_cases hlong : 8000 < m + y.length
            · have HV2 : Hid (prV l = .tuple #[.string (str []), .int .i64 0, .int .i64 3]) := Lib.hid (by
                refine HPV.out ([], 0, 3) ?_
                unfold prS
                have h1 := HPL.out (j + 1)
                rw [HX.out, ← List.append_assoc, List.length_append, HSep.out, HMV.out, HY.out] at h1
                rw [if_neg (by rw [HB0.out]; simp), if_pos (by omega)])
              have hdl : decide ((8000 : Int) < ((m + y.length : Nat) : Int)) = true := decide_eq_true (by omega)
              go_wp2_with fail
              refine CTx.out.mono ?_
              rintro e w5 ⟨rfl, hb5⟩
              have HO5 := Lib.hid (own_below HOV.out hb5)
              rw [HTy.out]
              go_wp2_with (at_builtin; refine Lib.wpList_append_own_string _ rfl _ _ 22 9 rfl Wb.heap.size 5 i0 Tryd.underlying22 Tryd.underlying9 hi hz0 hz1 hz2 _ _ _ rfl HO5.out _ rfl (by unfold maxLen; rw [str_size]; omega) (by rw [str_size]; omega) (by have := hVb.size; have := hb5.size; omega) ?_; intro v6 w6 hown6 hgrow6 _; rw [str_size] at hown6; obtain ⟨b6, cb6, rfl⟩ := own_len hown6; have hbg6 := (hVw.trans (hb5.mono hVw.size)).grown hgrow6 (by have := hVw.size; have := hb5.size; omega) (fun q hq => by have := (HO5.out.lt _ hq).1; have := hb.size; omega))
              -- MARK7
              go_ret3
              exact ⟨by rw [HV2.out]; rfl, hbg6⟩
            · have hdl : decide ((8000 : Int) < ((m + y.length : Nat) : Int)) = false := decide_eq_false (by omega)
              go_wp2_with fail
              refine CTx.out.mono ?_
              rintro e w5 ⟨rfl, hb5⟩
              have HO5 := Lib.hid (own_below HOV.out hb5)
              rw [HTy.out]
              go_wp2_with (at_builtin; refine Lib.wpList_append_own_string _ rfl _ _ 22 9 rfl Wb.heap.size 5 i0 Tryd.underlying22 Tryd.underlying9 hi hz0 hz1 hz2 _ _ _ rfl HO5.out _ rfl (by unfold maxLen; rw [str_size]; omega) (by rw [str_size]; omega) (by have := hVb.size; have := hb5.size; omega) ?_; intro v6 w6 hown6 hgrow6 _; rw [str_size] at hown6; obtain ⟨b6, cb6, rfl⟩ := own_len hown6; have hbg6 := (hVb.trans (hb5.mono hVb.size)).grown hgrow6 (by have := hVb.size; have := hb5.size; omega) (fun q hq => (HO5.out.lt _ hq).1))
              -- MARK8
              have HL6 : Hid (prG none (l.take (j + 1)) = (prG none (l.take j) ++ []) ++ y) := Lib.hid (by rw [HX.out, HY.out, HSep.out, List.append_assoc])
              have HO6 : Hid (w6.ownsRow Wb.heap.size 5 1 (.slice b6 (m + y.length) cb6) (m + y.length) ((prG none (l.take (j + 1))).map bc)) := Lib.hid (by rw [HL6.out, List.map_append]; exact hown6)
              go_roundw
              case rel => exact ⟨j + 1, m + y.length, b6, cb6, rfl, by go_num, by omega, by omega, Lib.hid (by rw [HL6.out, List.length_append, HMV.out]), HO6, hbg6⟩
              case measure => simp [intOf]; omega
          · obtain ⟨s, hs⟩ : ∃ s, l[j - 1]? = some s := ⟨_, List.getElem?_eq_getElem (by rw [HN.out]; omega)⟩
            obtain ⟨g', off', ha, hcell'⟩ := HC.out (j - 1) s hs
            obtain ⟨rfl, rfl⟩ : g' = g ∧ off' = off := by cases ha; exact ⟨rfl, rfl⟩
            obtain ⟨e0, e1, e2, e3, e4⟩ := hcell' wr hbw
            have HCe := Lib.hid hcell'
            have HSep : Hid (sepO (prevK l j none) t.1 = if apB s.1 t.1 = true then [32] else []) := Lib.hid (by unfold prevK; rw [if_neg hjz, hs]; rfl)
            have hdz : decide ((0 : Int) < (j : Int)) = true := decide_eq_true (by omega)
            have hw1 : IntKind.i64.wrap ((j : Int) - 1) = (j : Int) - 1 := by rw [IntKind.wrap_i64]; omega
            have hi1 : (0 : Int) ≤ (j : Int) - 1 := by omega
            have hi2 : (j : Int) - 1 < (k : Int) := by omega
            have hi3 : ((j : Int) - 1).toNat = j - 1 := by omega
            have hi4 : (1 : Int) ≤ (j : Int) := by omega
            have hdz2 : 0 < j := by omega
            clear hcell hcell' ha hs ht hjz
            obtain ⟨p0, p1, p2, p3, p4⟩ := HCe.out W1 (hbw.trans (hb1.mono hbw.size))
            obtain ⟨q0, q1, q2, q3, q4⟩ := HBox.out W1 (Below.refl _ _)
            have CAx := Lib.hid (CA.out s t)
            go_wp2_with fail
            rw [← hW1]
            -- MARK6
            go_region_held3 (fun w' => w'.cell? ⟨g', off' + (j - 1) * 5, none⟩ = some (.int .i64 s.1) ∧ w'.cell? ⟨g', off' + (j - 1) * 5 + 1, none⟩ = some (.int .i64 s.2.1) ∧ w'.cell? ⟨g', off' + (j - 1) * 5 + 2, none⟩ = some (.int .i64 s.2.2.1) ∧ w'.cell? ⟨g', off' + (j - 1) * 5 + 3, none⟩ = some (.int .i64 s.2.2.2.1) ∧ w'.cell? ⟨g', off' + (j - 1) * 5 + 4, none⟩ = some (.string (str s.2.2.2.2)) ∧
              w'.cell? ⟨wr.heap.size, 0, none⟩ = some (.int .i64 t.1) ∧ w'.cell? ⟨wr.heap.size, 1, none⟩ = some (.int .i64 t.2.1) ∧ w'.cell? ⟨wr.heap.size, 2, none⟩ = some (.int .i64 t.2.2.1) ∧ w'.cell? ⟨wr.heap.size, 3, none⟩ = some (.int .i64 t.2.2.2.1) ∧ w'.cell? ⟨wr.heap.size, 4, none⟩ = some (.string (str t.2.2.2.2))) (go_keep)
              ((go_at_call 21; refine (CAx.out _).mono ?_; rintro e w2 ⟨rfl, hb2⟩; have hbV : Below W1.heap.size W1 w2 := (by rw [hW1]; exact (Below.refl _ _).drew.trans hb2); obtain ⟨p0, p1, p2, p3, p4⟩ := HCe.out w2 (hbw.trans ((hb1.trans (hbV.mono hb1.size)).mono hbw.size)); obtain ⟨q0, q1, q2, q3, q4⟩ := HBox.out w2 hbV))
            -- MARK6b
            obtain ⟨ap, hap⟩ : ∃ ap, apB s.1 t.1 = ap := ⟨_, rfl⟩
            rw [hap] at HSep
            have HAp := Lib.hid hap
            cases ap
            · rw [if_neg (by simp)] at HSep
              rw [HAp.out]
              have HOV : Hid (w2.ownsRow Wb.heap.size 5 1 (.slice b m cb) m ((prG none (l.take j) ++ []).map bc)) := Lib.hid (by rw [List.append_nil]; exact own_below HO.out (hb1.trans (hbV.mono hb1.size)))
              have HMV : Hid ((prG none (l.take j) ++ []).length = m) := Lib.hid (by rw [List.append_nil]; exact HM.out)
              have hVw : Below w.heap.size w w2 := hbw.trans ((hb1.trans (hbV.mono hb1.size)).mono hbw.size)
              have hVb : Below Wb.heap.size Wb w2 := hbq.trans ((hb1.trans (hbV.mono hb1.size)).mono hbq.size)
              obtain ⟨x0, x1, x2, x3, x4⟩ := HBox.out w2 hbV
              have CTx := Lib.hid (C.out w2 hVw)
              obtain ⟨i0, hi, hz0, hz1, hz2⟩ := info_parts2 infoU8
              by_cases hlong : 8000 < m + y.length
              · have HV2 : Hid (prV l = .tuple #[.string (str []), .int .i64 0, .int .i64 3]) := Lib.hid (by
                  refine HPV.out ([], 0, 3) ?_
                  unfold prS
                  have h1 := HPL.out (j + 1)
                  rw [HX.out, ← List.append_assoc, List.length_append, HSep.out, HMV.out, HY.out] at h1
                  rw [if_neg (by rw [HB0.out]; simp), if_pos (by omega)])
                have hdl : decide ((8000 : Int) < ((m + y.length : Nat) : Int)) = true := decide_eq_true (by omega)
                go_wp2_with fail
                refine CTx.out.mono ?_
                rintro e w5 ⟨rfl, hb5⟩
                have HO5 := Lib.hid (own_below HOV.out hb5)
                rw [HTy.out]
                go_wp2_with (at_builtin; refine Lib.wpList_append_own_string _ rfl _ _ 22 9 rfl Wb.heap.size 5 i0 Tryd.underlying22 Tryd.underlying9 hi hz0 hz1 hz2 _ _ _ rfl HO5.out _ rfl (by unfold maxLen; rw [str_size]; omega) (by rw [str_size]; omega) (by have := hVb.size; have := hb5.size; omega) ?_; intro v6 w6 hown6 hgrow6 _; rw [str_size] at hown6; obtain ⟨b6, cb6, rfl⟩ := own_len hown6; have hbg6 := (hVw.trans (hb5.mono hVw.size)).grown hgrow6 (by have := hVw.size; have := hb5.size; omega) (fun q hq => by have := (HO5.out.lt _ hq).1; have := hb.size; omega))
                -- MARK7
                go_ret3
                exact ⟨by rw [HV2.out]; rfl, hbg6⟩
              · have hdl : decide ((8000 : Int) < ((m + y.length : Nat) : Int)) = false := decide_eq_false (by omega)
                go_wp2_with fail
                refine CTx.out.mono ?_
                rintro e w5 ⟨rfl, hb5⟩
                have HO5 := Lib.hid (own_below HOV.out hb5)
                rw [HTy.out]
                go_wp2_with (at_builtin; refine Lib.wpList_append_own_string _ rfl _ _ 22 9 rfl Wb.heap.size 5 i0 Tryd.underlying22 Tryd.underlying9 hi hz0 hz1 hz2 _ _ _ rfl HO5.out _ rfl (by unfold maxLen; rw [str_size]; omega) (by rw [str_size]; omega) (by have := hVb.size; have := hb5.size; omega) ?_; intro v6 w6 hown6 hgrow6 _; rw [str_size] at hown6; obtain ⟨b6, cb6, rfl⟩ := own_len hown6; have hbg6 := (hVb.trans (hb5.mono hVb.size)).grown hgrow6 (by have := hVb.size; have := hb5.size; omega) (fun q hq => (HO5.out.lt _ hq).1))
                -- MARK8
                have HL6 : Hid (prG none (l.take (j + 1)) = (prG none (l.take j) ++ []) ++ y) := Lib.hid (by rw [HX.out, HY.out, HSep.out, List.append_assoc])
                have HO6 : Hid (w6.ownsRow Wb.heap.size 5 1 (.slice b6 (m + y.length) cb6) (m + y.length) ((prG none (l.take (j + 1))).map bc)) := Lib.hid (by rw [HL6.out, List.map_append]; exact hown6)
                go_roundw
                case rel => exact ⟨j + 1, m + y.length, b6, cb6, rfl, by go_num, by omega, by omega, Lib.hid (by rw [HL6.out, List.length_append, HMV.out]), HO6, hbg6⟩
                case measure => simp [intOf]; omega
            · rw [if_pos rfl] at HSep
              rw [HAp.out]
              -- MARK6c
              have HOW := Lib.hid (own_below HO.out (hb1.trans (hbV.mono hb1.size)))
              have hVw2 : Below w.heap.size w w2 := hbw.trans ((hb1.trans (hbV.mono hb1.size)).mono hbw.size)
              have hVb2 : Below Wb.heap.size Wb w2 := hbq.trans ((hb1.trans (hbV.mono hb1.size)).mono hbq.size)
              obtain ⟨y0, y1, y2, y3, y4⟩ := HBox.out w2 hbV
              have hwr2 : wr.heap.size < w2.heap.size := Nat.lt_of_lt_of_le hz1 hbV.size
              have hbs := hb.size
              have HSz : Hid (∀ o, Wb.heap.size ≤ (w2.alloc o).heap.size) := Lib.hid (fun o => by simp only [World.size_alloc]; have := hVb2.size; omega)
              have HG : Hid (∀ o w3, (w2.alloc o).grownBy w3 (Value.slice b m cb).ownBlock → Below w.heap.size w w3 ∧ Below Wb.heap.size Wb w3 ∧ w3.cell? ⟨wr.heap.size, 0, none⟩ = some (.int .i64 t.1) ∧ w3.cell? ⟨wr.heap.size, 1, none⟩ = some (.int .i64 t.2.1) ∧ w3.cell? ⟨wr.heap.size, 2, none⟩ = some (.int .i64 t.2.2.1) ∧ w3.cell? ⟨wr.heap.size, 3, none⟩ = some (.int .i64 t.2.2.2.1) ∧ w3.cell? ⟨wr.heap.size, 4, none⟩ = some (.string (str t.2.2.2.2))) := Lib.hid (by
                intro o w3 hg3
                have hne : some wr.heap.size ≠ (Value.slice b m cb).ownBlock := fun e => by have := (HO.out.lt _ e.symm).2; omega
                have F : ∀ (i : Nat) (u : Value), w2.cell? ⟨wr.heap.size, i, none⟩ = some u → w3.cell? ⟨wr.heap.size, i, none⟩ = some u := fun i u hu =>
                  (hg3.cell_far ⟨wr.heap.size, i, none⟩ (by simp only [World.size_alloc]; omega) hne).trans ((cell_old _ _ _ hwr2).trans hu)
                exact ⟨(hVw2.alloc hVw2.size o).grown hg3 (by simp only [World.size_alloc]; have := hVw2.size; omega) (fun q hq => by have := (HO.out.lt _ hq).1; omega),
                  (hVb2.alloc hVb2.size o).grown hg3 (by simp only [World.size_alloc]; have := hVb2.size; omega) (fun q hq => (HO.out.lt _ hq).1),
                  F _ _ y0, F _ _ y1, F _ _ y2, F _ _ y3, F _ _ y4⟩)
              have HMX : Hid ((prG none (l.take j) ++ [32]).length = m + 1) := Lib.hid (by rw [List.length_append, HM.out]; rfl)
              have HLX : Hid ((prG none (l.take j)).map bc ++ [.int .u8 32] = (prG none (l.take j) ++ [32]).map bc) := Lib.hid (by rw [List.map_append]; rfl)
              obtain ⟨i0, hi, hz0, hz1, hz2⟩ := info_parts2 infoU8
              by_cases hlong : 8000 < m + 1 + y.length
              · have HV2 : Hid (prV l = .tuple #[.string (str []), .int .i64 0, .int .i64 3]) := Lib.hid (by
                  refine HPV.out ([], 0, 3) ?_
                  unfold prS
                  have h1 := HPL.out (j + 1)
                  rw [HX.out, ← List.append_assoc, List.length_append, HSep.out, HMX.out, HY.out] at h1
                  rw [if_neg (by rw [HB0.out]; simp), if_pos (by omega)])
                have hdl : decide ((8000 : Int) < ((m + 1 + y.length : Nat) : Int)) = true := decide_eq_true (by omega)
                go_wp2_with (at_builtin; refine wpList_append_own _ rfl _ _ 22 rfl Wb.heap.size 5 i0 (.int .u8 0) 1 1 Tryd.underlying22 hi hz0 hz1 hz2 rfl (by decide) _ _ _ rfl (HOW.out.alloc _) ⟨w2.heap.size, 0, none⟩ 1 1 [.int .u8 32] rfl rfl (new_cellsT _ _ _ _ rfl) (by simp [Value.oneCell']) (by unfold maxLen; omega) (by omega) (HSz.out _) ?_; intro v3 w3 hown3 hgrow3 _; obtain ⟨b3, cb3, rfl⟩ := own_len hown3; obtain ⟨hVw, hVb, x0, x1, x2, x3, x4⟩ := HG.out _ _ hgrow3)
                have CTx := Lib.hid (C.out w3 hVw)
                have HOX : Hid (w3.ownsRow Wb.heap.size 5 1 (.slice b3 (m + 1) cb3) (m + 1) ((prG none (l.take j) ++ [32]).map bc)) := Lib.hid (by rw [← HLX.out]; exact hown3)
                refine CTx.out.mono ?_
                rintro e w5 ⟨rfl, hb5⟩
                have HO5 := Lib.hid (own_below HOX.out hb5)
                rw [HTy.out]
                go_wp2_with (at_builtin; refine Lib.wpList_append_own_string _ rfl _ _ 22 9 rfl Wb.heap.size 5 i0 Tryd.underlying22 Tryd.underlying9 hi hz0 hz1 hz2 _ _ _ rfl HO5.out _ rfl (by unfold maxLen; rw [str_size]; omega) (by rw [str_size]; omega) (by have := hVb.size; have := hb5.size; omega) ?_; intro v6 w6 hown6 hgrow6 _; rw [str_size] at hown6; obtain ⟨b6, cb6, rfl⟩ := own_len hown6; have hbg6 := (hVw.trans (hb5.mono hVw.size)).grown hgrow6 (by have := hVw.size; have := hb5.size; omega) (fun q hq => by have := (HO5.out.lt _ hq).1; have := hb.size; omega))
                -- MARK7
                go_ret3
                exact ⟨by rw [HV2.out]; rfl, hbg6⟩
              · have hdl : decide ((8000 : Int) < ((m + 1 + y.length : Nat) : Int)) = false := decide_eq_false (by omega)
                go_wp2_with (at_builtin; refine wpList_append_own _ rfl _ _ 22 rfl Wb.heap.size 5 i0 (.int .u8 0) 1 1 Tryd.underlying22 hi hz0 hz1 hz2 rfl (by decide) _ _ _ rfl (HOW.out.alloc _) ⟨w2.heap.size, 0, none⟩ 1 1 [.int .u8 32] rfl rfl (new_cellsT _ _ _ _ rfl) (by simp [Value.oneCell']) (by unfold maxLen; omega) (by omega) (HSz.out _) ?_; intro v3 w3 hown3 hgrow3 _; obtain ⟨b3, cb3, rfl⟩ := own_len hown3; obtain ⟨hVw, hVb, x0, x1, x2, x3, x4⟩ := HG.out _ _ hgrow3)
                have CTx := Lib.hid (C.out w3 hVw)
                have HOX : Hid (w3.ownsRow Wb.heap.size 5 1 (.slice b3 (m + 1) cb3) (m + 1) ((prG none (l.take j) ++ [32]).map bc)) := Lib.hid (by rw [← HLX.out]; exact hown3)
                refine CTx.out.mono ?_
                rintro e w5 ⟨rfl, hb5⟩
                have HO5 := Lib.hid (own_below HOX.out hb5)
                rw [HTy.out]
                go_wp2_with (at_builtin; refine Lib.wpList_append_own_string _ rfl _ _ 22 9 rfl Wb.heap.size 5 i0 Tryd.underlying22 Tryd.underlying9 hi hz0 hz1 hz2 _ _ _ rfl HO5.out _ rfl (by unfold maxLen; rw [str_size]; omega) (by rw [str_size]; omega) (by have := hVb.size; have := hb5.size; omega) ?_; intro v6 w6 hown6 hgrow6 _; rw [str_size] at hown6; obtain ⟨b6, cb6, rfl⟩ := own_len hown6; have hbg6 := (hVb.trans (hb5.mono hVb.size)).grown hgrow6 (by have := hVb.size; have := hb5.size; omega) (fun q hq => (HO5.out.lt _ hq).1))
                -- MARK8
                have HL6 : Hid (prG none (l.take (j + 1)) = (prG none (l.take j) ++ [32]) ++ y) := Lib.hid (by rw [HX.out, HY.out, HSep.out, List.append_assoc])
                have HO6 : Hid (w6.ownsRow Wb.heap.size 5 1 (.slice b6 (m + 1 + y.length) cb6) (m + 1 + y.length) ((prG none (l.take (j + 1))).map bc)) := Lib.hid (by rw [HL6.out, List.map_append]; exact hown6)
                go_roundw
                case rel => exact ⟨j + 1, m + 1 + y.length, b6, cb6, rfl, by go_num, by omega, by omega, Lib.hid (by rw [HL6.out, List.length_append, HMX.out]), HO6, hbg6⟩
                case measure => simp [intOf]; omega
        · obtain rfl : j = k := by omega
          have hd1 : decide ((j : Int) < (j : Int)) = false := decide_eq_false (Int.lt_irrefl _)
          have hall : l.take j = l := List.take_of_length_le (Nat.le_of_eq HN.out)
          have HV2 : Hid (prV l = .tuple #[.string (str (prG none l)), .int .i64 0, .int .i64 0]) := Lib.hid (by
            refine HPV.out (prG none l, 0, 0) ?_
            have h1 := HM.out
            rw [hall] at h1
            unfold prS
            rw [if_neg (by rw [HB0.out]; simp), if_neg (by omega)])
          have HO2 : Hid (wr.ownsRow Wb.heap.size 5 1 (.slice b m cb) m ((prG none l).map bc)) := Lib.hid (by have := HO.out; rw [hall] at this; exact this)
          have hcv := conv_own Tryd.underlying22 Tryd.underlying5 HO2.out 9 Tryd.underlying9
          clear hall hd0
          go_wp2_with fail
          -- MARK10
          go_ret3
          exact ⟨by rw [HV2.out]; rfl, hbw⟩
end Go.Proofs.YtemoeohchhpilaaDoor
