/- The lexer's first. -/
import Derived.Test.YtemoeohchhpilaaDoorLp
import Derived.WalkMore
namespace Go.Proofs.YtemoeohchhpilaaDoor
open Go.RowKit Go.PlainAid

/-- All tables of the lexer. -/
structure LTabs (w : World) : Prop where
  st : STabs w
  tm : MkTab w
  gk : 0 < w.heap.size
  rg : RangeIs w
  gr : 4 < w.heap.size
theorem LTabs.below {w w' : World} (h : LTabs w) (hb : Below w.heap.size w w') : LTabs w' :=
  ⟨h.st.below hb, mk_below h.tm hb h.gk, Nat.lt_of_lt_of_le h.gk hb.size, range_below h.rg hb h.gr, Nat.lt_of_lt_of_le h.gr hb.size⟩

theorem runs_mk (a : Option Addr) (n c : Nat) (f : Fn) (w : World) : Calls Tryd.prog 25 #[.slice a n c, .func f #[] #[]] w fun e w' => e = .returned (.func (.func 40) #[] #[.pointer (some ⟨w.heap.size, 0, none⟩), .pointer (some ⟨w.heap.size + 1, 0, none⟩)]) ∧
    w' = (w.alloc (.cells #[.slice a n c] 22)).alloc (.cells #[.func f #[] #[]] 58) := by
  go_enter Tryd.func25, Tryd.ntmps25
  go_wp2
  -- MARK0
  go_ret
  exact ⟨by simp, rfl⟩
theorem two_boxes (w : World) (x y : Value) (t u : TypeId) : Below w.heap.size w ((w.alloc (.cells #[x] t)).alloc (.cells #[y] u)) ∧ ((w.alloc (.cells #[x] t)).alloc (.cells #[y] u)).heap[w.heap.size]? = some (.cells #[x] t (0, 0)) ∧
    ((w.alloc (.cells #[x] t)).alloc (.cells #[y] u)).heap[w.heap.size + 1]? = some (.cells #[y] u (0, 0)) ∧ ((w.alloc (.cells #[x] t)).alloc (.cells #[y] u)).heap.size = w.heap.size + 2 := by
  refine ⟨(below_b1 _ _).alloc (by simp) _, (Below.heap_alloc _ _ _ (by simp only [World.size_alloc]; omega)).trans (World.alloc_heap_new _ _), ?_, by simp⟩
  have := World.alloc_heap_new (w.alloc (.cells #[x] t)) (.cells #[y] u); rwa [World.size_alloc] at this

theorem runs_at (a : Option Addr) (n c : Nat) (f : Fn) (w : World) : Calls Tryd.prog 25 #[.slice a n c, .func f #[] #[]] w fun e w' => ∃ B1 B2, e = .returned (.func (.func 40) #[] #[.pointer (some ⟨B1, 0, none⟩), .pointer (some ⟨B2, 0, none⟩)]) ∧
    Below w.heap.size w w' ∧ Hid (w'.heap[B1]? = some (.cells #[.slice a n c] 22 (0, 0)) ∧ w'.heap[B2]? = some (.cells #[.func f #[] #[]] 58 (0, 0))) := by
  refine (runs_mk a n c f w).mono ?_
  rintro e w' ⟨rfl, rfl⟩
  obtain ⟨h1, h2, h3, _⟩ := two_boxes w (.slice a n c) (.func f #[] #[]) 22 58
  exact ⟨_, _, rfl, h1, Lib.hid ⟨h2, h3⟩⟩
theorem boxes_below {B1 B2 : Nat} {x y : Obj} {w W : World} (h : w.heap[B1]? = some x ∧ w.heap[B2]? = some y) (hb : Below w.heap.size w W) : W.heap[B1]? = some x ∧ W.heap[B2]? = some y :=
  ⟨(hb.block _ (Array.getElem?_eq_some_iff.1 h.1).1).trans h.1, (hb.block _ (Array.getElem?_eq_some_iff.1 h.2).1).trans h.2⟩
def firV (off : Nat) (L : List UInt8) : Value := .tuple #[tokA (firstS off L).1, .int .i64 (firstS off L).2]
theorem fir_tok {l : List UInt8} {k m : Nat} (hm : k + spN (l.drop k) = m) (hne : l.drop m ≠ []) : firV k (l.drop k) = tokV (tokT (l.drop m)) m (m + tokN (l.drop m)) := by
  have e : (l.drop k).drop (spN (l.drop k)) = l.drop m := by rw [List.drop_drop, hm]
  have h := firstS_pos (off := k) (L := l.drop k) (by rw [e]; exact hne)
  rw [e] at h
  unfold firV tokV
  rw [h]
  have e1 : ((k + spN (l.drop k) : Nat) : Int) = (m : Int) := by rw [hm]
  have e2 : ((k + (spN (l.drop k) + tokN (l.drop m)) : Nat) : Int) = ((m + tokN (l.drop m) : Nat) : Int) := by rw [← hm]; congr 1; omega
  simp only [e1, e2]
theorem fir_none {l : List UInt8} {k : Nat} (hm : l.length ≤ k + spN (l.drop k)) : firV k (l.drop k) = .tuple #[tokA (0, 0, 0, 0, []), .int .i64 4] := by
  have e : (l.drop k).drop (spN (l.drop k)) = [] := by rw [List.drop_drop]; exact List.drop_of_length_le hm
  unfold firV firstS; rw [if_pos e]
theorem drop_ne {l : List UInt8} {m : Nat} (h : m < l.length) : l.drop m ≠ [] := fun e => by have := congrArg List.length e; rw [List.length_drop] at this; simp at this; omega

set_option maxRecDepth 50000 in
set_option maxHeartbeats 6400000 in
theorem first_any (a : Option Addr) (n c : Nat) (l : List UInt8) (k : Nat) (w : World) (hv : BytesAt w (.slice a n c) l) (hcap : n ≤ c) (hk : k ≤ n) (hl : n ≤ 1000000) (hn : l.length = n) (T : LTabs w) :
    Calls Tryd.prog 17 #[.slice a n c, .int .i64 (k : Int)] w fun e w' => e = .returned (firV k (l.drop k)) ∧ Below w.heap.size w w' := by
  have CM := Lib.hid (fun a n c f W => runs_at a n c f W)
  have HB := Lib.hid (fun W (hW : Below w.heap.size w W) => RowAt.below hv hW (Nat.le_refl _))
  have HT := Lib.hid (fun W (hW : Below w.heap.size w W) => T.below hW)
  have HN := Lib.hid hn
  have CA := Lib.hid (fun (m : Nat) (hm : m ≤ n) W (hW : Below w.heap.size w W) => classAt_any (.slice a n c) l m W (HT.out W hW).st (HB.out W hW) (by omega) (by omega))
  have CW := Lib.hid (fun (i j : Nat) (hij : i ≤ j) (hj : j ≤ n) W (hW : Below w.heap.size w W) => wordT_any a n c l i j W (HB.out W hW) hcap hij hj hl hn (HT.out W hW).rg (HT.out W hW).gr)
  have CK := Lib.hid (fun (i j : Nat) (hij : i ≤ j) (hj : j ≤ n) W (hW : Below w.heap.size w W) => markT_any a n c l i j W (HB.out W hW) hcap hij hj (HT.out W hW).tm (HT.out W hW).gk)
  have CR1 := Lib.hid (fun (m B1 B2 : Nat) (hm : m ≤ n) W (hW : Below w.heap.size w W) (hb : W.heap[B1]? = some (.cells #[.slice a n c] 22 (0, 0)) ∧ W.heap[B2]? = some (.cells #[.func (.func 26) #[] #[]] 58 (0, 0))) =>
    run1_any (.slice a n c) l m B1 B2 W (HT.out W hW).st (HB.out W hW) (by omega) (by omega) hb.1 hb.2)
  have CR2 := Lib.hid (fun (m B1 B2 : Nat) (hm : m ≤ n) W (hW : Below w.heap.size w W) (hb : W.heap[B1]? = some (.cells #[.slice a n c] 22 (0, 0)) ∧ W.heap[B2]? = some (.cells #[.func (.func 27) #[] #[]] 58 (0, 0))) =>
    run2_any (.slice a n c) l m B1 B2 W (HT.out W hW).st (HB.out W hW) (by omega) (by omega) hb.1 hb.2)
  clear hv T hn
  go_enter Tryd.func17, Tryd.ntmps17
  go_wp2_with fail
  obtain ⟨W0, hW0⟩ : ∃ W0, W0 = w.alloc (.cells #[.int .i64 0, .int .i64 0, .int .i64 0, .int .i64 0, .string ⟨#[]⟩] 33) := ⟨_, rfl⟩
  have hsz : W0.heap.size = w.heap.size + 1 := by rw [hW0]; simp
  have hB0 : Below w.heap.size w W0 := by rw [hW0]; exact below_b1 _ _
  have hb0 : W0.heap[w.heap.size]? = some (.cells #[.int .i64 0, .int .i64 0, .int .i64 0, .int .i64 0, .string ⟨#[]⟩] 33 (0, 0)) := by rw [hW0]; exact World.alloc_heap_new _ _
  rw [← hW0]
  clear hW0
  go_step3
  go_wp2_with fail
  refine (CM.out _ _ _ _ _).mono ?_
  rintro e W1 ⟨B1, B2, rfl, x1, HX1⟩
  go_wp2_with fail
  -- MARK1
  refine (CM.out _ _ _ _ _).mono ?_
  rintro e W2 ⟨B3, B4, rfl, y1, HY⟩
  have HX : Hid (W2.heap[B1]? = some (.cells #[.slice a n c] 22 (0, 0)) ∧ W2.heap[B2]? = some (.cells #[.func (.func 26) #[] #[]] 58 (0, 0))) := Lib.hid (boxes_below HX1.out y1)
  have hxs := x1.size
  have hys := y1.size
  have HBx : Hid (W2.heap[w.heap.size]? = some (.cells #[.int .i64 0, .int .i64 0, .int .i64 0, .int .i64 0, .string ⟨#[]⟩] 33 (0, 0))) := Lib.hid ((y1.block _ (by omega)).trans ((x1.block _ (by omega)).trans hb0))
  have HB2 : Hid (Below w.heap.size w W2) := Lib.hid (hB0.trans ((x1.trans (y1.mono (by omega))).mono (by omega)))
  have HZ2 : Hid (w.heap.size < W2.heap.size) := Lib.hid (by omega)
  clear x1 y1 HX1 hb0 hB0 hxs hys hsz CM
  go_wp2_with fail
  go_step3
  go_wp2_with fail
  -- MARK2
  go_loopw [1, 5] (fun x1 x5 wr => ∃ m : Nat, x1 = .int .i64 (m : Int) ∧ x5 = .int .i64 4 ∧ m ≤ n ∧ Hid (k + spN (l.drop k) = m + spN (l.drop m)) ∧ Below W2.heap.size W2 wr) (fun x1 _ _ => n - (intOf x1).toNat)
  case atStart => exact ⟨k, rfl, rfl, hk, Lib.hid rfl, Below.refl _ _⟩
  case round =>
    obtain ⟨m, rfl, rfl, hm, HS, hb⟩ := hrel
    have hBw : Below w.heap.size w wr := HB2.out.trans (hb.mono (Nat.le_of_lt HZ2.out))
    have HNB : Hid (∀ W, Below wr.heap.size wr W → Below W2.heap.size W2 W ∧ Below w.heap.size w W) := Lib.hid fun W hW => ⟨hb.trans (hW.mono hb.size), hBw.trans (hW.mono hBw.size)⟩
    by_cases hlt : m < n
    · have hne := drop_ne (l := l) (m := m) (by rw [HN.out]; exact hlt)
      have HNE := Lib.hid hne
      have C0 := Lib.hid (CA.out m hm wr hBw)
      obtain ⟨⟨cl, wd⟩, hcl⟩ : ∃ p, clsP (l.drop m) = p := ⟨_, rfl⟩
      have hwl := clsP_len hne
      have hwp := clsP_pos (l.drop m)
      rw [hcl] at C0 hwl hwp
      rw [List.length_drop, HN.out] at hwl
      simp only at C0 hwl hwp
      have hmw : m + wd ≤ n := by omega
      have HCL := Lib.hid hcl
      have hd : decide ((m : Int) < (n : Int)) = true := decide_eq_true (by omega)
      clear hcl hne
      by_cases h6 : cl = 6
      · subst h6
        have hl2 := runN_le notLf (l.drop (m + wd))
        rw [List.length_drop, HN.out] at hl2
        obtain ⟨q, hq⟩ : ∃ q, runN notLf (l.drop (m + wd)) = q := ⟨_, rfl⟩
        have HS2 : Hid (k + spN (l.drop k) = (m + wd + q) + spN (l.drop (m + wd + q))) := Lib.hid (by
          rw [HS.out, spN_semi (L := l.drop m) (by rw [HCL.out]), HCL.out]
          unfold lineN
          simp only [List.drop_drop]
          rw [hq, ← Nat.add_assoc m wd q]; omega)
        have HC2 := Lib.hid (fun W hW => CR2.out (m + wd) B3 B4 hmw W (HNB.out W hW).2 (boxes_below HY.out (HNB.out W hW).1))
        rw [hq] at HC2 hl2
        clear hq
        go_wp2_with fail
        refine C0.out.mono ?_
        rintro e w1 ⟨rfl, hb1⟩
        go_wp2_with fail
        -- MARK3
        refine (HC2.out w1 hb1).mono ?_
        rintro e w2 ⟨rfl, hb2⟩
        go_wp2_with fail
        -- MARK4
        go_roundw
        case rel => exact ⟨m + wd + q, rfl, rfl, by omega, HS2, (HNB.out _ (hb1.trans (hb2.mono hb1.size))).1⟩
        case measure => simp [intOf]; omega
      have hb6 : ((cl : Int) == 6) = false := beq_eq_false_iff_ne.2 h6
      by_cases h1 : cl = 1
      · subst h1
        have HS2 : Hid (k + spN (l.drop k) = (m + wd) + spN (l.drop (m + wd))) := Lib.hid (by
          rw [HS.out, spN_space (L := l.drop m) (by rw [HCL.out]), HCL.out]
          simp only [List.drop_drop]
          omega)
        go_wp2_with fail
        refine C0.out.mono ?_
        rintro e w1 ⟨rfl, hb1⟩
        go_wp2_with fail
        go_roundw
        case rel => exact ⟨m + wd, rfl, rfl, by omega, HS2, (HNB.out _ hb1).1⟩
        case measure => simp [intOf]; omega
      have hb1' : ((cl : Int) == 1) = false := beq_eq_false_iff_ne.2 h1
      have hsp : spN (l.drop m) = 0 := spN_stop (by rw [HCL.out]; exact h1) (by rw [HCL.out]; exact h6)
      have HF := Lib.hid (fir_tok (l := l) (k := k) (m := m) (by rw [HS.out, hsp]; rfl) HNE.out)
      have HBox : Hid (∀ W, Below wr.heap.size wr W → W.heap[w.heap.size]? = some (.cells #[.int .i64 0, .int .i64 0, .int .i64 0, .int .i64 0, .string ⟨#[]⟩] 33 (0, 0)) ∧ w.heap.size < W.heap.size) := Lib.hid fun W hW =>
        ⟨((HNB.out W hW).1.block _ HZ2.out).trans HBx.out, Nat.lt_of_lt_of_le HZ2.out (HNB.out W hW).1.size⟩
      clear hsp h1 h6
      by_cases hw : isWc cl = true
      · have htw : tokN (l.drop m) = wd + runN isWr (l.drop (m + wd)) := by unfold tokN wordN; rw [HCL.out, if_pos hw]; simp only [List.drop_drop]
        have hl2 := runN_le isWr (l.drop (m + wd))
        rw [List.length_drop, HN.out] at hl2
        obtain ⟨q, hq⟩ : ∃ q, runN isWr (l.drop (m + wd)) = q := ⟨_, rfl⟩
        have HT2 : Hid (tokT (l.drop m) = wordT (seg l m (m + wd + q))) := Lib.hid (by unfold tokT seg; rw [HCL.out, if_pos hw, htw, hq, show m + wd + q - m = wd + q by omega])
        have HC2 := Lib.hid (fun W hW => CR1.out (m + wd) B1 B2 hmw W (HNB.out W hW).2 (boxes_below HX.out (HNB.out W hW).1))
        rw [hq] at HC2 hl2 htw
        have HC3 := Lib.hid (fun W hW => CW.out m (m + wd + q) (by omega) (by omega) W (HNB.out W hW).2)
        rw [htw, HT2.out, ← Nat.add_assoc] at HF
        obtain ⟨⟨tk, tn, tx, te⟩, ht⟩ : ∃ t, wordT (seg l m (m + wd + q)) = t := ⟨_, rfl⟩
        rw [ht] at HC3 HF
        unfold tokV tokA tokC at HC3
        simp only at HC3
        have hor := isWc_iff.1 hw
        have hx1 : (0 : Int) ≤ ((m + wd + q : Nat) : Int) := Int.natCast_nonneg _
        clear hq htw ht hw HT2
        have hor2 : ((cl : Int) == 9) = true ∨ (((cl : Int) == 9) = false ∧ ((cl : Int) == 7) = true) ∨ (((cl : Int) == 9) = false ∧ ((cl : Int) == 7) = false ∧ ((cl : Int) == 8) = true) := by
          rcases hor with rfl | rfl | rfl
          · exact .inl rfl
          · exact .inr (.inl ⟨rfl, rfl⟩)
          · exact .inr (.inr ⟨rfl, rfl, rfl⟩)
        clear hor
        rcases hor2 with e9 | ⟨e9, e7⟩ | ⟨e9, e7, e8⟩
        all_goals
          go_wp2_with fail
          refine C0.out.mono ?_
          rintro e w1 ⟨rfl, hb1⟩
          go_wp2_with fail
          refine (HC2.out w1 hb1).mono ?_
          rintro e w2 ⟨rfl, hb2⟩
          have hb12 := hb1.trans (hb2.mono hb1.size)
          go_wp2_with fail
          refine (HC3.out w2 hb12).mono ?_
          rintro e w3 ⟨rfl, hb3⟩
          have hb13 := hb12.trans (hb3.mono hb12.size)
          obtain ⟨d0, hz3⟩ := HBox.out w3 hb13
          obtain ⟨⟨t0, t1, t2, t3, t4⟩, u0, u1, u2, u3, u4⟩ := box5_facts d0
          have HD0 := Lib.hid d0
          have HBe := Lib.hid (HNB.out w3 hb13).2
          clear d0
          go_wp2_with fail
          -- MARK5
          rw [Exit.noGoto_ret]
          (try simp only [Exit.inBlock, Exit.then])
          refine bodyPost_ret (results_boxT rfl _ _ w.heap.size _ _ _ _ _ _ rfl (set_five _ _ _ _ _ (set_five _ _ _ _ _ HD0.out))) rfl ?_
          exact ⟨by rw [HF.out]; rfl, below_five (below_five HBe.out (Nat.le_refl _) _ _ _ _ _) (Nat.le_refl _) _ _ _ _ _⟩
      · have hwf : isWc cl = false := by cases h : isWc cl with | true => exact absurd h hw | false => rfl
        have e9 : ((cl : Int) == 9) = false := beq_eq_false_iff_ne.2 (fun e => hw (isWc_iff.2 (.inl e)))
        have e7 : ((cl : Int) == 7) = false := beq_eq_false_iff_ne.2 (fun e => hw (isWc_iff.2 (.inr (.inl e))))
        have e8 : ((cl : Int) == 8) = false := beq_eq_false_iff_ne.2 (fun e => hw (isWc_iff.2 (.inr (.inr e))))
        have HT2 : Hid (∀ q, tokN (l.drop m) = q → firV k (l.drop k) = tokV (mkT (seg l m (m + q))) m (m + q)) := Lib.hid (fun q hq => by
          rw [HF.out, hq]; unfold tokT seg; rw [HCL.out, hwf, if_neg (by decide), hq, show m + q - m = q by omega])
        have HTN : Hid (tokN (l.drop m) = if cl = 5 then (if (l.drop (m + wd)).head? = some 59 then wd + 1 else wd + runN isWr (l.drop (m + wd))) else wd) := Lib.hid (by
          unfold tokN wordN; rw [HCL.out, hwf, if_neg (by decide)]; simp only [List.drop_drop])
        clear hw hwf HF
        by_cases h5 : cl = 5
        · subst h5
          by_cases hw2 : m + wd < n
          · obtain ⟨ch, hch⟩ : ∃ ch, l[m + wd]? = some ch := ⟨_, List.getElem?_eq_getElem (by rw [HN.out]; exact hw2)⟩
            have hhd : (l.drop (m + wd)).head? = some ch := by rw [List.head?_drop]; exact hch
            have HCell : Hid (∃ g off, a = some ⟨g, off, none⟩ ∧ ∀ W, Below w.heap.size w W → W.cell? ⟨g, off + (m + wd), none⟩ = some (.int .u8 (ub ch))) := Lib.hid (by
              rcases HB.out w (Below.refl _ _) with ⟨a', c', e, hnil⟩ | ⟨g, off, n', cap, e, hn', hg, hc⟩
              · have h1 := List.map_eq_nil_iff.1 hnil
                have h2 := HN.out
                rw [h1] at h2; simp at h2; omega
              · obtain ⟨rfl, rfl, rfl⟩ := Value.slice.inj e
                exact ⟨g, off, rfl, fun W hW => (hW.cell (p := ⟨g, off + (m + wd), none⟩) hg).trans (hc _ _ (bc_at hch))⟩)
            obtain ⟨g, off, ha, hcell⟩ := HCell.out
            subst ha
            have HCell2 := Lib.hid hcell
            have hcb := ub_bd ch
            have hi1 : (0 : Int) ≤ (m : Int) + (wd : Int) := by omega
            have hi2 : (m : Int) + (wd : Int) < (n : Int) := by omega
            have hi3 : ((m : Int) + (wd : Int)).toNat = m + wd := by omega
            have hi4 : decide ((m : Int) + (wd : Int) < (n : Int)) = true := decide_eq_true hi2
            by_cases h59 : ch = 59
            · subst h59
              have hub : ub 59 = 59 := rfl
              rw [hub] at HCell2
              have HF := Lib.hid (HT2.out (wd + 1) (by rw [HTN.out, if_pos rfl, if_pos hhd]))
              rw [← Nat.add_assoc] at HF
              have HC3 := Lib.hid (fun W hW => CK.out m (m + wd + 1) (by omega) (by omega) W (HNB.out W hW).2)
              obtain ⟨⟨tk, tn, tx, te⟩, ht⟩ : ∃ t, mkT (seg l m (m + wd + 1)) = t := ⟨_, rfl⟩
              rw [ht] at HC3 HF
              unfold tokV tokA tokC at HC3
              simp only at HC3
              clear hhd hch ht hcell HCell hub hcb
              go_wp2_with fail
              refine C0.out.mono ?_
              rintro e w1 ⟨rfl, hb1⟩
              have c0 := HCell2.out w1 (HNB.out w1 hb1).2
              go_wp2_with fail
              -- MARK6
              refine (HC3.out w1 hb1).mono ?_
              rintro e w3 ⟨rfl, hb3⟩
              have hb13 := hb1.trans (hb3.mono hb1.size)
              obtain ⟨d0, hz3⟩ := HBox.out w3 hb13
              obtain ⟨⟨t0, t1, t2, t3, t4⟩, u0, u1, u2, u3, u4⟩ := box5_facts d0
              have HD0 := Lib.hid d0
              have HBe := Lib.hid (HNB.out w3 hb13).2
              clear d0
              go_wp2_with fail
              rw [Exit.noGoto_ret]
              (try simp only [Exit.inBlock, Exit.then])
              refine bodyPost_ret (results_boxT rfl _ _ w.heap.size _ _ _ _ _ _ rfl (set_five _ _ _ _ _ (set_five _ _ _ _ _ HD0.out))) rfl ?_
              exact ⟨by rw [HF.out]; rfl, below_five (below_five HBe.out (Nat.le_refl _) _ _ _ _ _) (Nat.le_refl _) _ _ _ _ _⟩
            · have HC2 := Lib.hid (fun W hW => CR1.out (m + wd) B1 B2 hmw W (HNB.out W hW).2 (boxes_below HX.out (HNB.out W hW).1))
              have hl2 := runN_le isWr (l.drop (m + wd))
              rw [List.length_drop, HN.out] at hl2
              have HF := Lib.hid (HT2.out (wd + runN isWr (l.drop (m + wd))) (by rw [HTN.out, if_pos rfl, if_neg (by rw [hhd]; exact fun e => h59 (Option.some.inj e))]))
              obtain ⟨q, hq⟩ : ∃ q, runN isWr (l.drop (m + wd)) = q := ⟨_, rfl⟩
              rw [hq, ← Nat.add_assoc] at HF
              rw [hq] at HC2 hl2
              have HC3 := Lib.hid (fun W hW => CK.out m (m + wd + q) (by omega) (by omega) W (HNB.out W hW).2)
              obtain ⟨⟨tk, tn, tx, te⟩, ht⟩ : ∃ t, mkT (seg l m (m + wd + q)) = t := ⟨_, rfl⟩
              rw [ht] at HC3 HF
              unfold tokV tokA tokC at HC3
              simp only at HC3
              have hneq : (ub ch == 59) = false := beq_eq_false_iff_ne.2 (fun e => h59 (ub_inj (b := 59) e))
              obtain ⟨x, hx⟩ : ∃ x, ub ch = x := ⟨_, rfl⟩
              rw [hx] at hneq HCell2
              clear hhd hch ht hcell HCell hcb h59 hq hx
              go_wp2_with fail
              refine C0.out.mono ?_
              rintro e w1 ⟨rfl, hb1⟩
              have c0 := HCell2.out w1 (HNB.out w1 hb1).2
              go_wp2_with fail
              refine (HC2.out w1 hb1).mono ?_
              rintro e w2 ⟨rfl, hb2⟩
              have hb12 := hb1.trans (hb2.mono hb1.size)
              go_wp2_with fail
              -- MARK7
              refine (HC3.out w2 hb12).mono ?_
              rintro e w3 ⟨rfl, hb3⟩
              have hb13 := hb12.trans (hb3.mono hb12.size)
              obtain ⟨d0, hz3⟩ := HBox.out w3 hb13
              obtain ⟨⟨t0, t1, t2, t3, t4⟩, u0, u1, u2, u3, u4⟩ := box5_facts d0
              have HD0 := Lib.hid d0
              have HBe := Lib.hid (HNB.out w3 hb13).2
              clear d0
              go_wp2_with fail
              rw [Exit.noGoto_ret]
              (try simp only [Exit.inBlock, Exit.then])
              refine bodyPost_ret (results_boxT rfl _ _ w.heap.size _ _ _ _ _ _ rfl (set_five _ _ _ _ _ (set_five _ _ _ _ _ HD0.out))) rfl ?_
              exact ⟨by rw [HF.out]; rfl, below_five (below_five HBe.out (Nat.le_refl _) _ _ _ _ _) (Nat.le_refl _) _ _ _ _ _⟩
          · have HC2 := Lib.hid (fun W hW => CR1.out (m + wd) B1 B2 hmw W (HNB.out W hW).2 (boxes_below HX.out (HNB.out W hW).1))
            have hdr : l.drop (m + wd) = [] := List.drop_of_length_le (by rw [HN.out]; omega)
            have hq : runN isWr (l.drop (m + wd)) = 0 := by rw [hdr]; rfl
            have HF := Lib.hid (HT2.out wd (by rw [HTN.out, if_pos rfl, hdr, if_neg (by simp)]; rfl))
            rw [hq] at HC2
            have HC3 := Lib.hid (fun W hW => CK.out m (m + wd) (by omega) hmw W (HNB.out W hW).2)
            obtain ⟨⟨tk, tn, tx, te⟩, ht⟩ : ∃ t, mkT (seg l m (m + wd)) = t := ⟨_, rfl⟩
            rw [ht] at HC3 HF
            unfold tokV tokA tokC at HC3
            simp only at HC3
            have hi4 : decide ((m : Int) + (wd : Int) < (n : Int)) = false := decide_eq_false (by omega)
            clear hq hdr ht hw2
            go_wp2_with fail
            refine C0.out.mono ?_
            rintro e w1 ⟨rfl, hb1⟩
            go_wp2_with fail
            refine (HC2.out w1 hb1).mono ?_
            rintro e w2 ⟨rfl, hb2⟩
            have hb12 := hb1.trans (hb2.mono hb1.size)
            go_wp2_with fail
            -- MARK8
            refine (HC3.out w2 hb12).mono ?_
            rintro e w3 ⟨rfl, hb3⟩
            have hb13 := hb12.trans (hb3.mono hb12.size)
            obtain ⟨d0, hz3⟩ := HBox.out w3 hb13
            obtain ⟨⟨t0, t1, t2, t3, t4⟩, u0, u1, u2, u3, u4⟩ := box5_facts d0
            have HD0 := Lib.hid d0
            have HBe := Lib.hid (HNB.out w3 hb13).2
            clear d0
            go_wp2_with fail
            rw [Exit.noGoto_ret]
            (try simp only [Exit.inBlock, Exit.then])
            refine bodyPost_ret (results_boxT rfl _ _ w.heap.size _ _ _ _ _ _ rfl (set_five _ _ _ _ _ (set_five _ _ _ _ _ HD0.out))) rfl ?_
            exact ⟨by rw [HF.out]; rfl, below_five (below_five HBe.out (Nat.le_refl _) _ _ _ _ _) (Nat.le_refl _) _ _ _ _ _⟩
        · have e5 : ((cl : Int) == 5) = false := beq_eq_false_iff_ne.2 h5
          have HF := Lib.hid (HT2.out wd (by rw [HTN.out, if_neg h5]))
          have HC3 := Lib.hid (fun W hW => CK.out m (m + wd) (by omega) hmw W (HNB.out W hW).2)
          obtain ⟨⟨tk, tn, tx, te⟩, ht⟩ : ∃ t, mkT (seg l m (m + wd)) = t := ⟨_, rfl⟩
          rw [ht] at HC3 HF
          unfold tokV tokA tokC at HC3
          simp only at HC3
          clear h5 ht
          go_wp2_with fail
          refine C0.out.mono ?_
          rintro e w1 ⟨rfl, hb1⟩
          go_wp2_with fail
          -- MARK8b
          refine (HC3.out w1 hb1).mono ?_
          rintro e w3 ⟨rfl, hb3⟩
          have hb13 := hb1.trans (hb3.mono hb1.size)
          obtain ⟨d0, hz3⟩ := HBox.out w3 hb13
          obtain ⟨⟨t0, t1, t2, t3, t4⟩, u0, u1, u2, u3, u4⟩ := box5_facts d0
          have HD0 := Lib.hid d0
          have HBe := Lib.hid (HNB.out w3 hb13).2
          clear d0
          go_wp2_with fail
          rw [Exit.noGoto_ret]
          (try simp only [Exit.inBlock, Exit.then])
          refine bodyPost_ret (results_boxT rfl _ _ w.heap.size _ _ _ _ _ _ rfl (set_five _ _ _ _ _ (set_five _ _ _ _ _ HD0.out))) rfl ?_
          exact ⟨by rw [HF.out]; rfl, below_five (below_five HBe.out (Nat.le_refl _) _ _ _ _ _) (Nat.le_refl _) _ _ _ _ _⟩
    · obtain rfl : m = n := by omega
      have hd : decide ((m : Int) < (m : Int)) = false := decide_eq_false (Int.lt_irrefl _)
      have HF := Lib.hid (fir_none (l := l) (k := k) (by rw [HS.out, HN.out]; omega))
      have d0 := (hb.block _ HZ2.out).trans HBx.out
      have hz3 := Nat.lt_of_lt_of_le HZ2.out hb.size
      obtain ⟨⟨t0, t1, t2, t3, t4⟩, u0, u1, u2, u3, u4⟩ := box5_facts d0
      have HD0 := Lib.hid d0
      have HBe := Lib.hid hBw
      clear d0
      go_wp2_with fail
      -- MARK9
      rw [Exit.noGoto_ret]
      (try simp only [Exit.inBlock, Exit.then])
      refine bodyPost_ret (results_boxT rfl _ _ w.heap.size _ _ _ _ _ _ rfl (set_five _ _ _ _ _ HD0.out)) rfl ?_
      exact ⟨by rw [HF.out]; rfl, below_five HBe.out (Nat.le_refl _) _ _ _ _ _⟩
end Go.Proofs.YtemoeohchhpilaaDoor
