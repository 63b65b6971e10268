/- Lms: what Lsl Ldoor want of Lx Lq Lq2 Lq3 Llw Llt Ljm Ld Le Lu Lbm Lgap Lsamt Ljl Lsg Lsx Lsz Lsp. -/
import Derived.Test.YtcnekeahlcbflaaDoorLs
import Derived.Test.YtcnekeahlcbflaaDoorLk
import Derived.Test.YtcnekeahlcbflaaDoorLa
import Derived.Test.YtcnekeahlcbflaaDoorLnx
import Derived.Test.YtcnekeahlcbflaaDoorLo
import Derived.Test.YtcnekeahlcbflaaDoorLsame
namespace Go.Proofs.YtcnekeahlcbflaaDoor
open Go.PlainAid Go.RowKit

theorem itoa_ne (n : Int) : Lib.itoa n ≠ [] := by
  have h : ∀ u, Lib.decDigits u ≠ [] := fun u e => by
    have h1 := Lib.decDigits_length u
    have h2 := Lib.nDigits_pos u
    rw [e] at h1; simp at h1; omega
  unfold Lib.itoa
  split
  · simp
  · exact h _
theorem ck_else {k n : Int} {x : List UInt8} (h : kdB k n (x == []) = true) (h7 : k ≠ 7) : ckT k n x = if txT k n x = [] then 7 else 0 := by
  unfold ckT; rw [if_neg (by rw [h]; simp), if_neg (fun e => h7 e.1)]
theorem ck_7 {x : List UInt8} : ckT 7 0 x = if symL x = true then 0 else 6 := by
  unfold ckT
  rw [if_neg (by rw [kd_7]; decide)]
  cases h : symL x
  · rw [if_pos ⟨rfl, rfl⟩, if_neg (by simp)]
  · rw [if_neg (by simp), if_pos rfl]
    have hx : x ≠ [] := by rintro rfl; rw [symL_nil] at h; cases h
    rw [if_neg (by show txT 7 0 x ≠ []; unfold txT; rw [if_neg (by omega), if_pos rfl]; exact hx)]
theorem below_step {w W w2 : World} (h : Below w.heap.size w W) (hb : Below W.heap.size W w2) : Below w.heap.size w w2 := h.trans (hb.mono h.size)
theorem arg_form {w : World} {v : Value} {l : List UInt8} (h : ArgAt w v (l.map bc)) : ∃ a n c, v = .slice a n c ∧ l.length = n ∧ n ≤ c ∧ BytesAt w (.slice a n c) l := by
  have hr := h.row
  obtain ⟨a, n, c, rfl, hn, hc, _⟩ := h
  exact ⟨a, n, c, rfl, by rw [hn, List.length_map], hc, hr⟩
theorem cls_app10 {A B : List UInt8} (h : A ≠ []) : clsP (A ++ 10 :: B) = clsP A := by
  by_cases h0 : (dec A).2.2 = 0
  · exact cls_app h0
  · rw [clsP_no h0, clsP_no (dec_app_lo h h0 (by decide))]
theorem line10 (A B : List UInt8) : lineN (A ++ 10 :: B) = lineN A := run_lo notLf (by decide) (by decide) _ A B (Nat.le_refl _)
theorem sp10 : ∀ (f : Nat) (A B : List UInt8), A.length ≤ f → (A.drop (spN A) ≠ [] → spN (A ++ 10 :: B) = spN A) ∧ (A.drop (spN A) = [] → spN (A ++ 10 :: B) = A.length + 1 + spN B) := by
  have hnil : ∀ B : List UInt8, spN (10 :: B) = 1 + spN B := fun B => by rw [spN_space (by rw [cls_10]), cls_10]; rfl
  intro f
  induction f with
  | zero =>
    intro A B h
    obtain rfl : A = [] := List.eq_nil_of_length_eq_zero (by omega)
    exact ⟨fun h => absurd rfl h, fun _ => by rw [List.nil_append, hnil]; simp⟩
  | succ f ih =>
    intro A B h
    by_cases hA : A = []
    · subst hA; exact ⟨fun h => absurd rfl h, fun _ => by rw [List.nil_append, hnil]; simp⟩
    have hc := cls_app10 (B := B) hA
    have hw := clsP_len hA
    have hp := clsP_pos A
    by_cases h1 : (clsP A).1 = 1
    · have e1 := spN_space h1
      have e2 : spN (A ++ 10 :: B) = (clsP A).2 + spN (A.drop (clsP A).2 ++ 10 :: B) := by rw [spN_space (by rw [hc]; exact h1), hc, drop_app hw]
      obtain ⟨i1, i2⟩ := ih (A.drop (clsP A).2) B (by rw [List.length_drop]; omega)
      rw [e1, e2, ← List.drop_drop]
      refine ⟨fun h => by rw [i1 h], fun h => ?_⟩
      rw [i2 h, List.length_drop]; omega
    · by_cases h6 : (clsP A).1 = 6
      · have e1 := spN_semi h6
        have hln : lineN (A.drop (clsP A).2) ≤ (A.drop (clsP A).2).length := runN_le _ _
        rw [List.length_drop] at hln
        have e2 : spN (A ++ 10 :: B) = (clsP A).2 + (lineN (A.drop (clsP A).2) + spN (A.drop ((clsP A).2 + lineN (A.drop (clsP A).2)) ++ 10 :: B)) := by
          rw [spN_semi (by rw [hc]; exact h6), hc, drop_app hw, line10, drop_app (by omega)]
        obtain ⟨i1, i2⟩ := ih (A.drop ((clsP A).2 + lineN (A.drop (clsP A).2))) B (by rw [List.length_drop]; omega)
        have e3 : A.drop (spN A) = (A.drop ((clsP A).2 + lineN (A.drop (clsP A).2))).drop (spN (A.drop ((clsP A).2 + lineN (A.drop (clsP A).2)))) := by
          rw [e1, List.drop_drop]; congr 1; omega
        rw [e3]
        refine ⟨fun h => by rw [e2, i1 h, ← e1], fun h => ?_⟩
        rw [e2, i2 h, List.length_drop]; omega
      · have e1 : spN A = 0 := spN_stop h1 h6
        have e2 : spN (A ++ 10 :: B) = 0 := spN_stop (by rw [hc]; exact h1) (by rw [hc]; exact h6)
        rw [e1, e2, List.drop_zero]
        exact ⟨fun _ => rfl, fun h => absurd h hA⟩
def shT (k : Nat) (t : Tok) : Tok := (t.1, t.2.1 + (k : Int), t.2.2.1 + (k : Int), t.2.2.2.1, t.2.2.2.2)
theorem lex_shift (k : Nat) : ∀ (f off : Nat) (L : List UInt8), L.length ≤ f → lexO (off + k) L = if (lexO off L).2.2 = 0 then ((lexO off L).1.map (shT k), (0, 0), 0) else ([], ((lexO off L).2.1.1 + (k : Int), (lexO off L).2.1.2 + (k : Int)), (lexO off L).2.2) := by
  intro f
  induction f with
  | zero =>
    intro off L h
    obtain rfl : L = [] := List.eq_nil_of_length_eq_zero (by omega)
    rw [lexO_none (by rw [firstS_nil]), lexO_none (by rw [firstS_nil])]; rfl
  | succ f ih =>
    intro off L h
    by_cases hne : L.drop (spN L) = []
    · rw [lexO_none (firstS_none.2 hne), lexO_none (firstS_none.2 hne)]; rfl
    have e : firstS (off + k) L = (shT k (firstS off L).1, (firstS off L).2) := by
      rw [firstS_pos hne, firstS_pos hne]
      unfold shT
      simp only [Prod.mk.injEq, and_true, true_and]
      omega
    have h4 : (firstS off L).2 ≠ 4 := fun e => hne (firstS_none.1 e)
    by_cases h0 : (firstS off L).2 = 0
    · have hst := stepN_le hne
      have k1 := lexO_ok (off := off + k) (L := L) (by rw [e]; exact h0)
      have k2 := lexO_ok h0
      obtain ⟨q, hq⟩ : ∃ q, spN L + tokN (L.drop (spN L)) = q := ⟨_, rfl⟩
      rw [hq, e, show off + k + q = off + q + k by omega, ih (off + q) (L.drop q) (by rw [List.length_drop]; omega)] at k1
      rw [hq] at k2
      rw [k1, k2]
      by_cases ha : (lexO (off + q) (L.drop q)).2.2 = 0
      · rw [if_pos ha, if_pos ha, if_pos rfl, if_pos rfl]; rfl
      · rw [if_neg ha, if_neg ha, if_neg ha, if_neg ha]
    · rw [lexO_bad (off := off + k) (by rw [e]; exact h4) (by rw [e]; exact h0), lexO_bad h4 h0, e, if_neg h0]; rfl
theorem mk_ok {y : List UInt8} (h : (mkT y).2.2.2 = 0) : mkT y ∈ [((1 : Int), (1 : Int), ([] : List UInt8), (0 : Int)), (1, 2, [], 0), (2, 1, [], 0), (2, 2, [], 0), (3, 0, [], 0), (4, 0, [], 0), (6, 0, [], 0), (6, 1, [], 0)] := by
  unfold mkT marksS at *
  simp only [mkGo] at *
  (repeat' split) <;> simp_all
theorem mk_good : ∀ r ∈ [((1 : Int), (1 : Int), ([] : List UInt8), (0 : Int)), (1, 2, [], 0), (2, 1, [], 0), (2, 2, [], 0), (3, 0, [], 0), (4, 0, [], 0), (6, 0, [], 0), (6, 1, [], 0)], ckT r.1 r.2.1 r.2.2.1 = 0 ∧ fits r.2.1 ∧ r.2.2.1.length ≤ 24 := by
  have : ∀ r ∈ [((1 : Int), (1 : Int), ([] : List UInt8), (0 : Int)), (1, 2, [], 0), (2, 1, [], 0), (2, 2, [], 0), (3, 0, [], 0), (4, 0, [], 0), (6, 0, [], 0), (6, 1, [], 0)], decide (ckT r.1 r.2.1 r.2.2.1 = 0 ∧ fits r.2.1 ∧ r.2.2.1.length ≤ 24) = true := by decide +kernel
  exact fun r hr => of_decide_eq_true (this r hr)
theorem tok_good {L : List UInt8} (hL : L ≠ []) (h : (tokT L).2.2.2 = 0) : ckT (tokT L).1 (tokT L).2.1 (tokT L).2.2.1 = 0 ∧ fits (tokT L).2.1 ∧ (tokT L).2.2.1.length ≤ 24 := by
  cases hc : isWc (clsP L).1
  · have e := tokT_else hc
    rw [e] at h ⊢
    exact mk_good _ (mk_ok h)
  · obtain ⟨h1, h2, h3⟩ := tok_word hc
    have hp := tokN_pos L
    have hl := tokN_le hL
    have hlen : (L.take (wordN L)).length = wordN L := by rw [List.length_take]; omega
    have hw : wordN (L.take (wordN L)) = wordN L := run_cut isWr _ L (wordN L) (Nat.le_refl _) (Nat.le_refl _)
    obtain ⟨y, hy⟩ : ∃ y, L.take (wordN L) = y := ⟨_, rfl⟩
    rw [hy] at h2 hlen hw
    rw [h2] at h ⊢
    have hy0 : y ≠ [] := by rintro rfl; simp at hlen; omega
    unfold wordT at h ⊢
    by_cases h0 : (intE y).2 = 0
    · rw [if_pos h0]
      have hf : fits (intE y).1 := by
        unfold intE at h0 ⊢
        split at h0
        · rename_i hb
          rw [if_pos hb]
          split at h0
          · rename_i hf; rw [if_pos hf]; exact hf
          · simp at h0
        · simp at h0
      refine ⟨?_, hf, by simp⟩
      show ckT 5 (intE y).1 [] = 0
      rw [ck_else (by rw [kd_z (by omega)]; rfl) (by omega)]
      have e : txT 5 (intE y).1 [] = Lib.itoa (intE y).1 := by unfold txT; rw [if_pos rfl]
      rw [e, if_neg (itoa_ne _)]
    · rw [if_neg h0] at h ⊢
      by_cases h7 : (intE y).2 = 7
      · rw [if_pos h7] at h; simp at h
      · rw [if_neg h7] at h ⊢
        by_cases h24 : 24 < y.length
        · rw [if_pos h24] at h; simp at h
        · rw [if_neg h24]
          have hb : intB y = false := by
            cases hb : intB y
            · rfl
            · exfalso; unfold intE at h0 h7; rw [if_pos hb] at h0 h7
              split at h0
              · simp at h0
              · rename_i hf; rw [if_neg hf] at h7; simp at h7
          have hs : symL y = true := by
            rw [symL_else hy0 (by omega) hb]; exact decide_eq_true (by omega)
          refine ⟨?_, by show fits 0; unfold fits; omega, by show y.length ≤ 24; omega⟩
          show ckT 7 0 y = 0
          rw [ck_7, if_pos hs]
theorem lex_good : ∀ (f off : Nat) (L : List UInt8), L.length ≤ f → (lexO off L).1.length ≤ L.length ∧ ∀ t ∈ (lexO off L).1, ck t = 0 ∧ fits t.2.2.2.1 ∧ t.2.2.2.2.length ≤ 24 := by
  intro f
  induction f with
  | zero =>
    intro off L h
    obtain rfl : L = [] := List.eq_nil_of_length_eq_zero (by omega)
    rw [lexO_none (by rw [firstS_nil])]
    exact ⟨Nat.le_refl _, fun t ht => by cases ht⟩
  | succ f ih =>
    intro off L h
    by_cases h4 : (firstS off L).2 = 4
    · rw [lexO_none h4]; exact ⟨Nat.zero_le _, fun t ht => by cases ht⟩
    have hne : L.drop (spN L) ≠ [] := fun e => h4 (firstS_none.2 e)
    by_cases h0 : (firstS off L).2 = 0
    · have hst := stepN_le hne
      obtain ⟨i1, i2⟩ := ih (off + (spN L + tokN (L.drop (spN L)))) (L.drop (spN L + tokN (L.drop (spN L)))) (by rw [List.length_drop]; omega)
      have hp := firstS_pos (off := off) hne
      rw [List.length_drop] at i1
      rw [lexO_ok h0]
      by_cases h2 : (lexO (off + (spN L + tokN (L.drop (spN L)))) (L.drop (spN L + tokN (L.drop (spN L))))).2.2 = 0
      · rw [if_pos h2]
        refine ⟨by simp only [List.length_cons]; omega, fun t ht => ?_⟩
        rcases List.mem_cons.1 ht with rfl | ht
        · rw [hp] at h0 ⊢
          exact tok_good hne h0
        · exact i2 t ht
      · rw [if_neg h2]
        exact ⟨by omega, i2⟩
    · rw [lexO_bad h4 h0]; exact ⟨Nat.zero_le _, fun t ht => by cases ht⟩
def gcs (l : List (Int × Int)) : List Value := l.flatMap fun s => [.int .i64 s.1, .int .i64 s.2]
theorem gcs_app (a b : List (Int × Int)) : gcs (a ++ b) = gcs a ++ gcs b := List.flatMap_append
theorem gcs_one (x y : Int) : gcs [(x, y)] = [.int .i64 x, .int .i64 y] := rfl
def fromK (l : List Tok) : Nat → Int
  | 0 => 0
  | k + 1 => ((l[k]?).map (·.2.2.1)).getD 0
def headK (l : List Tok) (k : Nat) : Int := ((l[k]?).map (·.2.1)).getD 0
def gU (l : List Tok) : Nat → List (Int × Int)
  | 0 => []
  | k + 1 => gU l k ++ [(fromK l k, headK l k)]
theorem gU_len (l : List Tok) : ∀ k, (gU l k).length = k := by
  intro k
  induction k with
  | zero => rfl
  | succ k ih => rw [gU, List.length_append, ih]; rfl
def gapsS (b : List UInt8) : List (Int × Int) := if (lexS b).2.2 ≠ 0 then [] else gU (lexS b).1 (lexS b).1.length ++ [(fromK (lexS b).1 (lexS b).1.length, (b.length : Int))]
theorem lex_len (b : List UInt8) : (lexS b).1.length ≤ b.length := by
  unfold lexS; split
  · exact Nat.zero_le _
  · exact (lex_good _ 0 b (Nat.le_refl _)).1
def zeroSpL : Value := .agg #[.int .i64 0, .int .i64 0]
theorem infoSpL : (Tryd.prog.info? 27).map (fun i => (i.zero, i.size, i.bytes)) = some (some zeroSpL, 2, 16) := by kernel_rfl
theorem one_two (x y : Int) : ∀ u ∈ ([.int .i64 x, .int .i64 y] : List Value), u.oneCell' = true := by
  intro u hu; simp at hu; rcases hu with rfl | rfl <;> rfl
set_option maxRecDepth 50000 in
set_option maxHeartbeats 6400000 in
theorem Gaps_any (a : Option Addr) (n c : Nat) (b : List UInt8) (w : World) (hv : BytesAt w (.slice a n c) b) (hcap : n ≤ c) (hl : n ≤ 1000000) (hn : b.length = n) (T : LTabs w) :
    Calls Tryd.prog 19 #[.slice a n c] w fun e w' => ∃ vg, e = .returned (.tuple #[vg, .int .i64 (lexS b).2.2]) ∧ Hid (w'.ownsRow w.heap.size 27 2 vg (gapsS b).length (gcs (gapsS b))) ∧ Below w.heap.size w w' := by
  obtain ⟨r, hr⟩ : ∃ r, lexS b = r := ⟨_, rfl⟩
  have hlen := lex_len b
  rw [hr] at hlen
  have HG0 : Hid (gapsS b = if r.2.2 ≠ 0 then [] else gU r.1 r.1.length ++ [(fromK r.1 r.1.length, (n : Int))]) := Lib.hid (by unfold gapsS; rw [hr, hn])
  obtain ⟨m, ⟨f1, f2⟩, fe⟩ := r
  have CL := Lib.hid (Lex_at hr m.length rfl a n c w hv hcap hl hn T)
  rw [hr]
  simp only at HG0 CL hlen ⊢
  obtain ⟨k1, hk1⟩ : ∃ k1, m.length = k1 := ⟨_, rfl⟩
  have HK := Lib.hid hk1
  rw [hk1] at HG0 CL hlen
  clear hv T hr hk1
  by_cases hfe : fe = 0
  · subst hfe
    have HG : Hid (gapsS b = gU m k1 ++ [(fromK m k1, (n : Int))]) := Lib.hid (by rw [HG0.out, if_neg (by simp)])
    clear HG0
    go_enter Tryd.func19, Tryd.ntmps19
    go_wp2_with fail
    refine CL.out.mono ?_
    rintro e w2 ⟨v1, cv1, rfl, ho, hb2⟩
    have HT1 := Lib.hid (tks_own ho.out HK.out)
    clear ho CL
    obtain ⟨Wb, hWb⟩ : ∃ Wb, Wb = w2.alloc (.cells #[.int .i64 f1, .int .i64 f2] 27) := ⟨_, rfl⟩
    have hBb : Below w.heap.size w Wb := by rw [hWb]; exact hb2.alloc hb2.size _
    have HTb : Hid (TksAt Wb (.slice v1 k1 cv1) m) := Lib.hid (by rw [hWb]; exact HT1.out.below (below_b1 _ _) (Nat.le_refl _))
    clear HT1
    go_wp2_with fail
    -- MARK1
    rw [← hWb]
    clear hWb
    go_loopw [7, 8, 22] (fun x7 x8 x22 wr => ∃ (k : Nat) (p : Int) (g : Option Addr) (cg : Nat), x7 = .slice g k cg ∧ x8 = .int .i64 p ∧ x22 = .int .i64 (k : Int) ∧ k ≤ k1 ∧ Hid (p = fromK m k) ∧ Hid (wr.ownsRow Wb.heap.size 27 2 (.slice g k cg) k (gcs (gU m k))) ∧ Below Wb.heap.size Wb wr) (fun _ _ x22 _ => k1 - (intOf x22).toNat)
    case atStart => exact ⟨0, 0, none, 0, rfl, rfl, rfl, Nat.zero_le _, Lib.hid rfl, Lib.hid (own_nil _ _ _ _), Below.refl _ _⟩
    case round =>
      obtain ⟨k, p, g, cg, rfl, rfl, rfl, hk, HP, HO, hb⟩ := hrel
      have hbw := hBb.trans (hb.mono hBb.size)
      have hk0 : (0 : Int) ≤ (k : Int) := Int.natCast_nonneg _
      obtain ⟨i0, hi, hz0, hz1, hz2⟩ := info_parts2 infoSpL
      by_cases hlt : k < k1
      · obtain ⟨t, ht⟩ : ∃ t, m[k]? = some t := ⟨_, List.getElem?_eq_getElem (by rw [HK.out]; exact hlt)⟩
        obtain ⟨gt, off, cc, hv, hg, hcl⟩ := (HTb.out.below hb (Nat.le_refl _)).some (by intro e; rw [e] at ht; cases ht)
        obtain ⟨rfl, hv2, rfl⟩ := Value.slice.inj hv
        obtain ⟨a0, a1, a2, a3, a4⟩ := tcs_at m ht
        have F : ∀ j u, (tcs m)[j]? = some u → wr.cell? ⟨gt, off + j, none⟩ = some u := hcl
        have c0 : wr.cell? ⟨gt, off + k * 5, none⟩ = _ := F _ _ a0
        have c1 : wr.cell? ⟨gt, off + k * 5 + 1, none⟩ = _ := F _ _ a1
        have c2 : wr.cell? ⟨gt, off + k * 5 + 2, none⟩ = _ := F _ _ a2
        have c3 : wr.cell? ⟨gt, off + k * 5 + 3, none⟩ = _ := F _ _ a3
        have c4 : wr.cell? ⟨gt, off + k * 5 + 4, none⟩ = _ := F _ _ a4
        obtain ⟨tk, tf, tt, tn, tx⟩ := t
        simp only at c0 c1 c2 c3 c4
        have HU : Hid (gU m (k + 1) = gU m k ++ [(p, tf)] ∧ fromK m (k + 1) = tt) := Lib.hid ⟨by rw [gU, HP.out, headK, ht]; rfl, by rw [fromK, ht]; rfl⟩
        obtain ⟨X, hX⟩ : ∃ X, str tx = X := ⟨_, rfl⟩
        rw [hX] at c4
        have d3 := World.alloc_heap_new wr (.cells #[.int .i64 tk, .int .i64 tf, .int .i64 tt, .int .i64 tn, .string X] 33)
        obtain ⟨⟨f0, f1', f2', f3, f4⟩, _⟩ := box5_facts d3
        have hk1 : (k : Int) < (k1 : Int) := by omega
        have hgs : gt < wr.heap.size := hg
        have HG2 : Hid (∀ o w3, ((wr.alloc (.cells #[.int .i64 tk, .int .i64 tf, .int .i64 tt, .int .i64 tn, .string X] 33)).alloc o).grownBy w3 (Value.slice g k cg).ownBlock → Below Wb.heap.size Wb w3 ∧ w3.cell? ⟨wr.heap.size, 2, none⟩ = some (.int .i64 tt)) := Lib.hid (by
          intro o w3 hg3
          have hne : some wr.heap.size ≠ (Value.slice g k cg).ownBlock := fun e => by have := (HO.out.lt _ e.symm).2; omega
          refine ⟨((hb.alloc hb.size _).alloc (by simp only [World.size_alloc]; have := hb.size; omega) o).grown hg3 (by simp only [World.size_alloc]; have := hb.size; omega) (fun q hq => (HO.out.lt _ hq).1), ?_⟩
          refine (hg3.cell_far ⟨wr.heap.size, 2, none⟩ (by simp only [World.size_alloc]; omega) hne).trans ?_
          exact (cell_old _ _ _ (by simp only [World.size_alloc]; omega)).trans f2')
        have HSz : Hid (∀ o o', Wb.heap.size ≤ ((wr.alloc o).alloc o').heap.size) := Lib.hid (fun o o' => by simp only [World.size_alloc]; have := hb.size; omega)
        clear hv hv2 hcl F a0 a1 a2 a3 a4 ht hX d3
        go_wp2_with (at_builtin; refine wpList_append_own _ rfl _ _ 36 rfl Wb.heap.size 27 i0 zeroSpL 2 16 Tryd.underlying36 hi hz0 hz1 hz2 rfl (by decide) _ _ _ rfl ((HO.out.alloc _).alloc _) ⟨wr.heap.size + 1, 0, none⟩ 1 1 [.int .i64 p, .int .i64 tf] rfl rfl (new_cellsT _ _ _ _ (by simp)) (one_two _ _) (by unfold maxLen; omega) (by omega) (HSz.out _ _) ?_; intro v3 w3 hown3 hgrow3 _; obtain ⟨b3, cb3, rfl⟩ := own_len hown3; obtain ⟨hVb, x2⟩ := HG2.out _ _ hgrow3)
        -- MARK2
        have HO3 : Hid (w3.ownsRow Wb.heap.size 27 2 (.slice b3 (k + 1) cb3) (k + 1) (gcs (gU m (k + 1)))) := Lib.hid (by rw [HU.out.1, gcs_app, gcs_one]; exact hown3)
        exact ⟨⟨k + 1, tt, b3, cb3, rfl, rfl, by go_num, by omega, Lib.hid HU.out.2.symm, HO3, hVb⟩, by simp [intOf]; omega⟩
      · obtain rfl : k = k1 := by omega
        have hd0 : decide ((k : Int) < (k : Int)) = false := decide_eq_false (Int.lt_irrefl _)
        have HSz : Hid (∀ o, Wb.heap.size ≤ (wr.alloc o).heap.size) := Lib.hid (fun o => by simp only [World.size_alloc]; have := hb.size; omega)
        have hbbs := hBb.size
        have HG2 : Hid (∀ o w3, (wr.alloc o).grownBy w3 (Value.slice g k cg).ownBlock → Below w.heap.size w w3) := Lib.hid (by
          intro o w3 hg3
          exact (hbw.alloc hbw.size o).grown hg3 (by simp only [World.size_alloc]; have := hbw.size; omega) (fun q hq => by have := (HO.out.lt _ hq).1; omega))
        go_wp2_with (at_builtin; refine wpList_append_own _ rfl _ _ 36 rfl Wb.heap.size 27 i0 zeroSpL 2 16 Tryd.underlying36 hi hz0 hz1 hz2 rfl (by decide) _ _ _ rfl (HO.out.alloc _) ⟨wr.heap.size, 0, none⟩ 1 1 [.int .i64 p, .int .i64 (n : Int)] rfl rfl (new_cellsT _ _ _ _ rfl) (one_two _ _) (by unfold maxLen; omega) (by omega) (HSz.out _) ?_; intro v3 w3 hown3 hgrow3 _; obtain ⟨b3, cb3, rfl⟩ := own_len hown3; have hVw := HG2.out _ _ hgrow3)
        -- MARK3
        have HO3 : Hid (w3.ownsRow w.heap.size 27 2 (.slice b3 (k + 1) cb3) (gapsS b).length (gcs (gapsS b))) := Lib.hid (by
          rw [HG.out, List.length_append, gU_len, gcs_app, ← HP.out, gcs_one]
          exact own_lower hown3 hbbs)
        go_ret2
        exact ⟨_, rfl, HO3, hVw⟩
  · have hne : (fe != 0) = true := bne_iff_ne.2 hfe
    have HG : Hid (gapsS b = []) := Lib.hid (by rw [HG0.out, if_pos hfe])
    clear HG0 hfe
    go_enter Tryd.func19, Tryd.ntmps19
    go_wp2_with fail
    refine CL.out.mono ?_
    rintro e w2 ⟨v1, cv1, rfl, ho, hb2⟩
    go_wp2_with fail
    -- MARK4
    go_ret2
    exact ⟨_, rfl, by rw [HG.out]; exact Lib.hid (own_nil _ _ _ _), hb2.alloc hb2.size _⟩
theorem gcs_cons (x : Int × Int) (l : List (Int × Int)) : gcs (x :: l) = .int .i64 x.1 :: .int .i64 x.2 :: gcs l := rfl
theorem gcs_at (l : List (Int × Int)) : ∀ {k : Nat} {x : Int × Int}, l[k]? = some x → (gcs l)[k * 2]? = some (.int .i64 x.1) ∧ (gcs l)[k * 2 + 1]? = some (.int .i64 x.2) := by
  induction l with
  | nil => intro k x h; simp at h
  | cons y l ih =>
    intro k x h
    rw [gcs_cons]
    cases k with
    | zero => simp at h; subst h; simp
    | succ k =>
      have := ih (k := k) (x := x) (by simpa using h)
      rw [show (k + 1) * 2 = k * 2 + 1 + 1 by omega]
      simpa using this
def GcsAt (w : World) (v : Value) (l : List (Int × Int)) : Prop :=
  (∃ a c, v = .slice a 0 c ∧ l = []) ∨ ∃ g off cap, v = .slice (some ⟨g, off, none⟩) l.length cap ∧ g < w.heap.size ∧ ∀ j u, (gcs l)[j]? = some u → w.cell? ⟨g, off + j, none⟩ = some u
theorem GcsAt.below {B : Nat} {w w' : World} {v : Value} {l : List (Int × Int)} (h : GcsAt w v l) (hb : Below B w w') (hB : w.heap.size ≤ B) : GcsAt w' v l := by
  rcases h with h | ⟨g, off, cap, e, hg, hc⟩
  · exact .inl h
  · exact .inr ⟨g, off, cap, e, Nat.lt_of_lt_of_le hg hb.size, fun j u hj => (hb.cell (p := ⟨g, off + j, none⟩) (by show g < B; omega)).trans (hc j u hj)⟩
theorem GcsAt.slice {w : World} {v : Value} {l : List (Int × Int)} (h : GcsAt w v l) : ∃ a c, v = .slice a l.length c := by
  rcases h with ⟨a, c, e, rfl⟩ | ⟨g, off, c, e, _⟩
  · exact ⟨_, _, e⟩
  · exact ⟨_, _, e⟩
theorem GcsAt.some {w : World} {v : Value} {l : List (Int × Int)} (h : GcsAt w v l) (hl : l ≠ []) : ∃ g off cap, v = .slice (some ⟨g, off, none⟩) l.length cap ∧ g < w.heap.size ∧ ∀ j u, (gcs l)[j]? = some u → w.cell? ⟨g, off + j, none⟩ = some u := by
  rcases h with ⟨a, c, e, rfl⟩ | h
  · exact absurd rfl hl
  · exact h
theorem lex_head {off : Nat} {L : List UInt8} (h : L ≠ []) (he : (lexO off L).2.2 = 0) : (dec L).2.2 = 0 := by
  by_cases h0 : (dec L).2.2 = 0
  · exact h0
  exfalso
  have hc := clsP_no h0
  have hs : spN L = 0 := (line_bad h0).2
  have hd : L.drop (spN L) = L := by rw [hs, List.drop_zero]
  have hne : L.drop (spN L) ≠ [] := by rw [hd]; exact h
  have ht := (tok_other h (by rw [hc]; rfl) (by rw [hc]; decide) (by rw [hc]; decide) (by rw [hc]; decide) (by rw [hc]; decide)).2
  have hf := firstS_pos (off := off) hne
  rw [hd, ht] at hf
  have h6 : (firstS off L).2 = 6 := by rw [hf]
  have h4 : (firstS off L).2 ≠ 4 := by rw [h6]; decide
  have h1 : (firstS off L).2 ≠ 0 := by rw [h6]; decide
  rw [lexO_bad h4 h1] at he
  exact h1 he
def putT : Nat → List UInt8
  | 1 => [10, 32]
  | 2 => [10, 59, 97, 34, 40, 10]
  | 3 => [10, 13, 10]
  | 4 => [10, 59, 32, 10, 59, 59, 35, 10, 9]
  | _ => []
theorem cls_13 (t : List UInt8) : clsP (13 :: t) = (1, 1) := clsP_at (by decide) (by decide +kernel)
theorem cls_9 (t : List UInt8) : clsP (9 :: t) = (1, 1) := clsP_at (by decide) (by decide +kernel)
theorem sp_ws {c : UInt8} {t : List UInt8} (h : clsP (c :: t) = (1, 1)) : spN (c :: t) = 1 + spN t := by
  rw [spN_space (by rw [h]), h]; rfl
theorem sp_semi (t : List UInt8) : spN (59 :: t) = 1 + (lineN t + spN (t.drop (lineN t))) := by
  rw [spN_semi (by rw [cls_59]), cls_59, ← List.drop_drop]; rfl
theorem line_one {c : UInt8} {t : List UInt8} (h : ub c < 128) (h10 : c ≠ 10) {k : Nat} (ht : lineN t = k) : lineN (c :: t) = 1 + k := by rw [line_lo h h10, ht]
theorem put_sp (j : Nat) (Z : List UInt8) : spN (putT j ++ Z) = (putT j).length + spN Z := by
  match j with
  | 0 => simp [putT]
  | 1 =>
    show spN (10 :: 32 :: Z) = 2 + spN Z
    rw [sp_ws (cls_10 _), sp_ws (cls_32 _)]; omega
  | 2 =>
    show spN (10 :: 59 :: 97 :: 34 :: 40 :: 10 :: Z) = 6 + spN Z
    have hl : lineN (97 :: 34 :: 40 :: 10 :: Z) = 3 := line_one (by decide) (by decide) (line_one (by decide) (by decide) (line_one (by decide) (by decide) (line_10 _)))
    rw [sp_ws (cls_10 _), sp_semi, hl]
    show 1 + (1 + (3 + spN (10 :: Z))) = _
    rw [sp_ws (cls_10 _)]; omega
  | 3 =>
    show spN (10 :: 13 :: 10 :: Z) = 3 + spN Z
    rw [sp_ws (cls_10 _), sp_ws (cls_13 _), sp_ws (cls_10 _)]; omega
  | 4 =>
    show spN (10 :: 59 :: 32 :: 10 :: 59 :: 59 :: 35 :: 10 :: 9 :: Z) = 9 + spN Z
    have h1 : lineN (32 :: 10 :: 59 :: 59 :: 35 :: 10 :: 9 :: Z) = 1 := line_one (by decide) (by decide) (line_10 _)
    have h2 : lineN (59 :: 35 :: 10 :: 9 :: Z) = 2 := line_one (by decide) (by decide) (line_one (by decide) (by decide) (line_10 _))
    rw [sp_ws (cls_10 _), sp_semi, h1]
    show 1 + (1 + (1 + spN (10 :: 59 :: 59 :: 35 :: 10 :: 9 :: Z))) = _
    rw [sp_ws (cls_10 _), sp_semi, h2]
    show 1 + (1 + (1 + (1 + (1 + (2 + spN (10 :: 9 :: Z)))))) = _
    rw [sp_ws (cls_10 _), sp_ws (cls_9 _)]; omega
  | _ + 5 => simp [putT]
theorem put_form (j : Nat) : putT j = [] ∨ ∃ P, putT j = 10 :: P := by
  match j with
  | 0 => exact .inl rfl
  | 1 => exact .inr ⟨_, rfl⟩
  | 2 => exact .inr ⟨_, rfl⟩
  | 3 => exact .inr ⟨_, rfl⟩
  | 4 => exact .inr ⟨_, rfl⟩
  | _ + 5 => exact .inl rfl
theorem gap_put {G : List UInt8} (h : spN G = G.length) {j : Nat} (hj : putT j ≠ []) (Z : List UInt8) : spN (G ++ (putT j ++ Z)) = G.length + (putT j).length + spN Z := by
  rcases put_form j with e | ⟨P, e⟩
  · exact absurd e hj
  have h1 := (sp10 _ G (P ++ Z) (Nat.le_refl _)).2 (by rw [h]; exact List.drop_of_length_le (Nat.le_refl _))
  have h2 := put_sp j Z
  rw [e] at h2 ⊢
  have h3 : spN (10 :: P ++ Z) = 1 + spN (P ++ Z) := sp_ws (cls_10 _)
  rw [List.cons_append] at h3 h2
  rw [h3] at h2
  rw [List.cons_append, h1]; omega
theorem sp_in : ∀ (f : Nat) (L M : List UInt8), L.length ≤ f → spN L < L.length → (dec (L.drop (spN L))).2.2 = 0 → spN (L ++ M) = spN L := by
  intro f
  induction f with
  | zero => intro L M h hl _; omega
  | succ f ih =>
    intro L M h hl hd
    by_cases h1 : (clsP L).1 = 1
    · have hw := spN_pos_len (.inl h1)
      have e := cls_app (M := M) hw.2.2
      have e2 := spN_space h1
      rw [e2] at hl hd ⊢
      rw [spN_space (by rw [e]; exact h1), e, drop_app hw.1, ih (L.drop (clsP L).2) M (by rw [List.length_drop]; omega) (by rw [List.length_drop]; omega) (by rw [List.drop_drop]; exact hd)]
    · by_cases h6 : (clsP L).1 = 6
      · have hw := spN_pos_len (.inr h6)
        have e := cls_app (M := M) hw.2.2
        have e2 := spN_semi h6
        obtain ⟨D, hD⟩ : ∃ D, L.drop (clsP L).2 = D := ⟨_, rfl⟩
        have hDl : D.length = L.length - (clsP L).2 := by rw [← hD, List.length_drop]
        have e3 : L.drop ((clsP L).2 + lineN D) = D.drop (lineN D) := by rw [← List.drop_drop, hD]
        rw [hD, e3] at e2
        have hln : lineN D ≤ D.length := runN_le _ _
        have hdr : (dec (D.drop (lineN D))).2.2 = 0 := by
          by_cases h0 : (dec (D.drop (lineN D))).2.2 = 0
          · exact h0
          · have hz := (line_bad h0).2
            rw [e2, hz, Nat.add_zero, ← List.drop_drop, hD] at hd
            exact absurd hd h0
        have hlt : lineN D < D.length := by omega
        have hline : lineN (D ++ M) = lineN D := run_in notLf _ D M (Nat.le_refl _) hlt hdr
        rw [e2] at hl hd
        have e4 := ih (D.drop (lineN D)) M (by rw [List.length_drop]; omega) (by rw [List.length_drop]; omega) (by
          rw [← List.drop_drop, ← List.drop_drop, hD] at hd; exact hd)
        rw [e2, spN_semi (by rw [e]; exact h6), e, drop_app hw.1, hD, hline, drop_app (by omega), e3, e4]
      · have e1 := spN_stop h1 h6
        rw [e1, List.drop_zero] at hd
        have e := cls_app (M := M) hd
        rw [e1]
        exact spN_stop (by rw [e]; exact h1) (by rw [e]; exact h6)
theorem word_0 {L : List UInt8} : wordN L = 0 ↔ ¬ ((dec L).2.2 = 0 ∧ isWr (dec L).1 = true) := by
  constructor
  · intro h h2
    have := dec_wd h2.1
    have e : wordN L = (dec L).2.1 + runN isWr (L.drop (dec L).2.1) := runN_step h2.1 h2.2
    omega
  · exact fun h => runN_stop h
theorem word_cls {L : List UInt8} (h : isWc (clsP L).1 = false) : wordN L = 0 := by
  rw [word_0]
  rintro ⟨h1, h2⟩
  rw [clsP_ok h1, ← isWr_c, h2] at h; cases h
def wantsW (M : List UInt8) : Prop := isWc (clsP M).1 = true ∨ ((clsP M).1 = 5 ∧ (M.drop (clsP M).2).head? ≠ some 59)
theorem tok_after {M : List UInt8} (h : wantsW M) : wordN (M.drop (tokN M)) = 0 := by
  have key : wordN ((M.drop (clsP M).2).drop (wordN (M.drop (clsP M).2))) = 0 := by
    rw [word_0]; exact run_stop_at isWr _ _ (Nat.le_refl _)
  rw [List.drop_drop] at key
  rcases h with h | ⟨h, h2⟩
  · unfold tokN; rw [if_pos h]; exact key
  · have h3 : ¬ isWc (clsP M).1 = true := by rw [h]; decide
    unfold tokN; rw [if_neg h3, if_pos h, if_neg h2]; exact key
theorem hash_one {M : List UInt8} (h : (clsP M).1 = 5) (h2 : (M.drop (clsP M).2).head? ≠ some 59) (he : (tokT M).2.2.2 = 0) : wordN (M.drop (clsP M).2) ≠ 0 := by
  obtain ⟨t, rfl, hw⟩ := head_hash h
  rw [hw] at h2 ⊢
  have h3 : t.head? ≠ some 59 := h2
  intro h0
  have h0' : wordN t = 0 := h0
  have := (tok_hash h3).2
  rw [h0', List.take_zero, if_neg (by decide), if_neg (by decide)] at this
  rw [this] at he; exact absurd he (by decide)
theorem tok_next {M Z : List UInt8} (hd : (dec M).2.2 = 0) (he : (tokT M).2.2.2 = 0) (hz : wantsW M → wordN Z = 0) :
    tokN (M.take (tokN M) ++ Z) = tokN M ∧ tokT (M.take (tokN M) ++ Z) = tokT M ∧ clsP (M.take (tokN M) ++ Z) = clsP M ∧ dec (M.take (tokN M) ++ Z) = dec M := by
  have hM : M ≠ [] := by rintro rfl; rw [dec_nil] at hd; exact absurd hd (by decide)
  obtain ⟨n, hn⟩ : ∃ n, tokN M = n := ⟨_, rfl⟩
  obtain ⟨w, hw⟩ : ∃ w, (clsP M).2 = w := ⟨_, rfl⟩
  have hwn : w ≤ n := by rw [← hw, ← hn]; unfold tokN; (repeat' split) <;> omega
  have hnl : n ≤ M.length := by rw [← hn]; exact tokN_le hM
  have hwd : (dec M).2.1 = w := by rw [← hw, clsP_ok hd]
  have hc1 : clsP (M.take n) = clsP M := cls_cut (by rw [hw]; exact hwn)
  have hdT : dec (M.take n) = dec M := dec_cut hd (by rw [hwd]; exact hwn)
  have hdT0 : (dec (M.take n)).2.2 = 0 := by rw [hdT]; exact hd
  have hc : clsP (M.take n ++ Z) = clsP M := by rw [cls_app hdT0, hc1]
  have hdA : dec (M.take n ++ Z) = dec M := by rw [dec_app hdT0, hdT]
  have hlT : (M.take n).length = n := by rw [List.length_take]; omega
  have hdrop : (M.take n ++ Z).drop w = (M.drop w).take (n - w) ++ Z := by rw [drop_app (by rw [hlT]; exact hwn), drop_take']
  have hrun : n = w + wordN (M.drop w) → wordN Z = 0 → wordN ((M.drop w).take (n - w) ++ Z) = wordN (M.drop w) := by
    intro e hz
    have e1 : n - w = wordN (M.drop w) := by omega
    have e2 : wordN ((M.drop w).take (n - w)) = wordN (M.drop w) := run_cut isWr _ _ _ (Nat.le_refl _) (by unfold wordN at e1; omega)
    have e3 : ((M.drop w).take (n - w)).length = n - w := by rw [List.length_take, List.length_drop]; omega
    have e4 : wordN ((M.drop w).take (n - w) ++ Z) = ((M.drop w).take (n - w)).length + wordN Z := run_app isWr _ _ Z (Nat.le_refl _) (by rw [e3]; exact e2.trans e1.symm)
    rw [e4, e3, hz, e1, Nat.add_zero]
  rw [hn]
  have hN : tokN (M.take n ++ Z) = n := by
    have hn' := hn
    unfold tokN at hn' ⊢
    rw [hc, hw, hdrop]
    rw [hw] at hn'
    by_cases h : isWc (clsP M).1 = true
    · rw [if_pos h] at hn' ⊢
      rw [hrun hn'.symm (hz (.inl h))]; exact hn'
    · rw [if_neg h] at hn' ⊢
      by_cases h5 : (clsP M).1 = 5
      · rw [if_pos h5] at hn' ⊢
        by_cases h59 : (M.drop w).head? = some 59
        · rw [if_pos h59] at hn'
          have : ((M.drop w).take (n - w) ++ Z).head? = some 59 := by
            cases hq : M.drop w with
            | nil => rw [hq] at h59; cases h59
            | cons a r => rw [hq] at h59; rw [show n - w = 0 + 1 by omega, List.take_succ_cons]; exact h59
          rw [if_pos this]; exact hn'
        · rw [if_neg h59] at hn'
          have hne := hash_one h5 (by rw [hw]; exact h59) he
          rw [hw] at hne
          have : ¬ ((M.drop w).take (n - w) ++ Z).head? = some 59 := by
            cases hq : M.drop w with
            | nil => rw [hq] at hne; exact absurd rfl hne
            | cons a r =>
              rw [hq] at h59 hne hn'
              obtain ⟨k, hk⟩ : ∃ k, n - w = k + 1 := ⟨n - w - 1, by omega⟩
              rw [hk, List.take_succ_cons]; exact h59
          rw [if_neg this, hrun hn'.symm (hz (.inr ⟨h5, by rw [hw]; exact h59⟩))]; exact hn'
      · rw [if_neg h5] at hn' ⊢; exact hn'
  refine ⟨hN, ?_, hc, hdA⟩
  unfold tokT
  rw [hc, hN, hn, List.take_append_of_le_length (by rw [hlT]; exact Nat.le_refl _), List.take_take, Nat.min_self]
def spcF : Nat → List Nat → List UInt8 → List UInt8
  | 0, ms, L => L ++ putT (ms.headD 0)
  | f + 1, ms, L => L.take (spN L) ++ (putT (ms.headD 0) ++ (if L.drop (spN L) = [] then [] else (L.drop (spN L)).take (tokN (L.drop (spN L))) ++ spcF f ms.tail (L.drop (spN L + tokN (L.drop (spN L))))))
theorem sp_take (L : List UInt8) : spN (L.take (spN L)) = (L.take (spN L)).length := by
  rw [sp_cut _ L _ (Nat.le_refl _) (Nat.le_refl _), List.length_take]
  have := spN_le L; omega
theorem gap_last {G : List UInt8} (h : spN G = G.length) (j : Nat) : spN (G ++ (putT j ++ [])) = (G ++ (putT j ++ [])).length := by
  by_cases hj : putT j = []
  · rw [hj]; simp only [List.append_nil]; exact h
  · rw [gap_put h hj, spN_nil]; simp
theorem spc_lex : ∀ (f off off' : Nat) (ms : List Nat) (L : List UInt8), L.length ≤ f → (lexO off L).2.2 = 0 →
    (lexO off' (spcF f ms L)).2.2 = 0 ∧ (lexO off' (spcF f ms L)).1.map bareT = (lexO off L).1.map bareT ∧ (wordN L = 0 → wordN (spcF f ms L) = 0) := by
  have hw10 : ∀ Z : List UInt8, wordN (10 :: Z) = 0 := fun Z => word_cls (by rw [cls_10]; decide)
  intro f
  induction f with
  | zero =>
    intro off off' ms L h he
    obtain rfl : L = [] := List.eq_nil_of_length_eq_zero (by omega)
    rw [spcF]
    have hs : spN ([] ++ putT (ms.headD 0)) = ([] ++ putT (ms.headD 0)).length := by
      have := gap_last (G := []) rfl (ms.headD 0); simpa using this
    have hl := lexO_none (off := off') (L := [] ++ putT (ms.headD 0)) (firstS_none.2 (by rw [hs]; exact List.drop_of_length_le (Nat.le_refl _)))
    rw [hl, lexO_none (off := off) (L := []) (by rw [firstS_nil])]
    refine ⟨rfl, rfl, fun _ => ?_⟩
    rcases put_form (ms.headD 0) with e | ⟨P, e⟩
    · rw [e]; rfl
    · rw [e]; exact hw10 _
  | succ f ih =>
    intro off off' ms L h he
    have hsl := spN_le L
    have hG := sp_take L
    have hGl : (L.take (spN L)).length = spN L := by rw [List.length_take]; omega
    obtain ⟨j, hj⟩ : ∃ j, ms.headD 0 = j := ⟨_, rfl⟩
    -- what stands first
    have first : ∀ Z : List UInt8, (spN L = 0 → wordN L = 0 → wordN Z = 0) → wordN L = 0 → wordN (L.take (spN L) ++ (putT j ++ Z)) = 0 := by
      intro Z hz hL
      by_cases h0 : spN L = 0
      · rw [h0, List.take_zero, List.nil_append]
        rcases put_form j with e | ⟨P, e⟩
        · rw [e]; exact hz h0 hL
        · rw [e]; exact hw10 _
      · have hcl : (clsP L).1 = 1 ∨ (clsP L).1 = 6 := by
          by_cases h1 : (clsP L).1 = 1
          · exact .inl h1
          · by_cases h6 : (clsP L).1 = 6
            · exact .inr h6
            · exact absurd (spN_stop h1 h6) h0
        have hw := spN_pos_len hcl
        have hle : (clsP L).2 ≤ spN L := by
          rcases hcl with h1 | h6
          · rw [spN_space h1]; omega
          · rw [spN_semi h6]; omega
        have e1 := cls_cut (L := L) hle
        have e2 : (dec (L.take (spN L))).2.2 = 0 := by
          rw [dec_cut hw.2.2 (by have := clsP_ok hw.2.2; rw [this] at hle; exact hle)]; exact hw.2.2
        refine word_cls ?_
        rw [cls_app e2, e1]
        rcases hcl with h1 | h6
        · rw [h1]; decide
        · rw [h6]; decide
    rw [spcF, hj]
    by_cases hne : L.drop (spN L) = []
    · rw [if_pos hne]
      have hs := gap_last hG j
      rw [lexO_none (off := off') (firstS_none.2 (by rw [hs]; exact List.drop_of_length_le (Nat.le_refl _))), lexO_none (off := off) (firstS_none.2 hne)]
      exact ⟨rfl, rfl, fun hL => first [] (fun _ _ => rfl) hL⟩
    · rw [if_neg hne]
      have h4 : (firstS off L).2 ≠ 4 := fun e => hne (firstS_none.1 e)
      by_cases h0 : (firstS off L).2 = 0
      · have hst := stepN_le hne
        have hp := firstS_pos (off := off) hne
        have hk := lexO_ok h0
        obtain ⟨M, hM⟩ : ∃ M, L.drop (spN L) = M := ⟨_, rfl⟩
        have hR : L.drop (spN L + tokN M) = M.drop (tokN M) := by rw [← List.drop_drop, hM]
        rw [hM] at hne hst hp hk ⊢
        rw [hR] at hk ⊢
        have h2 : (lexO (off + (spN L + tokN M)) (M.drop (tokN M))).2.2 = 0 := by
          by_cases h : (lexO (off + (spN L + tokN M)) (M.drop (tokN M))).2.2 = 0
          · exact h
          · rw [if_neg h] at hk; rw [hk] at he; exact he
        rw [if_pos h2] at hk
        have hMl : M.length = L.length - spN L := by rw [← hM, List.length_drop]
        have hpos := tokN_pos M
        obtain ⟨n, hn⟩ : ∃ n, tokN M = n := ⟨_, rfl⟩
        -- the rest
        obtain ⟨S, hS⟩ : ∃ S, spcF f ms.tail (M.drop n) = S := ⟨_, rfl⟩
        obtain ⟨i1, i2, i3⟩ := ih (off + (spN L + n)) (off' + ((spN L + (putT j).length) + n)) ms.tail (M.drop n) (by rw [List.length_drop]; omega) (by rw [← hn]; exact h2)
        rw [hS] at i1 i2 i3
        have hte : (tokT M).2.2.2 = 0 := by rw [hp] at h0; exact h0
        have hdM : (dec M).2.2 = 0 := by
          have hl : (lexO off M).2.2 = 0 := by
            have e0 : spN M = 0 := by rw [← hM]; exact spN_drop L
            have hd0 : M.drop (spN M) = M := by rw [e0, List.drop_zero]
            have hf := firstS_pos (off := off) (L := M) (by rw [hd0]; exact hne)
            rw [hd0] at hf
            have hk2 := lexO_ok (off := off) (L := M) (by rw [hf]; exact hte)
            rw [hd0, e0, Nat.zero_add] at hk2
            have hs2 := lex_shift (spN L) _ (off + tokN M) (M.drop (tokN M)) (Nat.le_refl _)
            have h2' : (lexO (off + tokN M) (M.drop (tokN M))).2.2 = 0 := by
              by_cases h : (lexO (off + tokN M) (M.drop (tokN M))).2.2 = 0
              · exact h
              · rw [if_neg h, show off + tokN M + spN L = off + (spN L + tokN M) by omega] at hs2
                rw [hs2] at h2; exact h2
            rw [hk2, if_pos h2']
          exact lex_head hne hl
        obtain ⟨t1, t2, t3, t4⟩ := tok_next (Z := S) hdM hte (fun hw => i3 (by have := tok_after hw; rw [hn] at this; exact this))
        rw [hn] at t1 t2 t3 t4 ⊢
        rw [hS]
        have hcM := sp_end _ L (Nat.le_refl _)
        rw [hM] at hcM
        have hZ0 : spN (M.take n ++ S) = 0 := spN_stop (by rw [t3]; exact hcM.1) (by rw [t3]; exact hcM.2)
        have hspS : spN (L.take (spN L) ++ (putT j ++ (M.take n ++ S))) = spN L + (putT j).length := by
          by_cases hjn : putT j = []
          · rw [hjn, List.nil_append, ← List.append_assoc]
            have e1 : L.take (spN L) ++ M.take n = L.take (spN L + n) := by rw [List.take_add, hM]
            have e2 : spN (L.take (spN L + n)) = spN L := sp_cut _ L _ (Nat.le_refl _) (by omega)
            have e3 : (L.take (spN L + n)).drop (spN L) = M.take n := by rw [drop_take', hM, Nat.add_sub_cancel_left]
            rw [e1, sp_in _ _ S (Nat.le_refl _) (by rw [e2, List.length_take]; omega) (by
              rw [e2, e3, dec_cut hdM]
              · exact hdM
              · have hw : (clsP M).2 ≤ tokN M := by unfold tokN; (repeat' split) <;> omega
                rw [clsP_ok hdM] at hw; omega), e2]; simp
          · rw [gap_put hG hjn, hZ0, hGl]; omega
        have hdS : (L.take (spN L) ++ (putT j ++ (M.take n ++ S))).drop (spN L + (putT j).length) = M.take n ++ S := by
          rw [← List.append_assoc, List.drop_left' (by rw [List.length_append, hGl])]
        have hneS : M.take n ++ S ≠ [] := by
          intro e
          have := congrArg List.length e
          rw [List.length_append, List.length_take, List.length_nil] at this
          have := List.length_pos_iff.2 hne
          omega
        have hfS := firstS_pos (off := off') (L := L.take (spN L) ++ (putT j ++ (M.take n ++ S))) (by rw [hspS, hdS]; exact hneS)
        rw [hspS, hdS, t1, t2] at hfS
        have hkS := lexO_ok (off := off') (L := L.take (spN L) ++ (putT j ++ (M.take n ++ S))) (by rw [hfS]; exact hte)
        rw [hspS, hdS, t1] at hkS
        have hdS2 : (L.take (spN L) ++ (putT j ++ (M.take n ++ S))).drop (spN L + (putT j).length + n) = S := by
          rw [← List.drop_drop, hdS, List.drop_left' (by rw [List.length_take]; omega)]
        rw [hdS2, if_pos i1, hfS] at hkS
        rw [hkS]
        refine ⟨rfl, ?_, ?_⟩
        · rw [hk, List.map_cons, List.map_cons, i2, hp, hn]; rfl
        · refine first _ fun h0 hL => ?_
          rw [word_0] at hL ⊢
          have eM : M = L := by rw [← hM, h0, List.drop_zero]
          rw [t4, eM]; exact hL
      · rw [lexO_bad h4 h0] at he; exact absurd he h0
def Rest (l : List Tok) (b : List UInt8) (k p : Nat) : Prop :=
  p ≤ b.length ∧ (lexO p (b.drop p)).1 = l.drop k ∧ (lexO p (b.drop p)).2.2 = 0 ∧ fromK l k = (p : Int)
theorem rest_first {off : Nat} {L : List UInt8} (he : (lexO off L).2.2 = 0) (hne : L.drop (spN L) ≠ []) :
    (tokT (L.drop (spN L))).2.2.2 = 0 ∧ (lexO (off + (spN L + tokN (L.drop (spN L)))) (L.drop (spN L + tokN (L.drop (spN L))))).2.2 = 0 ∧ lexO off L = ((firstS off L).1 :: (lexO (off + (spN L + tokN (L.drop (spN L)))) (L.drop (spN L + tokN (L.drop (spN L))))).1, (0, 0), 0) := by
  have h4 : (firstS off L).2 ≠ 4 := fun e => hne (firstS_none.1 e)
  have h0 : (firstS off L).2 = 0 := by
    by_cases h : (firstS off L).2 = 0
    · exact h
    · rw [lexO_bad h4 h] at he; exact absurd he h
  have hk := lexO_ok h0
  have h2 : (lexO (off + (spN L + tokN (L.drop (spN L)))) (L.drop (spN L + tokN (L.drop (spN L))))).2.2 = 0 := by
    by_cases h : (lexO (off + (spN L + tokN (L.drop (spN L)))) (L.drop (spN L + tokN (L.drop (spN L))))).2.2 = 0
    · exact h
    · rw [if_neg h] at hk; rw [hk] at he; exact absurd he h
  rw [if_pos h2] at hk
  exact ⟨by rw [firstS_pos hne] at h0; exact h0, h2, hk⟩
theorem rest_step {l : List Tok} {b : List UInt8} {k p : Nat} {t : Tok} (h : Rest l b k p) (ht : l[k]? = some t) :
    ∃ q r : Nat, p ≤ q ∧ q < r ∧ r ≤ b.length ∧ headK l k = (q : Int) ∧ t.2.1 = (q : Int) ∧ t.2.2.1 = (r : Int) ∧ q = p + spN (b.drop p) ∧ r = q + tokN (b.drop q) ∧ b.drop q ≠ [] ∧ Rest l b (k + 1) r := by
  obtain ⟨hp, h1, h2, h3⟩ := h
  obtain ⟨hk, ek⟩ := List.getElem?_eq_some_iff.1 ht
  have hd : l.drop k = t :: l.drop (k + 1) := by rw [List.drop_eq_getElem_cons hk, ek]
  obtain ⟨L, hL⟩ : ∃ L, b.drop p = L := ⟨_, rfl⟩
  have hLl : L.length = b.length - p := by rw [← hL, List.length_drop]
  rw [hL] at h1 h2 ⊢
  have hne : L.drop (spN L) ≠ [] := by
    intro e
    rw [lexO_none (firstS_none.2 e), hd] at h1; cases h1
  obtain ⟨g1, g2, g3⟩ := rest_first h2 hne
  have hst := stepN_le hne
  have hpos := tokN_pos (L.drop (spN L))
  have hM : b.drop (p + spN L) = L.drop (spN L) := by rw [← List.drop_drop, hL]
  rw [g3, firstS_pos hne, hd] at h1
  simp only [List.cons.injEq] at h1
  obtain ⟨e1, e2⟩ := h1
  refine ⟨p + spN L, p + (spN L + tokN (L.drop (spN L))), by omega, by omega, by omega, ?_, by rw [← e1], by rw [← e1], rfl, by rw [hM]; omega, by rw [hM]; exact hne, by omega, ?_, ?_, ?_⟩
  · unfold headK; rw [ht, ← e1]; rfl
  · rw [show b.drop (p + (spN L + tokN (L.drop (spN L)))) = L.drop (spN L + tokN (L.drop (spN L))) by rw [← List.drop_drop, hL]]; exact e2
  · rw [show b.drop (p + (spN L + tokN (L.drop (spN L)))) = L.drop (spN L + tokN (L.drop (spN L))) by rw [← List.drop_drop, hL]]; exact g2
  · show ((l[k]?).map (·.2.2.1)).getD 0 = _
    rw [ht, ← e1]; rfl
theorem rest_end {l : List Tok} {b : List UInt8} {p : Nat} (h : Rest l b l.length p) : (b.drop p).drop (spN (b.drop p)) = [] := by
  obtain ⟨hp, h1, h2, h3⟩ := h
  by_cases hne : (b.drop p).drop (spN (b.drop p)) = []
  · exact hne
  · obtain ⟨g1, g2, g3⟩ := rest_first h2 hne
    rw [g3, List.drop_length] at h1; cases h1
theorem rest_0 {b : List UInt8} (h8 : b.length ≤ 8000) (h : (lexS b).2.2 = 0) : Rest (lexS b).1 b 0 0 := by
  have e : lexS b = lexO 0 b := by unfold lexS; rw [if_neg (by omega)]
  rw [e] at h ⊢
  exact ⟨Nat.zero_le _, rfl, h, rfl⟩
def SoFar (b : List UInt8) (ms : List Nat) (k p : Nat) (s : List UInt8) : Prop :=
  ∃ f, (b.drop p).length ≤ f ∧ s ++ spcF f (ms.drop k) (b.drop p) = spcF b.length ms b
theorem soFar_0 (b : List UInt8) (ms : List Nat) : SoFar b ms 0 0 [] := ⟨b.length, Nat.le_refl _, rfl⟩
theorem soFar_step {b : List UInt8} {ms : List Nat} {k p q r : Nat} {s : List UInt8} (h : SoFar b ms k p s)
    (hq : q = p + spN (b.drop p)) (hr : r = q + tokN (b.drop q)) (hne : b.drop q ≠ []) :
    SoFar b ms (k + 1) r (((s ++ (b.drop p).take (q - p)) ++ putT ((ms.drop k).headD 0)) ++ (b.drop q).take (r - q)) := by
  obtain ⟨f, hf, e⟩ := h
  obtain ⟨L, hL⟩ : ∃ L, b.drop p = L := ⟨_, rfl⟩
  have hM : L.drop (spN L) = b.drop q := by rw [← hL, List.drop_drop, hq]
  rw [hL] at hf e hq ⊢
  have hLne : L ≠ [] := by rintro rfl; rw [List.drop_nil] at hM; exact hne hM.symm
  obtain ⟨f', rfl⟩ : ∃ f', f = f' + 1 := ⟨f - 1, by have := List.length_pos_iff.2 hLne; omega⟩
  rw [spcF, hM, if_neg hne] at e
  have hR : L.drop (spN L + tokN (b.drop q)) = b.drop r := by rw [← List.drop_drop, hM, List.drop_drop, ← hr]
  rw [hR] at e
  have hpos := tokN_pos (b.drop q)
  have hLl : L.length = b.length - p := by rw [← hL, List.length_drop]
  refine ⟨f', by rw [List.length_drop]; omega, ?_⟩
  have e2 : (ms.drop k).tail = ms.drop (k + 1) := by rw [List.tail_drop]
  rw [show q - p = spN L by omega, show r - q = tokN (b.drop q) by omega, ← e, e2]
  simp only [List.append_assoc]
theorem soFar_end {b : List UInt8} {ms : List Nat} {k p : Nat} {s : List UInt8} (h : SoFar b ms k p s) (hE : (b.drop p).drop (spN (b.drop p)) = []) :
    (s ++ b.drop p) ++ putT ((ms.drop k).headD 0) = spcF b.length ms b := by
  obtain ⟨f, hf, e⟩ := h
  obtain ⟨L, hL⟩ : ∃ L, b.drop p = L := ⟨_, rfl⟩
  rw [hL] at hE hf e ⊢
  rw [← e]
  cases f with
  | zero => rw [spcF, List.append_assoc]
  | succ f =>
    have hle := spN_le L
    have h2 : L.take (spN L) = L := List.take_of_length_le (by have := congrArg List.length hE; rw [List.length_drop, List.length_nil] at this; omega)
    rw [spcF, if_pos hE, h2, List.append_nil, List.append_assoc]
theorem putT_len (j : Nat) : (putT j).length ≤ 9 := by
  match j with
  | 0 => decide
  | 1 => decide
  | 2 => decide
  | 3 => decide
  | 4 => decide
  | _ + 5 => exact Nat.zero_le _
theorem spcF_len : ∀ (f : Nat) (ms : List Nat) (L : List UInt8), (spcF f ms L).length ≤ L.length + 9 * (f + 1) := by
  intro f
  induction f with
  | zero => intro ms L; rw [spcF, List.length_append]; have := putT_len (ms.headD 0); omega
  | succ f ih =>
    intro ms L
    rw [spcF]
    have h1 := putT_len (ms.headD 0)
    have h2 := spN_le L
    by_cases hne : L.drop (spN L) = []
    · rw [if_pos hne]
      simp only [List.length_append, List.length_take, List.length_nil]; omega
    · rw [if_neg hne]
      have h3 := (stepN_le hne).1
      have h4 := ih ms.tail (L.drop (spN L + tokN (L.drop (spN L))))
      simp only [List.length_append, List.length_take, List.length_drop] at h4 ⊢
      omega
theorem spc_all {b : List UInt8} (hb : b.length ≤ 300) (ms : List Nat) (h : (lexS b).2.2 = 0) :
    (spcF b.length ms b).length ≤ 8000 ∧ (lexS (spcF b.length ms b)).2.2 = 0 ∧ (lexS (spcF b.length ms b)).1.map bareT = (lexS b).1.map bareT := by
  have hl := spcF_len b.length ms b
  have e : lexS b = lexO 0 b := by unfold lexS; rw [if_neg (by omega)]
  have e2 : lexS (spcF b.length ms b) = lexO 0 (spcF b.length ms b) := by unfold lexS; rw [if_neg (by omega)]
  rw [e] at h ⊢
  rw [e2]
  obtain ⟨h1, h2, _⟩ := spc_lex b.length 0 0 ms b (Nat.le_refl _) h
  exact ⟨by omega, h1, h2⟩
end Go.Proofs.YtcnekeahlcbflaaDoor
