/- Lmn: what Lsn Ldoor want of Lx Lq Lq2 Lq3 Llw Llt Ljm Ld Le Lu Lbm Lgap Lsamt Ljl Lsg Lsx Lsy Lsz Lsp Lss. -/
import Derived.Test.YtcnekeahlcbflaaDoorLs
import Derived.Test.YtcnekeahlcbflaaDoorLk
import Derived.Test.YtcnekeahlcbflaaDoorLa
import Derived.Test.YtcnekeahlcbflaaDoorLnx
import Derived.Test.YtcnekeahlcbflaaDoorLo
import Derived.Test.YtcnekeahlcbflaaDoorLsame
import Derived.Test.YtcnekeahlcbflaaDoorRref7
namespace Go.Proofs.YtcnekeahlcbflaaDoor
open Go.PlainAid Go.RowKit

theorem tok_cut {L : List UInt8} {k : Nat} (hk : tokN L ≤ k) : tokN (L.take k) = tokN L ∧ tokT (L.take k) = tokT L := by
  have hw : (clsP L).2 ≤ tokN L := by unfold tokN; (repeat' split) <;> omega
  have hc := cls_cut (L := L) (k := k) (by omega)
  have hN : tokN (L.take k) = tokN L := by
    unfold tokN at hk ⊢
    rw [hc, drop_take']
    by_cases h : isWc (clsP L).1 = true
    · rw [if_pos h] at hk ⊢
      rw [if_pos h]
      have : wordN ((L.drop (clsP L).2).take (k - (clsP L).2)) = wordN (L.drop (clsP L).2) := run_cut _ _ _ _ (Nat.le_refl _) (by unfold wordN at hk; omega)
      rw [this]
    · rw [if_neg h] at hk ⊢
      rw [if_neg h]
      by_cases h5 : (clsP L).1 = 5
      · rw [if_pos h5] at hk ⊢
        rw [if_pos h5]
        by_cases h59 : (L.drop (clsP L).2).head? = some 59
        · rw [if_pos h59] at hk ⊢
          have : ((L.drop (clsP L).2).take (k - (clsP L).2)).head? = some 59 := by
            cases hq : L.drop (clsP L).2 with
            | nil => rw [hq] at h59; cases h59
            | cons a r =>
              rw [hq] at h59
              obtain ⟨j, hj⟩ : ∃ j, k - (clsP L).2 = j + 1 := ⟨k - (clsP L).2 - 1, by omega⟩
              rw [hj, List.take_succ_cons]; exact h59
          rw [if_pos this]
        · rw [if_neg h59] at hk ⊢
          have h60 : ¬ ((L.drop (clsP L).2).take (k - (clsP L).2)).head? = some 59 := by
            intro e
            apply h59
            cases hq : L.drop (clsP L).2 with
            | nil => rw [hq, List.take_nil] at e; cases e
            | cons a r =>
              rw [hq] at e
              cases hj : k - (clsP L).2 with
              | zero => rw [hj] at e; cases e
              | succ j => rw [hj, List.take_succ_cons] at e; exact e
          rw [if_neg h60]
          have : wordN ((L.drop (clsP L).2).take (k - (clsP L).2)) = wordN (L.drop (clsP L).2) := run_cut _ _ _ _ (Nat.le_refl _) (by unfold wordN at hk; omega)
          rw [this]
      · rw [if_neg h5, if_neg h5]
  refine ⟨hN, ?_⟩
  unfold tokT
  rw [hc, hN, List.take_take, Nat.min_eq_left hk]
theorem take_ne {L : List UInt8} {k : Nat} (hL : L ≠ []) (hk : 1 ≤ k) : L.take k ≠ [] := by
  intro e
  have := congrArg List.length e
  rw [List.length_take, List.length_nil] at this
  have := List.length_pos_iff.2 hL
  omega
theorem itoa_ne (n : Int) : Lib.itoa n ≠ [] := by
  have h : ∀ u, Lib.decDigits u ≠ [] := fun u e => by
    have h1 := Lib.decDigits_length u
    have h2 := Lib.nDigits_pos u
    rw [e] at h1; simp at h1; omega
  unfold Lib.itoa
  split
  · simp
  · exact h _
theorem ck_else {k n : Int} {x : List UInt8} (h : kdB k n (x == []) = true) (h7 : k ≠ 7) : ckT k n x = if txT k n x = [] then 7 else 0 := by
  unfold ckT; rw [if_neg (by rw [h]; simp), if_neg (fun e => h7 e.1)]
theorem ck_7 {x : List UInt8} : ckT 7 0 x = if symL x = true then 0 else 6 := by
  unfold ckT
  rw [if_neg (by rw [kd_7]; decide)]
  cases h : symL x
  · rw [if_pos ⟨rfl, rfl⟩, if_neg (by simp)]
  · rw [if_neg (by simp), if_pos rfl]
    have hx : x ≠ [] := by rintro rfl; rw [symL_nil] at h; cases h
    rw [if_neg (by show txT 7 0 x ≠ []; unfold txT; rw [if_neg (by omega), if_pos rfl]; exact hx)]
theorem below_step {w W w2 : World} (h : Below w.heap.size w W) (hb : Below W.heap.size W w2) : Below w.heap.size w w2 := h.trans (hb.mono h.size)
theorem arg_form {w : World} {v : Value} {l : List UInt8} (h : ArgAt w v (l.map bc)) : ∃ a n c, v = .slice a n c ∧ l.length = n ∧ n ≤ c ∧ BytesAt w (.slice a n c) l := by
  have hr := h.row
  obtain ⟨a, n, c, rfl, hn, hc, _⟩ := h
  exact ⟨a, n, c, rfl, by rw [hn, List.length_map], hc, hr⟩
theorem mk_ok {y : List UInt8} (h : (mkT y).2.2.2 = 0) : mkT y ∈ [((1 : Int), (1 : Int), ([] : List UInt8), (0 : Int)), (1, 2, [], 0), (2, 1, [], 0), (2, 2, [], 0), (3, 0, [], 0), (4, 0, [], 0), (6, 0, [], 0), (6, 1, [], 0)] := by
  unfold mkT marksS at *
  simp only [mkGo] at *
  (repeat' split) <;> simp_all
theorem mk_good : ∀ r ∈ [((1 : Int), (1 : Int), ([] : List UInt8), (0 : Int)), (1, 2, [], 0), (2, 1, [], 0), (2, 2, [], 0), (3, 0, [], 0), (4, 0, [], 0), (6, 0, [], 0), (6, 1, [], 0)], ckT r.1 r.2.1 r.2.2.1 = 0 ∧ fits r.2.1 ∧ r.2.2.1.length ≤ 24 := by
  have : ∀ r ∈ [((1 : Int), (1 : Int), ([] : List UInt8), (0 : Int)), (1, 2, [], 0), (2, 1, [], 0), (2, 2, [], 0), (3, 0, [], 0), (4, 0, [], 0), (6, 0, [], 0), (6, 1, [], 0)], decide (ckT r.1 r.2.1 r.2.2.1 = 0 ∧ fits r.2.1 ∧ r.2.2.1.length ≤ 24) = true := by decide +kernel
  exact fun r hr => of_decide_eq_true (this r hr)
theorem tok_good {L : List UInt8} (hL : L ≠ []) (h : (tokT L).2.2.2 = 0) : ckT (tokT L).1 (tokT L).2.1 (tokT L).2.2.1 = 0 ∧ fits (tokT L).2.1 ∧ (tokT L).2.2.1.length ≤ 24 := by
  cases hc : isWc (clsP L).1
  · have e := tokT_else hc
    rw [e] at h ⊢
    exact mk_good _ (mk_ok h)
  · obtain ⟨h1, h2, h3⟩ := tok_word hc
    have hp := tokN_pos L
    have hl := tokN_le hL
    have hlen : (L.take (wordN L)).length = wordN L := by rw [List.length_take]; omega
    have hw : wordN (L.take (wordN L)) = wordN L := run_cut isWr _ L (wordN L) (Nat.le_refl _) (Nat.le_refl _)
    obtain ⟨y, hy⟩ : ∃ y, L.take (wordN L) = y := ⟨_, rfl⟩
    rw [hy] at h2 hlen hw
    rw [h2] at h ⊢
    have hy0 : y ≠ [] := by rintro rfl; simp at hlen; omega
    unfold wordT at h ⊢
    by_cases h0 : (intE y).2 = 0
    · rw [if_pos h0]
      have hf : fits (intE y).1 := by
        unfold intE at h0 ⊢
        split at h0
        · rename_i hb
          rw [if_pos hb]
          split at h0
          · rename_i hf; rw [if_pos hf]; exact hf
          · simp at h0
        · simp at h0
      refine ⟨?_, hf, by simp⟩
      show ckT 5 (intE y).1 [] = 0
      rw [ck_else (by rw [kd_z (by omega)]; rfl) (by omega)]
      have e : txT 5 (intE y).1 [] = Lib.itoa (intE y).1 := by unfold txT; rw [if_pos rfl]
      rw [e, if_neg (itoa_ne _)]
    · rw [if_neg h0] at h ⊢
      by_cases h7 : (intE y).2 = 7
      · rw [if_pos h7] at h; simp at h
      · rw [if_neg h7] at h ⊢
        by_cases h24 : 24 < y.length
        · rw [if_pos h24] at h; simp at h
        · rw [if_neg h24]
          have hb : intB y = false := by
            cases hb : intB y
            · rfl
            · exfalso; unfold intE at h0 h7; rw [if_pos hb] at h0 h7
              split at h0
              · simp at h0
              · rename_i hf; rw [if_neg hf] at h7; simp at h7
          have hs : symL y = true := by
            rw [symL_else hy0 (by omega) hb]; exact decide_eq_true (by omega)
          refine ⟨?_, by show fits 0; unfold fits; omega, by show y.length ≤ 24; omega⟩
          show ckT 7 0 y = 0
          rw [ck_7, if_pos hs]
theorem lex_good : ∀ (f off : Nat) (L : List UInt8), L.length ≤ f → (lexO off L).1.length ≤ L.length ∧ ∀ t ∈ (lexO off L).1, ck t = 0 ∧ fits t.2.2.2.1 ∧ t.2.2.2.2.length ≤ 24 := by
  intro f
  induction f with
  | zero =>
    intro off L h
    obtain rfl : L = [] := List.eq_nil_of_length_eq_zero (by omega)
    rw [lexO_none (by rw [firstS_nil])]
    exact ⟨Nat.le_refl _, fun t ht => by cases ht⟩
  | succ f ih =>
    intro off L h
    by_cases h4 : (firstS off L).2 = 4
    · rw [lexO_none h4]; exact ⟨Nat.zero_le _, fun t ht => by cases ht⟩
    have hne : L.drop (spN L) ≠ [] := fun e => h4 (firstS_none.2 e)
    by_cases h0 : (firstS off L).2 = 0
    · have hst := stepN_le hne
      obtain ⟨i1, i2⟩ := ih (off + (spN L + tokN (L.drop (spN L)))) (L.drop (spN L + tokN (L.drop (spN L)))) (by rw [List.length_drop]; omega)
      have hp := firstS_pos (off := off) hne
      rw [List.length_drop] at i1
      rw [lexO_ok h0]
      by_cases h2 : (lexO (off + (spN L + tokN (L.drop (spN L)))) (L.drop (spN L + tokN (L.drop (spN L))))).2.2 = 0
      · rw [if_pos h2]
        refine ⟨by simp only [List.length_cons]; omega, fun t ht => ?_⟩
        rcases List.mem_cons.1 ht with rfl | ht
        · rw [hp] at h0 ⊢
          exact tok_good hne h0
        · exact i2 t ht
      · rw [if_neg h2]
        exact ⟨by omega, i2⟩
    · rw [lexO_bad h4 h0]; exact ⟨Nat.zero_le _, fun t ht => by cases ht⟩
def gcs (l : List (Int × Int)) : List Value := l.flatMap fun s => [.int .i64 s.1, .int .i64 s.2]
theorem gcs_app (a b : List (Int × Int)) : gcs (a ++ b) = gcs a ++ gcs b := List.flatMap_append
theorem gcs_one (x y : Int) : gcs [(x, y)] = [.int .i64 x, .int .i64 y] := rfl
def fromK (l : List Tok) : Nat → Int
  | 0 => 0
  | k + 1 => ((l[k]?).map (·.2.2.1)).getD 0
def headK (l : List Tok) (k : Nat) : Int := ((l[k]?).map (·.2.1)).getD 0
def gU (l : List Tok) : Nat → List (Int × Int)
  | 0 => []
  | k + 1 => gU l k ++ [(fromK l k, headK l k)]
theorem gU_len (l : List Tok) : ∀ k, (gU l k).length = k := by
  intro k
  induction k with
  | zero => rfl
  | succ k ih => rw [gU, List.length_append, ih]; rfl
def gapsS (b : List UInt8) : List (Int × Int) := if (lexS b).2.2 ≠ 0 then [] else gU (lexS b).1 (lexS b).1.length ++ [(fromK (lexS b).1 (lexS b).1.length, (b.length : Int))]
theorem lex_len (b : List UInt8) : (lexS b).1.length ≤ b.length := by
  unfold lexS; split
  · exact Nat.zero_le _
  · exact (lex_good _ 0 b (Nat.le_refl _)).1
def zeroSpL : Value := .agg #[.int .i64 0, .int .i64 0]
theorem infoSpL : (Tryd.prog.info? 27).map (fun i => (i.zero, i.size, i.bytes)) = some (some zeroSpL, 2, 16) := by kernel_rfl
theorem one_two (x y : Int) : ∀ u ∈ ([.int .i64 x, .int .i64 y] : List Value), u.oneCell' = true := by
  intro u hu; simp at hu; rcases hu with rfl | rfl <;> rfl
set_option maxRecDepth 50000 in
set_option maxHeartbeats 6400000 in
theorem Gaps_any (a : Option Addr) (n c : Nat) (b : List UInt8) (w : World) (hv : BytesAt w (.slice a n c) b) (hcap : n ≤ c) (hl : n ≤ 1000000) (hn : b.length = n) (T : LTabs w) :
    Calls Tryd.prog 19 #[.slice a n c] w fun e w' => ∃ vg, e = .returned (.tuple #[vg, .int .i64 (lexS b).2.2]) ∧ Hid (w'.ownsRow w.heap.size 27 2 vg (gapsS b).length (gcs (gapsS b))) ∧ Below w.heap.size w w' := by
  obtain ⟨r, hr⟩ : ∃ r, lexS b = r := ⟨_, rfl⟩
  have hlen := lex_len b
  rw [hr] at hlen
  have HG0 : Hid (gapsS b = if r.2.2 ≠ 0 then [] else gU r.1 r.1.length ++ [(fromK r.1 r.1.length, (n : Int))]) := Lib.hid (by unfold gapsS; rw [hr, hn])
  obtain ⟨m, ⟨f1, f2⟩, fe⟩ := r
  have CL := Lib.hid (Lex_at hr m.length rfl a n c w hv hcap hl hn T)
  rw [hr]
  simp only at HG0 CL hlen ⊢
  obtain ⟨k1, hk1⟩ : ∃ k1, m.length = k1 := ⟨_, rfl⟩
  have HK := Lib.hid hk1
  rw [hk1] at HG0 CL hlen
  clear hv T hr hk1
  by_cases hfe : fe = 0
  · subst hfe
    have HG : Hid (gapsS b = gU m k1 ++ [(fromK m k1, (n : Int))]) := Lib.hid (by rw [HG0.out, if_neg (by simp)])
    clear HG0
    go_enter Tryd.func19, Tryd.ntmps19
    go_wp2_with fail
    refine CL.out.mono ?_
    rintro e w2 ⟨v1, cv1, rfl, ho, hb2⟩
    have HT1 := Lib.hid (tks_own ho.out HK.out)
    clear ho CL
    obtain ⟨Wb, hWb⟩ : ∃ Wb, Wb = w2.alloc (.cells #[.int .i64 f1, .int .i64 f2] 27) := ⟨_, rfl⟩
    have hBb : Below w.heap.size w Wb := by rw [hWb]; exact hb2.alloc hb2.size _
    have HTb : Hid (TksAt Wb (.slice v1 k1 cv1) m) := Lib.hid (by rw [hWb]; exact HT1.out.below (below_b1 _ _) (Nat.le_refl _))
    clear HT1
    go_wp2_with fail
    -- MARK1
    rw [← hWb]
    clear hWb
    go_loopw [7, 8, 22] (fun x7 x8 x22 wr => ∃ (k : Nat) (p : Int) (g : Option Addr) (cg : Nat), x7 = .slice g k cg ∧ x8 = .int .i64 p ∧ x22 = .int .i64 (k : Int) ∧ k ≤ k1 ∧ Hid (p = fromK m k) ∧ Hid (wr.ownsRow Wb.heap.size 27 2 (.slice g k cg) k (gcs (gU m k))) ∧ Below Wb.heap.size Wb wr) (fun _ _ x22 _ => k1 - (intOf x22).toNat)
    case atStart => exact ⟨0, 0, none, 0, rfl, rfl, rfl, Nat.zero_le _, Lib.hid rfl, Lib.hid (own_nil _ _ _ _), Below.refl _ _⟩
    case round =>
      obtain ⟨k, p, g, cg, rfl, rfl, rfl, hk, HP, HO, hb⟩ := hrel
      have hbw := hBb.trans (hb.mono hBb.size)
      have hk0 : (0 : Int) ≤ (k : Int) := Int.natCast_nonneg _
      obtain ⟨i0, hi, hz0, hz1, hz2⟩ := info_parts2 infoSpL
      by_cases hlt : k < k1
      · obtain ⟨t, ht⟩ : ∃ t, m[k]? = some t := ⟨_, List.getElem?_eq_getElem (by rw [HK.out]; exact hlt)⟩
        obtain ⟨gt, off, cc, hv, hg, hcl⟩ := (HTb.out.below hb (Nat.le_refl _)).some (by intro e; rw [e] at ht; cases ht)
        obtain ⟨rfl, hv2, rfl⟩ := Value.slice.inj hv
        obtain ⟨a0, a1, a2, a3, a4⟩ := tcs_at m ht
        have F : ∀ j u, (tcs m)[j]? = some u → wr.cell? ⟨gt, off + j, none⟩ = some u := hcl
        have c0 : wr.cell? ⟨gt, off + k * 5, none⟩ = _ := F _ _ a0
        have c1 : wr.cell? ⟨gt, off + k * 5 + 1, none⟩ = _ := F _ _ a1
        have c2 : wr.cell? ⟨gt, off + k * 5 + 2, none⟩ = _ := F _ _ a2
        have c3 : wr.cell? ⟨gt, off + k * 5 + 3, none⟩ = _ := F _ _ a3
        have c4 : wr.cell? ⟨gt, off + k * 5 + 4, none⟩ = _ := F _ _ a4
        obtain ⟨tk, tf, tt, tn, tx⟩ := t
        simp only at c0 c1 c2 c3 c4
        have HU : Hid (gU m (k + 1) = gU m k ++ [(p, tf)] ∧ fromK m (k + 1) = tt) := Lib.hid ⟨by rw [gU, HP.out, headK, ht]; rfl, by rw [fromK, ht]; rfl⟩
        obtain ⟨X, hX⟩ : ∃ X, str tx = X := ⟨_, rfl⟩
        rw [hX] at c4
        have d3 := World.alloc_heap_new wr (.cells #[.int .i64 tk, .int .i64 tf, .int .i64 tt, .int .i64 tn, .string X] 33)
        obtain ⟨⟨f0, f1', f2', f3, f4⟩, _⟩ := box5_facts d3
        have hk1 : (k : Int) < (k1 : Int) := by omega
        have hgs : gt < wr.heap.size := hg
        have HG2 : Hid (∀ o w3, ((wr.alloc (.cells #[.int .i64 tk, .int .i64 tf, .int .i64 tt, .int .i64 tn, .string X] 33)).alloc o).grownBy w3 (Value.slice g k cg).ownBlock → Below Wb.heap.size Wb w3 ∧ w3.cell? ⟨wr.heap.size, 2, none⟩ = some (.int .i64 tt)) := Lib.hid (by
          intro o w3 hg3
          have hne : some wr.heap.size ≠ (Value.slice g k cg).ownBlock := fun e => by have := (HO.out.lt _ e.symm).2; omega
          refine ⟨((hb.alloc hb.size _).alloc (by simp only [World.size_alloc]; have := hb.size; omega) o).grown hg3 (by simp only [World.size_alloc]; have := hb.size; omega) (fun q hq => (HO.out.lt _ hq).1), ?_⟩
          refine (hg3.cell_far ⟨wr.heap.size, 2, none⟩ (by simp only [World.size_alloc]; omega) hne).trans ?_
          exact (cell_old _ _ _ (by simp only [World.size_alloc]; omega)).trans f2')
        have HSz : Hid (∀ o o', Wb.heap.size ≤ ((wr.alloc o).alloc o').heap.size) := Lib.hid (fun o o' => by simp only [World.size_alloc]; have := hb.size; omega)
        clear hv hv2 hcl F a0 a1 a2 a3 a4 ht hX d3
        go_wp2_with (at_builtin; refine wpList_append_own _ rfl _ _ 36 rfl Wb.heap.size 27 i0 zeroSpL 2 16 Tryd.underlying36 hi hz0 hz1 hz2 rfl (by decide) _ _ _ rfl ((HO.out.alloc _).alloc _) ⟨wr.heap.size + 1, 0, none⟩ 1 1 [.int .i64 p, .int .i64 tf] rfl rfl (new_cellsT _ _ _ _ (by simp)) (one_two _ _) (by unfold maxLen; omega) (by omega) (HSz.out _ _) ?_; intro v3 w3 hown3 hgrow3 _; obtain ⟨b3, cb3, rfl⟩ := own_len hown3; obtain ⟨hVb, x2⟩ := HG2.out _ _ hgrow3)
        -- MARK2
        have HO3 : Hid (w3.ownsRow Wb.heap.size 27 2 (.slice b3 (k + 1) cb3) (k + 1) (gcs (gU m (k + 1)))) := Lib.hid (by rw [HU.out.1, gcs_app, gcs_one]; exact hown3)
        exact ⟨⟨k + 1, tt, b3, cb3, rfl, rfl, by go_num, by omega, Lib.hid HU.out.2.symm, HO3, hVb⟩, by simp [intOf]; omega⟩
      · obtain rfl : k = k1 := by omega
        have hd0 : decide ((k : Int) < (k : Int)) = false := decide_eq_false (Int.lt_irrefl _)
        have HSz : Hid (∀ o, Wb.heap.size ≤ (wr.alloc o).heap.size) := Lib.hid (fun o => by simp only [World.size_alloc]; have := hb.size; omega)
        have hbbs := hBb.size
        have HG2 : Hid (∀ o w3, (wr.alloc o).grownBy w3 (Value.slice g k cg).ownBlock → Below w.heap.size w w3) := Lib.hid (by
          intro o w3 hg3
          exact (hbw.alloc hbw.size o).grown hg3 (by simp only [World.size_alloc]; have := hbw.size; omega) (fun q hq => by have := (HO.out.lt _ hq).1; omega))
        go_wp2_with (at_builtin; refine wpList_append_own _ rfl _ _ 36 rfl Wb.heap.size 27 i0 zeroSpL 2 16 Tryd.underlying36 hi hz0 hz1 hz2 rfl (by decide) _ _ _ rfl (HO.out.alloc _) ⟨wr.heap.size, 0, none⟩ 1 1 [.int .i64 p, .int .i64 (n : Int)] rfl rfl (new_cellsT _ _ _ _ rfl) (one_two _ _) (by unfold maxLen; omega) (by omega) (HSz.out _) ?_; intro v3 w3 hown3 hgrow3 _; obtain ⟨b3, cb3, rfl⟩ := own_len hown3; have hVw := HG2.out _ _ hgrow3)
        -- MARK3
        have HO3 : Hid (w3.ownsRow w.heap.size 27 2 (.slice b3 (k + 1) cb3) (gapsS b).length (gcs (gapsS b))) := Lib.hid (by
          rw [HG.out, List.length_append, gU_len, gcs_app, ← HP.out, gcs_one]
          exact own_lower hown3 hbbs)
        go_ret2
        exact ⟨_, rfl, HO3, hVw⟩
  · have hne : (fe != 0) = true := bne_iff_ne.2 hfe
    have HG : Hid (gapsS b = []) := Lib.hid (by rw [HG0.out, if_pos hfe])
    clear HG0 hfe
    go_enter Tryd.func19, Tryd.ntmps19
    go_wp2_with fail
    refine CL.out.mono ?_
    rintro e w2 ⟨v1, cv1, rfl, ho, hb2⟩
    go_wp2_with fail
    -- MARK4
    go_ret2
    exact ⟨_, rfl, by rw [HG.out]; exact Lib.hid (own_nil _ _ _ _), hb2.alloc hb2.size _⟩
theorem gcs_cons (x : Int × Int) (l : List (Int × Int)) : gcs (x :: l) = .int .i64 x.1 :: .int .i64 x.2 :: gcs l := rfl
theorem gcs_at (l : List (Int × Int)) : ∀ {k : Nat} {x : Int × Int}, l[k]? = some x → (gcs l)[k * 2]? = some (.int .i64 x.1) ∧ (gcs l)[k * 2 + 1]? = some (.int .i64 x.2) := by
  induction l with
  | nil => intro k x h; simp at h
  | cons y l ih =>
    intro k x h
    rw [gcs_cons]
    cases k with
    | zero => simp at h; subst h; simp
    | succ k =>
      have := ih (k := k) (x := x) (by simpa using h)
      rw [show (k + 1) * 2 = k * 2 + 1 + 1 by omega]
      simpa using this
def GcsAt (w : World) (v : Value) (l : List (Int × Int)) : Prop :=
  (∃ a c, v = .slice a 0 c ∧ l = []) ∨ ∃ g off cap, v = .slice (some ⟨g, off, none⟩) l.length cap ∧ g < w.heap.size ∧ ∀ j u, (gcs l)[j]? = some u → w.cell? ⟨g, off + j, none⟩ = some u
theorem GcsAt.below {B : Nat} {w w' : World} {v : Value} {l : List (Int × Int)} (h : GcsAt w v l) (hb : Below B w w') (hB : w.heap.size ≤ B) : GcsAt w' v l := by
  rcases h with h | ⟨g, off, cap, e, hg, hc⟩
  · exact .inl h
  · exact .inr ⟨g, off, cap, e, Nat.lt_of_lt_of_le hg hb.size, fun j u hj => (hb.cell (p := ⟨g, off + j, none⟩) (by show g < B; omega)).trans (hc j u hj)⟩
theorem GcsAt.slice {w : World} {v : Value} {l : List (Int × Int)} (h : GcsAt w v l) : ∃ a c, v = .slice a l.length c := by
  rcases h with ⟨a, c, e, rfl⟩ | ⟨g, off, c, e, _⟩
  · exact ⟨_, _, e⟩
  · exact ⟨_, _, e⟩
theorem GcsAt.some {w : World} {v : Value} {l : List (Int × Int)} (h : GcsAt w v l) (hl : l ≠ []) : ∃ g off cap, v = .slice (some ⟨g, off, none⟩) l.length cap ∧ g < w.heap.size ∧ ∀ j u, (gcs l)[j]? = some u → w.cell? ⟨g, off + j, none⟩ = some u := by
  rcases h with ⟨a, c, e, rfl⟩ | h
  · exact absurd rfl hl
  · exact h
theorem tks_lit {w : World} {l : List Tok} {C : Array Value} (hC : C = (tcs l).toArray) (n : Nat) (hn : l.length = n) : TksAt (w.alloc (.cells C 33)) (.slice (some ⟨w.heap.size, 0, none⟩) n n) l := by
  subst hC
  refine .inr ⟨w.heap.size, 0, n, by rw [hn], by simp, fun j u hj => ?_⟩
  have h := World.alloc_heap_new w (.cells (tcs l).toArray 33)
  rw [Nat.zero_add]
  simp only [World.cell?, h, Option.isSome_none]
  simpa using hj
theorem lex_head {off : Nat} {L : List UInt8} (h : L ≠ []) (he : (lexO off L).2.2 = 0) : (dec L).2.2 = 0 := by
  by_cases h0 : (dec L).2.2 = 0
  · exact h0
  exfalso
  have hc := clsP_no h0
  have hs : spN L = 0 := (line_bad h0).2
  have hd : L.drop (spN L) = L := by rw [hs, List.drop_zero]
  have hne : L.drop (spN L) ≠ [] := by rw [hd]; exact h
  have ht := (tok_other h (by rw [hc]; rfl) (by rw [hc]; decide) (by rw [hc]; decide) (by rw [hc]; decide) (by rw [hc]; decide)).2
  have hf := firstS_pos (off := off) hne
  rw [hd, ht] at hf
  have h6 : (firstS off L).2 = 6 := by rw [hf]
  have h4 : (firstS off L).2 ≠ 4 := by rw [h6]; decide
  have h1 : (firstS off L).2 ≠ 0 := by rw [h6]; decide
  rw [lexO_bad h4 h1] at he
  exact h1 he
theorem head_start {L : List UInt8} (h : (dec L).2.2 = 0) : ∃ c t, L = c :: t ∧ (ub c < 128 ∨ 194 ≤ ub c) := by
  obtain ⟨c, t, e, h1⟩ := dec_head h
  refine ⟨c, t, e, ?_⟩
  rcases h1 with h1 | h1
  · exact .inl h1.1
  · exact .inr h1.1
theorem gap_first (off : Nat) (L : List UInt8) : lexO off (L.take (spN L)) = ([], (0, 0), 0) := by
  have hs := sp_cut _ L (spN L) (Nat.le_refl _) (Nat.le_refl _)
  exact lexO_none (firstS_none.2 (by rw [hs, List.drop_of_length_le (by rw [List.length_take]; omega)]))
theorem tok_alone (off : Nat) {L : List UInt8} (h : L ≠ []) (h0 : spN L = 0) (he : (tokT L).2.2.2 = 0) :
    lexO off (L.take (tokN L)) = ([((tokT L).1, (off : Int), ((off + tokN L : Nat) : Int), (tokT L).2.1, (tokT L).2.2.1)], (0, 0), 0) := by
  have hp := tokN_pos L
  have hl := tokN_le h
  obtain ⟨c1, c2⟩ := tok_cut (L := L) (Nat.le_refl _)
  have hs : spN (L.take (tokN L)) = 0 := by rw [sp_cut _ L (tokN L) (Nat.le_refl _) (by omega), h0]
  have hne : L.take (tokN L) ≠ [] := take_ne h hp
  have hd : (L.take (tokN L)).drop (spN (L.take (tokN L))) = L.take (tokN L) := by rw [hs, List.drop_zero]
  have hf := firstS_pos (off := off) (L := L.take (tokN L)) (by rw [hd]; exact hne)
  rw [hd, hs, c1, c2, Nat.zero_add, Nat.add_zero] at hf
  have hk := lexO_ok (off := off) (L := L.take (tokN L)) (by rw [hf]; exact he)
  rw [hd, hs, c1, Nat.zero_add, List.drop_of_length_le (by rw [List.length_take]; omega), hf, lexO_none (L := []) (by rw [firstS_nil]), if_pos rfl] at hk
  rw [hk]
theorem runs_next {L : List UInt8} (h : (dec L).2.2 = 0) (h2 : (runs (L.drop (dec L).2.1)).2 = 0) : (runs L).2 = 0 := by
  rw [runs_ok (L := L) (r := (dec L).1) (n := (dec L).2.1) (by rw [← h])]; exact h2
theorem runs_run (p : Int → Bool) : ∀ (f : Nat) (L : List UInt8), L.length ≤ f → (runs (L.drop (runN p L))).2 = 0 → (runs L).2 = 0 := by
  intro f
  induction f with
  | zero =>
    intro L h _
    obtain rfl : L = [] := List.eq_nil_of_length_eq_zero (by omega)
    rfl
  | succ f ih =>
    intro L h h2
    by_cases hp : (dec L).2.2 = 0 ∧ p (dec L).1 = true
    · rw [runN_step hp.1 hp.2, ← List.drop_drop] at h2
      have := dec_wd hp.1
      exact runs_next hp.1 (ih _ (by rw [List.length_drop]; omega) h2)
    · rw [runN_stop hp, List.drop_zero] at h2; exact h2
theorem runs_sp : ∀ (f : Nat) (L : List UInt8), L.length ≤ f → (runs (L.drop (spN L))).2 = 0 → (runs L).2 = 0 := by
  intro f
  induction f with
  | zero =>
    intro L h _
    obtain rfl : L = [] := List.eq_nil_of_length_eq_zero (by omega)
    rfl
  | succ f ih =>
    intro L h h2
    by_cases h1 : (clsP L).1 = 1
    · obtain ⟨c1, c2⟩ := clsP_in (L := L) (by omega)
      have hw := dec_wd c1
      have e2 : (clsP L).2 = (dec L).2.1 := by rw [c2]
      rw [spN_space h1, e2, ← List.drop_drop] at h2
      exact runs_next c1 (ih _ (by rw [List.length_drop]; omega) h2)
    · by_cases h6 : (clsP L).1 = 6
      · obtain ⟨c1, c2⟩ := clsP_in (L := L) (by omega)
        have hw := dec_wd c1
        have e2 : (clsP L).2 = (dec L).2.1 := by rw [c2]
        rw [spN_semi h6, e2, ← List.drop_drop, ← List.drop_drop, ← List.drop_drop] at h2
        refine runs_next c1 (runs_run notLf _ _ (Nat.le_refl _) ?_)
        refine ih _ (by rw [List.length_drop, List.length_drop]; omega) ?_
        exact h2
      · rw [spN_stop h1 h6, List.drop_zero] at h2; exact h2
theorem runs_tok {L : List UInt8} (hL : L ≠ []) (he : (tokT L).2.2.2 = 0) (h2 : (runs (L.drop (tokN L))).2 = 0) : (runs L).2 = 0 := by
  have word : ∀ {M : List UInt8}, (runs (M.drop (wordN M))).2 = 0 → (runs M).2 = 0 := fun {M} h => runs_run isWr _ M (Nat.le_refl _) h
  by_cases hw : isWc (clsP L).1 = true
  · rw [(tok_word hw).1] at h2; exact word h2
  have hw' : isWc (clsP L).1 = false := by simpa using hw
  by_cases h10 : (dec L).2.2 = 0
  · have e2 : (clsP L).2 = (dec L).2.1 := by rw [clsP_ok h10]
    by_cases h5 : (clsP L).1 = 5
    · unfold tokN at h2
      rw [if_neg hw, if_pos h5, e2] at h2
      refine runs_next h10 ?_
      by_cases h59 : (L.drop (dec L).2.1).head? = some 59
      · rw [if_pos h59, ← List.drop_drop] at h2
        cases hq : L.drop (dec L).2.1 with
        | nil => rfl
        | cons a r =>
          rw [hq] at h59 h2
          obtain rfl : a = 59 := by simpa using h59
          have hd : dec (59 :: r) = (59, 1, 0) := by
            have := clsP_in (L := 59 :: r) (by rw [cls_59]; decide)
            obtain ⟨c, t, e, h1⟩ := dec_head this.1
            obtain ⟨rfl, rfl⟩ := List.cons.inj e
            rcases h1 with h1 | h1
            · exact h1.2
            · exact absurd h1.1 (by decide)
          refine runs_next (by rw [hd]) ?_
          rw [hd]; exact h2
      · rw [if_neg h59, ← List.drop_drop] at h2
        exact word h2
    · rw [tokN_else hw' h5, e2] at h2
      exact runs_next h10 h2
  · exfalso
    have hc := clsP_no h10
    have := (tok_other hL hw' (by rw [hc]; decide) (by rw [hc]; decide) (by rw [hc]; decide) (by rw [hc]; decide)).2
    rw [this] at he; exact absurd he (by decide)
theorem lex_runs : ∀ (f off : Nat) (L : List UInt8), L.length ≤ f → (lexO off L).2.2 = 0 → (runs L).2 = 0 := by
  intro f
  induction f with
  | zero =>
    intro off L h _
    obtain rfl : L = [] := List.eq_nil_of_length_eq_zero (by omega)
    rfl
  | succ f ih =>
    intro off L h he
    by_cases hne : L.drop (spN L) = []
    · exact runs_sp _ L (Nat.le_refl _) (by rw [hne]; rfl)
    have h4 : (firstS off L).2 ≠ 4 := fun e => hne (firstS_none.1 e)
    by_cases h0 : (firstS off L).2 = 0
    · have hst := stepN_le hne
      have hp := firstS_pos (off := off) hne
      have hk := lexO_ok h0
      have h2 : (lexO (off + (spN L + tokN (L.drop (spN L)))) (L.drop (spN L + tokN (L.drop (spN L))))).2.2 = 0 := by
        by_cases h : (lexO (off + (spN L + tokN (L.drop (spN L)))) (L.drop (spN L + tokN (L.drop (spN L))))).2.2 = 0
        · exact h
        · rw [if_neg h] at hk; rw [hk] at he; exact he
      have h3 := ih _ _ (by rw [List.length_drop]; omega) h2
      rw [← List.drop_drop] at h3
      rw [hp] at h0
      exact runs_sp _ L (Nat.le_refl _) (runs_tok hne h0 h3)
    · rw [lexO_bad h4 h0] at he; exact absurd he h0
theorem lat_no {c : UInt8} (h : ub c < 128 ∨ 194 ≤ ub c) : latB (ub c) = false := by
  unfold latB; rw [decide_eq_false_iff_not]; omega
theorem on_true {L : List UInt8} {p off : Nat} (h8 : L.length ≤ 8000) (hr : (runs L).2 = 0) (hp : p ≤ L.length) (he : (lexO off (L.drop p)).2.2 = 0) : onV L (p : Int) = .tuple #[.bool true, .int .i64 0] := by
  have hc : (chkS L).2 = 0 := by unfold chkS; rw [if_neg (by omega)]; exact hr
  have hb : bkGo L p = p := by
    cases p with
    | zero => rfl
    | succ k =>
      by_cases hne : L.drop (k + 1) = []
      · have hlen : L.length = k + 1 := by
          have := congrArg List.length hne
          rw [List.length_drop, List.length_nil] at this; omega
        exact bk_none (List.getElem?_eq_none (by omega))
      · obtain ⟨c, t, e, h1⟩ := head_start (lex_head hne he)
        have hg : L[k + 1]? = some c := by
          have : (L.drop (k + 1))[0]? = some c := by rw [e]; rfl
          rw [List.getElem?_drop] at this; simpa using this
        exact bk_not hg (lat_no h1)
  have hB : backS L (p : Int) = ((p : Int), 0) := by
    unfold backS
    rw [if_neg (by rw [hc]; simp), if_neg (by omega), Int.toNat_natCast, hb]
  unfold onV onS
  rw [hB]; simp
def Rest (l : List Tok) (b : List UInt8) (k p : Nat) : Prop :=
  p ≤ b.length ∧ (lexO p (b.drop p)).1 = l.drop k ∧ (lexO p (b.drop p)).2.2 = 0 ∧ fromK l k = (p : Int)
theorem rest_first {off : Nat} {L : List UInt8} (he : (lexO off L).2.2 = 0) (hne : L.drop (spN L) ≠ []) :
    (tokT (L.drop (spN L))).2.2.2 = 0 ∧ (lexO (off + (spN L + tokN (L.drop (spN L)))) (L.drop (spN L + tokN (L.drop (spN L))))).2.2 = 0 ∧ lexO off L = ((firstS off L).1 :: (lexO (off + (spN L + tokN (L.drop (spN L)))) (L.drop (spN L + tokN (L.drop (spN L))))).1, (0, 0), 0) := by
  have h4 : (firstS off L).2 ≠ 4 := fun e => hne (firstS_none.1 e)
  have h0 : (firstS off L).2 = 0 := by
    by_cases h : (firstS off L).2 = 0
    · exact h
    · rw [lexO_bad h4 h] at he; exact absurd he h
  have hk := lexO_ok h0
  have h2 : (lexO (off + (spN L + tokN (L.drop (spN L)))) (L.drop (spN L + tokN (L.drop (spN L))))).2.2 = 0 := by
    by_cases h : (lexO (off + (spN L + tokN (L.drop (spN L)))) (L.drop (spN L + tokN (L.drop (spN L))))).2.2 = 0
    · exact h
    · rw [if_neg h] at hk; rw [hk] at he; exact absurd he h
  rw [if_pos h2] at hk
  exact ⟨by rw [firstS_pos hne] at h0; exact h0, h2, hk⟩
theorem rest_step {l : List Tok} {b : List UInt8} {k p : Nat} {t : Tok} (h : Rest l b k p) (ht : l[k]? = some t) :
    ∃ q r : Nat, p ≤ q ∧ q < r ∧ r ≤ b.length ∧ headK l k = (q : Int) ∧ t.2.1 = (q : Int) ∧ t.2.2.1 = (r : Int) ∧ q = p + spN (b.drop p) ∧ r = q + tokN (b.drop q) ∧ b.drop q ≠ [] ∧ Rest l b (k + 1) r := by
  obtain ⟨hp, h1, h2, h3⟩ := h
  obtain ⟨hk, ek⟩ := List.getElem?_eq_some_iff.1 ht
  have hd : l.drop k = t :: l.drop (k + 1) := by rw [List.drop_eq_getElem_cons hk, ek]
  obtain ⟨L, hL⟩ : ∃ L, b.drop p = L := ⟨_, rfl⟩
  have hLl : L.length = b.length - p := by rw [← hL, List.length_drop]
  rw [hL] at h1 h2 ⊢
  have hne : L.drop (spN L) ≠ [] := by
    intro e
    rw [lexO_none (firstS_none.2 e), hd] at h1; cases h1
  obtain ⟨g1, g2, g3⟩ := rest_first h2 hne
  have hst := stepN_le hne
  have hpos := tokN_pos (L.drop (spN L))
  have hM : b.drop (p + spN L) = L.drop (spN L) := by rw [← List.drop_drop, hL]
  rw [g3, firstS_pos hne, hd] at h1
  simp only [List.cons.injEq] at h1
  obtain ⟨e1, e2⟩ := h1
  refine ⟨p + spN L, p + (spN L + tokN (L.drop (spN L))), by omega, by omega, by omega, ?_, by rw [← e1], by rw [← e1], rfl, by rw [hM]; omega, by rw [hM]; exact hne, by omega, ?_, ?_, ?_⟩
  · unfold headK; rw [ht, ← e1]; rfl
  · rw [show b.drop (p + (spN L + tokN (L.drop (spN L)))) = L.drop (spN L + tokN (L.drop (spN L))) by rw [← List.drop_drop, hL]]; exact e2
  · rw [show b.drop (p + (spN L + tokN (L.drop (spN L)))) = L.drop (spN L + tokN (L.drop (spN L))) by rw [← List.drop_drop, hL]]; exact g2
  · show ((l[k]?).map (·.2.2.1)).getD 0 = _
    rw [ht, ← e1]; rfl
theorem rest_end {l : List Tok} {b : List UInt8} {p : Nat} (h : Rest l b l.length p) : (b.drop p).drop (spN (b.drop p)) = [] := by
  obtain ⟨hp, h1, h2, h3⟩ := h
  by_cases hne : (b.drop p).drop (spN (b.drop p)) = []
  · exact hne
  · obtain ⟨g1, g2, g3⟩ := rest_first h2 hne
    rw [g3, List.drop_length] at h1; cases h1
theorem rest_0 {b : List UInt8} (h8 : b.length ≤ 8000) (h : (lexS b).2.2 = 0) : Rest (lexS b).1 b 0 0 := by
  have e : lexS b = lexO 0 b := by unfold lexS; rw [if_neg (by omega)]
  rw [e] at h ⊢
  exact ⟨Nat.zero_le _, rfl, h, rfl⟩
theorem lexS_few {L : List UInt8} (h : L.length ≤ 8000) : lexS L = lexO 0 L := by unfold lexS; rw [if_neg (by omega)]
theorem seg_len5 (b : List UInt8) (p q : Nat) : (seg b p q).length ≤ b.length := by
  unfold seg; rw [List.length_take, List.length_drop]; omega
theorem gap_alone {b : List UInt8} {p q : Nat} (hb : b.length ≤ 300) (hq : q = p + spN (b.drop p)) : lexS (seg b p q) = ([], (0, 0), 0) := by
  rw [lexS_few (by have := seg_len5 b p q; omega)]
  have := gap_first 0 (b.drop p)
  rw [show seg b p q = (b.drop p).take (spN (b.drop p)) by unfold seg; rw [hq, Nat.add_sub_cancel_left]]
  exact this
theorem last_alone {b : List UInt8} {p : Nat} (hb : b.length ≤ 300) (he : (b.drop p).drop (spN (b.drop p)) = []) : lexS (seg b p b.length) = ([], (0, 0), 0) := by
  have e : seg b p b.length = b.drop p := by unfold seg; exact List.take_of_length_le (by rw [List.length_drop]; exact Nat.le_refl _)
  rw [e, lexS_few (by rw [List.length_drop]; omega)]
  exact lexO_none (firstS_none.2 he)
theorem one_alone {l : List Tok} {b : List UInt8} {k p q r : Nat} {t : Tok} (hb : b.length ≤ 300) (h : Rest l b k p) (ht : l[k]? = some t)
    (hq : q = p + spN (b.drop p)) (hr : r = q + tokN (b.drop q)) (hne : b.drop q ≠ []) (h2 : Rest l b (k + 1) r) :
    (∃ u : Tok, lexS (seg b q r) = ([u], (0, 0), 0) ∧ bareT u = bareT t) ∧ (lexO q (b.drop q)).2.2 = 0 := by
  obtain ⟨hp, h1, he, h3⟩ := h
  obtain ⟨hk, ek⟩ := List.getElem?_eq_some_iff.1 ht
  have hd : l.drop k = t :: l.drop (k + 1) := by rw [List.drop_eq_getElem_cons hk, ek]
  obtain ⟨L, hL⟩ : ∃ L, b.drop p = L := ⟨_, rfl⟩
  have hM : b.drop q = L.drop (spN L) := by rw [hq, hL, ← List.drop_drop, hL]
  rw [hL] at h1 he
  obtain ⟨g1, g2, g3⟩ := rest_first he (by rw [← hM]; exact hne)
  rw [g3, firstS_pos (by rw [← hM]; exact hne), hd] at h1
  simp only [List.cons.injEq] at h1
  obtain ⟨e1, _⟩ := h1
  rw [← hM] at g1 e1
  have h0 : spN (b.drop q) = 0 := by rw [hM]; exact spN_drop L
  constructor
  · have ha := tok_alone 0 hne h0 g1
    rw [show seg b q r = (b.drop q).take (tokN (b.drop q)) by unfold seg; rw [hr, Nat.add_sub_cancel_left]]
    rw [lexS_few (by rw [List.length_take, List.length_drop]; omega), ha]
    exact ⟨_, rfl, by rw [← e1]; rfl⟩
  · have hd0 : (b.drop q).drop (spN (b.drop q)) = b.drop q := by rw [h0, List.drop_zero]
    have hf := firstS_pos (off := q) (L := b.drop q) (by rw [hd0]; exact hne)
    rw [hd0] at hf
    have hk2 := lexO_ok (off := q) (L := b.drop q) (by rw [hf]; exact g1)
    rw [hd0, h0, Nat.zero_add, ← hr, List.drop_drop, ← hr] at hk2
    rw [hk2, if_pos h2.2.2.1]
theorem on_at {b : List UInt8} {p off : Nat} (hb : b.length ≤ 300) (h : (lexS b).2.2 = 0) (hp : p ≤ b.length) (he : (lexO off (b.drop p)).2.2 = 0) : onV b (p : Int) = .tuple #[.bool true, .int .i64 0] := by
  rw [lexS_few (by omega)] at h
  exact on_true (by omega) (lex_runs _ 0 b (Nat.le_refl _) h) hp he
theorem tok_ck {b : List UInt8} (hb : b.length ≤ 300) {t : Tok} (ht : t ∈ (lexS b).1) : ckT t.1 t.2.2.2.1 t.2.2.2.2 = 0 ∧ fits t.2.2.2.1 ∧ t.2.2.2.2.length ≤ 24 := by
  rw [lexS_few (by omega)] at ht
  exact (lex_good _ 0 b (Nat.le_refl _)).2 t ht
end Go.Proofs.YtcnekeahlcbflaaDoor
