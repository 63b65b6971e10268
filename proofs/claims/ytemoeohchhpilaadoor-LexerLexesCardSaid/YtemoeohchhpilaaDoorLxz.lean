/- Lxz: what LcardLx want of Llt Ld Le Ldt Lu Lsame Lbm Lgap Lsg Lsamt Lxc Lxd Lxe Lxf Lxg. -/
import Derived.Test.YtemoeohchhpilaaDoorLnx
import Derived.RegionTactic
import Derived.ChangeAlike
import Derived.BigRegion
import Derived.Test.YtemoeohchhpilaaDoorLxca
import Derived.Test.YtemoeohchhpilaaDoorLxch
import Derived.Test.YtemoeohchhpilaaDoorLxc7
namespace Go.Proofs.YtemoeohchhpilaaDoor
open Go.ChangeAt Go.ChangeShapes Go.Deep Go.PlainAid Go.RowKit Go.WideShapes

theorem arg_form {w : World} {v : Value} {l : List UInt8} (h : ArgAt w v (l.map bc)) : ∃ a n c, v = .slice a n c ∧ l.length = n ∧ n ≤ c ∧ BytesAt w (.slice a n c) l := by
  have hr := h.row
  obtain ⟨a, n, c, rfl, hn, hc, _⟩ := h
  exact ⟨a, n, c, rfl, by rw [hn, List.length_map], hc, hr⟩
theorem bothL1 (w : World) (c : Array Value) (t : TypeId) (p : Obj) : ((w.alloc (.cells c t)).alloc p).drew.heap[w.heap.size]? = some (.cells c t (0, 0)) := by
  show ((w.alloc (.cells c t)).alloc p).heap[w.heap.size]? = _
  rw [Below.heap_alloc _ _ _ (by simp), World.alloc_heap_new]
theorem bothL2 (w : World) (c : Array Value) (t : TypeId) (p : Obj) : ((w.alloc p).alloc (.cells c t)).drew.heap[w.heap.size + 1]? = some (.cells c t (0, 0)) := by
  show ((w.alloc p).alloc (.cells c t)).heap[w.heap.size + 1]? = _
  have := World.alloc_heap_new (w.alloc p) (.cells c t)
  rw [World.size_alloc] at this; exact this
theorem bothL_below {B : Nat} {w W : World} (h : Below B w W) (hB : B ≤ W.heap.size) (p q : Obj) : Below B w ((W.alloc p).alloc q).drew := ((h.alloc hB p).alloc (by simp only [World.size_alloc]; omega) q).drew
theorem mk_ok {y : List UInt8} (h : (mkT y).2.2.2 = 0) : mkT y ∈ [((1 : Int), (1 : Int), ([] : List UInt8), (0 : Int)), (1, 2, [], 0), (2, 1, [], 0), (2, 2, [], 0), (3, 0, [], 0), (4, 0, [], 0), (6, 0, [], 0), (6, 1, [], 0)] := by
  unfold mkT marksS at *
  simp only [mkGo] at *
  (repeat' split) <;> simp_all
theorem mk_good : ∀ r ∈ [((1 : Int), (1 : Int), ([] : List UInt8), (0 : Int)), (1, 2, [], 0), (2, 1, [], 0), (2, 2, [], 0), (3, 0, [], 0), (4, 0, [], 0), (6, 0, [], 0), (6, 1, [], 0)], ckT r.1 r.2.1 r.2.2.1 = 0 ∧ fits r.2.1 ∧ r.2.2.1.length ≤ 24 := by
  have : ∀ r ∈ [((1 : Int), (1 : Int), ([] : List UInt8), (0 : Int)), (1, 2, [], 0), (2, 1, [], 0), (2, 2, [], 0), (3, 0, [], 0), (4, 0, [], 0), (6, 0, [], 0), (6, 1, [], 0)], decide (ckT r.1 r.2.1 r.2.2.1 = 0 ∧ fits r.2.1 ∧ r.2.2.1.length ≤ 24) = true := by decide +kernel
  exact fun r hr => of_decide_eq_true (this r hr)
theorem tok_good {L : List UInt8} (hL : L ≠ []) (h : (tokT L).2.2.2 = 0) : ckT (tokT L).1 (tokT L).2.1 (tokT L).2.2.1 = 0 ∧ fits (tokT L).2.1 ∧ (tokT L).2.2.1.length ≤ 24 := by
  cases hc : isWc (clsP L).1
  · have e := tokT_else hc
    rw [e] at h ⊢
    exact mk_good _ (mk_ok h)
  · obtain ⟨h1, h2, h3⟩ := tok_word hc
    have hp := tokN_pos L
    have hl := tokN_le hL
    have hlen : (L.take (wordN L)).length = wordN L := by rw [List.length_take]; omega
    have hw : wordN (L.take (wordN L)) = wordN L := run_cut isWr _ L (wordN L) (Nat.le_refl _) (Nat.le_refl _)
    obtain ⟨y, hy⟩ : ∃ y, L.take (wordN L) = y := ⟨_, rfl⟩
    rw [hy] at h2 hlen hw
    rw [h2] at h ⊢
    have hy0 : y ≠ [] := by rintro rfl; simp at hlen; omega
    unfold wordT at h ⊢
    by_cases h0 : (intE y).2 = 0
    · rw [if_pos h0]
      have hf : fits (intE y).1 := by
        unfold intE at h0 ⊢
        split at h0
        · rename_i hb
          rw [if_pos hb]
          split at h0
          · rename_i hf; rw [if_pos hf]; exact hf
          · simp at h0
        · simp at h0
      refine ⟨?_, hf, by simp⟩
      show ckT 5 (intE y).1 [] = 0
      rw [ck_else (by rw [kd_z (by omega)]; rfl) (by omega)]
      have e : txT 5 (intE y).1 [] = Lib.itoa (intE y).1 := by unfold txT; rw [if_pos rfl]
      rw [e, if_neg (itoa_ne _)]
    · rw [if_neg h0] at h ⊢
      by_cases h7 : (intE y).2 = 7
      · rw [if_pos h7] at h; simp at h
      · rw [if_neg h7] at h ⊢
        by_cases h24 : 24 < y.length
        · rw [if_pos h24] at h; simp at h
        · rw [if_neg h24]
          have hb : intB y = false := by
            cases hb : intB y
            · rfl
            · exfalso; unfold intE at h0 h7; rw [if_pos hb] at h0 h7
              split at h0
              · simp at h0
              · rename_i hf; rw [if_neg hf] at h7; simp at h7
          have hs : symL y = true := by
            rw [symL_else hy0 (by omega) hb]; exact decide_eq_true (by omega)
          refine ⟨?_, by show fits 0; unfold fits; omega, by show y.length ≤ 24; omega⟩
          show ckT 7 0 y = 0
          rw [ck_7, if_pos hs]
theorem lex_good : ∀ (f off : Nat) (L : List UInt8), L.length ≤ f → (lexO off L).1.length ≤ L.length ∧ ∀ t ∈ (lexO off L).1, ck t = 0 ∧ fits t.2.2.2.1 ∧ t.2.2.2.2.length ≤ 24 := by
  intro f
  induction f with
  | zero =>
    intro off L h
    obtain rfl : L = [] := List.eq_nil_of_length_eq_zero (by omega)
    rw [lexO_none (by rw [firstS_nil])]
    exact ⟨Nat.le_refl _, fun t ht => by cases ht⟩
  | succ f ih =>
    intro off L h
    by_cases h4 : (firstS off L).2 = 4
    · rw [lexO_none h4]; exact ⟨Nat.zero_le _, fun t ht => by cases ht⟩
    have hne : L.drop (spN L) ≠ [] := fun e => h4 (firstS_none.2 e)
    by_cases h0 : (firstS off L).2 = 0
    · have hst := stepN_le hne
      obtain ⟨i1, i2⟩ := ih (off + (spN L + tokN (L.drop (spN L)))) (L.drop (spN L + tokN (L.drop (spN L)))) (by rw [List.length_drop]; omega)
      have hp := firstS_pos (off := off) hne
      rw [List.length_drop] at i1
      rw [lexO_ok h0]
      by_cases h2 : (lexO (off + (spN L + tokN (L.drop (spN L)))) (L.drop (spN L + tokN (L.drop (spN L))))).2.2 = 0
      · rw [if_pos h2]
        refine ⟨by simp only [List.length_cons]; omega, fun t ht => ?_⟩
        rcases List.mem_cons.1 ht with rfl | ht
        · rw [hp] at h0 ⊢
          exact tok_good hne h0
        · exact i2 t ht
      · rw [if_neg h2]
        exact ⟨by omega, i2⟩
    · rw [lexO_bad h4 h0]; exact ⟨Nat.zero_le _, fun t ht => by cases ht⟩
def gcs (l : List (Int × Int)) : List Value := l.flatMap fun s => [.int .i64 s.1, .int .i64 s.2]
theorem gcs_app (a b : List (Int × Int)) : gcs (a ++ b) = gcs a ++ gcs b := List.flatMap_append
theorem gcs_one (x y : Int) : gcs [(x, y)] = [.int .i64 x, .int .i64 y] := rfl
def fromK (l : List Tok) : Nat → Int
  | 0 => 0
  | k + 1 => ((l[k]?).map (·.2.2.1)).getD 0
def headK (l : List Tok) (k : Nat) : Int := ((l[k]?).map (·.2.1)).getD 0
def gU (l : List Tok) : Nat → List (Int × Int)
  | 0 => []
  | k + 1 => gU l k ++ [(fromK l k, headK l k)]
theorem gU_len (l : List Tok) : ∀ k, (gU l k).length = k := by
  intro k
  induction k with
  | zero => rfl
  | succ k ih => rw [gU, List.length_append, ih]; rfl
def gapsS (b : List UInt8) : List (Int × Int) := if (lexS b).2.2 ≠ 0 then [] else gU (lexS b).1 (lexS b).1.length ++ [(fromK (lexS b).1 (lexS b).1.length, (b.length : Int))]
theorem lex_len (b : List UInt8) : (lexS b).1.length ≤ b.length := by
  unfold lexS; split
  · exact Nat.zero_le _
  · exact (lex_good _ 0 b (Nat.le_refl _)).1
def zeroSpL : Value := .agg #[.int .i64 0, .int .i64 0]
theorem infoSpL : (Tryd.prog.info? 27).map (fun i => (i.zero, i.size, i.bytes)) = some (some zeroSpL, 2, 16) := by kernel_rfl
theorem one_two (x y : Int) : ∀ u ∈ ([.int .i64 x, .int .i64 y] : List Value), u.oneCell' = true := by
  intro u hu; simp at hu; rcases hu with rfl | rfl <;> rfl
set_option maxRecDepth 50000 in
set_option maxHeartbeats 6400000 in
theorem Gaps_any (a : Option Addr) (n c : Nat) (b : List UInt8) (w : World) (hv : BytesAt w (.slice a n c) b) (hcap : n ≤ c) (hl : n ≤ 1000000) (hn : b.length = n) (T : LTabs w) :
    Calls Tryd.prog 11 #[.slice a n c] w fun e w' => ∃ vg, e = .returned (.tuple #[vg, .int .i64 (lexS b).2.2]) ∧ Hid (w'.ownsRow w.heap.size 27 2 vg (gapsS b).length (gcs (gapsS b))) ∧ Below w.heap.size w w' := by
  obtain ⟨r, hr⟩ : ∃ r, lexS b = r := ⟨_, rfl⟩
  have hlen := lex_len b
  rw [hr] at hlen
  have HG0 : Hid (gapsS b = if r.2.2 ≠ 0 then [] else gU r.1 r.1.length ++ [(fromK r.1 r.1.length, (n : Int))]) := Lib.hid (by unfold gapsS; rw [hr, hn])
  obtain ⟨m, ⟨f1, f2⟩, fe⟩ := r
  have CL := Lib.hid (Lex_at hr m.length rfl a n c w hv hcap hl hn T)
  rw [hr]
  simp only at HG0 CL hlen ⊢
  obtain ⟨k1, hk1⟩ : ∃ k1, m.length = k1 := ⟨_, rfl⟩
  have HK := Lib.hid hk1
  rw [hk1] at HG0 CL hlen
  clear hv T hr hk1
  by_cases hfe : fe = 0
  · subst hfe
    have HG : Hid (gapsS b = gU m k1 ++ [(fromK m k1, (n : Int))]) := Lib.hid (by rw [HG0.out, if_neg (by simp)])
    clear HG0
    go_enter Tryd.func11, Tryd.ntmps11
    go_wp2_with fail
    refine CL.out.mono ?_
    rintro e w2 ⟨v1, cv1, rfl, ho, hb2⟩
    have HT1 := Lib.hid (tks_own ho.out HK.out)
    clear ho CL
    obtain ⟨Wb, hWb⟩ : ∃ Wb, Wb = w2.alloc (.cells #[.int .i64 f1, .int .i64 f2] 27) := ⟨_, rfl⟩
    have hBb : Below w.heap.size w Wb := by rw [hWb]; exact hb2.alloc hb2.size _
    have HTb : Hid (TksAt Wb (.slice v1 k1 cv1) m) := Lib.hid (by rw [hWb]; exact HT1.out.below (below_b1 _ _) (Nat.le_refl _))
    clear HT1
    go_wp2_with fail
    -- MARK1
    rw [← hWb]
    clear hWb
    go_loopw [7, 8, 22] (fun x7 x8 x22 wr => ∃ (k : Nat) (p : Int) (g : Option Addr) (cg : Nat), x7 = .slice g k cg ∧ x8 = .int .i64 p ∧ x22 = .int .i64 (k : Int) ∧ k ≤ k1 ∧ Hid (p = fromK m k) ∧ Hid (wr.ownsRow Wb.heap.size 27 2 (.slice g k cg) k (gcs (gU m k))) ∧ Below Wb.heap.size Wb wr) (fun _ _ x22 _ => k1 - (intOf x22).toNat)
    case atStart => exact ⟨0, 0, none, 0, rfl, rfl, rfl, Nat.zero_le _, Lib.hid rfl, Lib.hid (own_nil _ _ _ _), Below.refl _ _⟩
    case round =>
      obtain ⟨k, p, g, cg, rfl, rfl, rfl, hk, HP, HO, hb⟩ := hrel
      have hbw := hBb.trans (hb.mono hBb.size)
      have hk0 : (0 : Int) ≤ (k : Int) := Int.natCast_nonneg _
      obtain ⟨i0, hi, hz0, hz1, hz2⟩ := info_parts2 infoSpL
      by_cases hlt : k < k1
      · obtain ⟨t, ht⟩ : ∃ t, m[k]? = some t := ⟨_, List.getElem?_eq_getElem (by rw [HK.out]; exact hlt)⟩
        obtain ⟨gt, off, cc, hv, hg, hcl⟩ := (HTb.out.below hb (Nat.le_refl _)).some (by intro e; rw [e] at ht; cases ht)
        obtain ⟨rfl, hv2, rfl⟩ := Value.slice.inj hv
        obtain ⟨a0, a1, a2, a3, a4⟩ := tcs_at m ht
        have F : ∀ j u, (tcs m)[j]? = some u → wr.cell? ⟨gt, off + j, none⟩ = some u := hcl
        have c0 : wr.cell? ⟨gt, off + k * 5, none⟩ = _ := F _ _ a0
        have c1 : wr.cell? ⟨gt, off + k * 5 + 1, none⟩ = _ := F _ _ a1
        have c2 : wr.cell? ⟨gt, off + k * 5 + 2, none⟩ = _ := F _ _ a2
        have c3 : wr.cell? ⟨gt, off + k * 5 + 3, none⟩ = _ := F _ _ a3
        have c4 : wr.cell? ⟨gt, off + k * 5 + 4, none⟩ = _ := F _ _ a4
        obtain ⟨tk, tf, tt, tn, tx⟩ := t
        simp only at c0 c1 c2 c3 c4
        have HU : Hid (gU m (k + 1) = gU m k ++ [(p, tf)] ∧ fromK m (k + 1) = tt) := Lib.hid ⟨by rw [gU, HP.out, headK, ht]; rfl, by rw [fromK, ht]; rfl⟩
        obtain ⟨X, hX⟩ : ∃ X, str tx = X := ⟨_, rfl⟩
        rw [hX] at c4
        have d3 := World.alloc_heap_new wr (.cells #[.int .i64 tk, .int .i64 tf, .int .i64 tt, .int .i64 tn, .string X] 33)
        obtain ⟨⟨f0, f1', f2', f3, f4⟩, _⟩ := box5_facts d3
        have hk1 : (k : Int) < (k1 : Int) := by omega
        have hgs : gt < wr.heap.size := hg
        have HG2 : Hid (∀ o w3, ((wr.alloc (.cells #[.int .i64 tk, .int .i64 tf, .int .i64 tt, .int .i64 tn, .string X] 33)).alloc o).grownBy w3 (Value.slice g k cg).ownBlock → Below Wb.heap.size Wb w3 ∧ w3.cell? ⟨wr.heap.size, 2, none⟩ = some (.int .i64 tt)) := Lib.hid (by
          intro o w3 hg3
          have hne : some wr.heap.size ≠ (Value.slice g k cg).ownBlock := fun e => by have := (HO.out.lt _ e.symm).2; omega
          refine ⟨((hb.alloc hb.size _).alloc (by simp only [World.size_alloc]; have := hb.size; omega) o).grown hg3 (by simp only [World.size_alloc]; have := hb.size; omega) (fun q hq => (HO.out.lt _ hq).1), ?_⟩
          refine (hg3.cell_far ⟨wr.heap.size, 2, none⟩ (by simp only [World.size_alloc]; omega) hne).trans ?_
          exact (cell_old _ _ _ (by simp only [World.size_alloc]; omega)).trans f2')
        have HSz : Hid (∀ o o', Wb.heap.size ≤ ((wr.alloc o).alloc o').heap.size) := Lib.hid (fun o o' => by simp only [World.size_alloc]; have := hb.size; omega)
        clear hv hv2 hcl F a0 a1 a2 a3 a4 ht hX d3
        go_wp2_with (at_builtin; refine wpList_append_own _ rfl _ _ 36 rfl Wb.heap.size 27 i0 zeroSpL 2 16 Tryd.underlying36 hi hz0 hz1 hz2 rfl (by decide) _ _ _ rfl ((HO.out.alloc _).alloc _) ⟨wr.heap.size + 1, 0, none⟩ 1 1 [.int .i64 p, .int .i64 tf] rfl rfl (new_cellsT _ _ _ _ (by simp)) (one_two _ _) (by unfold maxLen; omega) (by omega) (HSz.out _ _) ?_; intro v3 w3 hown3 hgrow3 _; obtain ⟨b3, cb3, rfl⟩ := own_len hown3; obtain ⟨hVb, x2⟩ := HG2.out _ _ hgrow3)
        -- MARK2
        have HO3 : Hid (w3.ownsRow Wb.heap.size 27 2 (.slice b3 (k + 1) cb3) (k + 1) (gcs (gU m (k + 1)))) := Lib.hid (by rw [HU.out.1, gcs_app, gcs_one]; exact hown3)
        exact ⟨⟨k + 1, tt, b3, cb3, rfl, rfl, by go_num, by omega, Lib.hid HU.out.2.symm, HO3, hVb⟩, by simp [intOf]; omega⟩
      · obtain rfl : k = k1 := by omega
        have hd0 : decide ((k : Int) < (k : Int)) = false := decide_eq_false (Int.lt_irrefl _)
        have HSz : Hid (∀ o, Wb.heap.size ≤ (wr.alloc o).heap.size) := Lib.hid (fun o => by simp only [World.size_alloc]; have := hb.size; omega)
        have hbbs := hBb.size
        have HG2 : Hid (∀ o w3, (wr.alloc o).grownBy w3 (Value.slice g k cg).ownBlock → Below w.heap.size w w3) := Lib.hid (by
          intro o w3 hg3
          exact (hbw.alloc hbw.size o).grown hg3 (by simp only [World.size_alloc]; have := hbw.size; omega) (fun q hq => by have := (HO.out.lt _ hq).1; omega))
        go_wp2_with (at_builtin; refine wpList_append_own _ rfl _ _ 36 rfl Wb.heap.size 27 i0 zeroSpL 2 16 Tryd.underlying36 hi hz0 hz1 hz2 rfl (by decide) _ _ _ rfl (HO.out.alloc _) ⟨wr.heap.size, 0, none⟩ 1 1 [.int .i64 p, .int .i64 (n : Int)] rfl rfl (new_cellsT _ _ _ _ rfl) (one_two _ _) (by unfold maxLen; omega) (by omega) (HSz.out _) ?_; intro v3 w3 hown3 hgrow3 _; obtain ⟨b3, cb3, rfl⟩ := own_len hown3; have hVw := HG2.out _ _ hgrow3)
        -- MARK3
        have HO3 : Hid (w3.ownsRow w.heap.size 27 2 (.slice b3 (k + 1) cb3) (gapsS b).length (gcs (gapsS b))) := Lib.hid (by
          rw [HG.out, List.length_append, gU_len, gcs_app, ← HP.out, gcs_one]
          exact own_lower hown3 hbbs)
        go_ret2
        exact ⟨_, rfl, HO3, hVw⟩
  · have hne : (fe != 0) = true := bne_iff_ne.2 hfe
    have HG : Hid (gapsS b = []) := Lib.hid (by rw [HG0.out, if_pos hfe])
    clear HG0 hfe
    go_enter Tryd.func11, Tryd.ntmps11
    go_wp2_with fail
    refine CL.out.mono ?_
    rintro e w2 ⟨v1, cv1, rfl, ho, hb2⟩
    go_wp2_with fail
    -- MARK4
    go_ret2
    exact ⟨_, rfl, by rw [HG.out]; exact Lib.hid (own_nil _ _ _ _), hb2.alloc hb2.size _⟩
theorem gcs_cons (x : Int × Int) (l : List (Int × Int)) : gcs (x :: l) = .int .i64 x.1 :: .int .i64 x.2 :: gcs l := rfl
theorem gcs_at (l : List (Int × Int)) : ∀ {k : Nat} {x : Int × Int}, l[k]? = some x → (gcs l)[k * 2]? = some (.int .i64 x.1) ∧ (gcs l)[k * 2 + 1]? = some (.int .i64 x.2) := by
  induction l with
  | nil => intro k x h; simp at h
  | cons y l ih =>
    intro k x h
    rw [gcs_cons]
    cases k with
    | zero => simp at h; subst h; simp
    | succ k =>
      have := ih (k := k) (x := x) (by simpa using h)
      rw [show (k + 1) * 2 = k * 2 + 1 + 1 by omega]
      simpa using this
def GcsAt (w : World) (v : Value) (l : List (Int × Int)) : Prop :=
  (∃ a c, v = .slice a 0 c ∧ l = []) ∨ ∃ g off cap, v = .slice (some ⟨g, off, none⟩) l.length cap ∧ g < w.heap.size ∧ ∀ j u, (gcs l)[j]? = some u → w.cell? ⟨g, off + j, none⟩ = some u
theorem GcsAt.below {B : Nat} {w w' : World} {v : Value} {l : List (Int × Int)} (h : GcsAt w v l) (hb : Below B w w') (hB : w.heap.size ≤ B) : GcsAt w' v l := by
  rcases h with h | ⟨g, off, cap, e, hg, hc⟩
  · exact .inl h
  · exact .inr ⟨g, off, cap, e, Nat.lt_of_lt_of_le hg hb.size, fun j u hj => (hb.cell (p := ⟨g, off + j, none⟩) (by show g < B; omega)).trans (hc j u hj)⟩
theorem GcsAt.slice {w : World} {v : Value} {l : List (Int × Int)} (h : GcsAt w v l) : ∃ a c, v = .slice a l.length c := by
  rcases h with ⟨a, c, e, rfl⟩ | ⟨g, off, c, e, _⟩
  · exact ⟨_, _, e⟩
  · exact ⟨_, _, e⟩
theorem GcsAt.some {w : World} {v : Value} {l : List (Int × Int)} (h : GcsAt w v l) (hl : l ≠ []) : ∃ g off cap, v = .slice (some ⟨g, off, none⟩) l.length cap ∧ g < w.heap.size ∧ ∀ j u, (gcs l)[j]? = some u → w.cell? ⟨g, off + j, none⟩ = some u := by
  rcases h with ⟨a, c, e, rfl⟩ | h
  · exact absurd rfl hl
  · exact h
theorem gcs_own {w : World} {B n : Nat} {v : Value} {l : List (Int × Int)} (h : w.ownsRow B 27 2 v n (gcs l)) (hn : l.length = n) : GcsAt w v l := by
  rcases own_form h with ⟨rfl, h0⟩ | ⟨g, c, rfl, h1, h2⟩
  · exact .inl ⟨_, _, rfl, List.length_eq_zero_iff.1 (by omega)⟩
  · refine .inr ⟨g, 0, c, by rw [hn], h2, fun j u hj => ?_⟩
    have := h.cells (g := g) rfl j u hj
    rw [Go.WideShapes.add_plain] at this; exact this
set_option maxRecDepth 50000 in
set_option maxHeartbeats 1600000 in
theorem g3same_any (v v' : Value) (l : List (Int × Int)) (w : World) (h : GcsAt w v l) (h' : GcsAt w v' l) (hl : l.length ≤ 1000000) :
    Calls Tryd.prog 13 #[v, v'] w fun e w' => e = .returned (.bool true) ∧ Below w.heap.size w w' := by
  obtain ⟨a, c, hv⟩ := h.slice
  obtain ⟨a', c', hv'⟩ := h'.slice
  obtain ⟨n, hn⟩ : ∃ n, l.length = n := ⟨_, rfl⟩
  rw [hn] at hv hv'
  subst hv hv'
  have H := Lib.hid h
  have H' := Lib.hid h'
  have HN := Lib.hid hn
  have hnb : n ≤ 1000000 := by omega
  have hne : (((n : Int)) != (n : Int)) = false := by simp
  clear h h' hn hl
  go_enter Tryd.func13, Tryd.ntmps13
  go_wp2
  go_loopw [5] (fun i wr => ∃ k : Nat, k ≤ n ∧ i = .int .i64 k ∧ Below w.heap.size w wr) (fun i _ => n - (intOf i).toNat)
  case atStart => exact ⟨0, Nat.zero_le _, rfl, Below.refl _ _⟩
  case round =>
    obtain ⟨k, hk, rfl, hB⟩ := hrel
    by_cases hlt : k < n
    · obtain ⟨s, hs⟩ : ∃ s, l[k]? = some s := ⟨_, List.getElem?_eq_getElem (by rw [HN.out]; exact hlt)⟩
      obtain ⟨sa, sb⟩ := s
      obtain ⟨g, off, cc, hv, hg, hcl⟩ := (H.out.below hB (Nat.le_refl _)).some (by intro e; rw [e] at hs; cases hs)
      obtain ⟨g', off', cc', hv', hg', hcl'⟩ := (H'.out.below hB (Nat.le_refl _)).some (by intro e; rw [e] at hs; cases hs)
      obtain ⟨rfl, hv2, rfl⟩ := Value.slice.inj hv
      obtain ⟨rfl, hv3, rfl⟩ := Value.slice.inj hv'
      have d0 : wr.cell? ⟨g, off + k * 2, none⟩ = some (.int .i64 sa) := hcl _ _ (gcs_at l hs).1
      have d1 : wr.cell? ⟨g, off + k * 2 + 1, none⟩ = some (.int .i64 sb) := hcl _ _ (gcs_at l hs).2
      have d2 : wr.cell? ⟨g', off' + k * 2, none⟩ = some (.int .i64 sa) := hcl' _ _ (gcs_at l hs).1
      have d3 : wr.cell? ⟨g', off' + k * 2 + 1, none⟩ = some (.int .i64 sb) := hcl' _ _ (gcs_at l hs).2
      have hkm : (k : Int) < (n : Int) := by omega
      have hk0 : (0 : Int) ≤ (k : Int) := Int.natCast_nonneg _
      clear hcl hcl' hv hv' hv2 hv3 hs
      go_wp2
      go_quiet (fail)
      go_wp2
      exact ⟨⟨k + 1, by omega, by go_num, ⟨hB.os, hB.tape, hB.output, hB.size, hB.block⟩⟩, by simp [intOf]; omega⟩
    · obtain rfl : k = n := by omega
      go_wp2
      go_ret
      exact ⟨rfl, hB⟩
set_option maxRecDepth 50000 in
set_option maxHeartbeats 3200000 in
theorem SameT_any (v v' : Value) (l : List Tok) (w : World) (h : TksAt w v l) (h' : TksAt w v' l) (hl : l.length ≤ 1000000) :
    Calls Tryd.prog 8 #[v, v', .bool true] w fun e w' => e = .returned (.bool true) ∧ Below w.heap.size w w' := by
  obtain ⟨a, c, hv⟩ := h.slice
  obtain ⟨a', c', hv'⟩ := h'.slice
  obtain ⟨n, hn⟩ : ∃ n, l.length = n := ⟨_, rfl⟩
  rw [hn] at hv hv'
  subst hv hv'
  have H := Lib.hid h
  have H' := Lib.hid h'
  have HN := Lib.hid hn
  have hnb : n ≤ 1000000 := by omega
  have hne : (((n : Int)) != (n : Int)) = false := by simp
  clear h h' hn hl
  go_enter Tryd.func8, Tryd.ntmps8
  go_wp2_with fail
  go_loopw [7] (fun i wr => ∃ k : Nat, k ≤ n ∧ i = .int .i64 k ∧ Below w.heap.size w wr) (fun i _ => n - (intOf i).toNat)
  case atStart => exact ⟨0, Nat.zero_le _, rfl, Below.refl _ _⟩
  case round =>
    obtain ⟨k, hk, rfl, hB⟩ := hrel
    by_cases hlt : k < n
    · obtain ⟨s, hs⟩ : ∃ s, l[k]? = some s := ⟨_, List.getElem?_eq_getElem (by rw [HN.out]; exact hlt)⟩
      obtain ⟨sk, sf, st, sn, sx⟩ := s
      obtain ⟨g, off, cc, hv, hg, hcl⟩ := (H.out.below hB (Nat.le_refl _)).some (by intro e; rw [e] at hs; cases hs)
      obtain ⟨g', off', cc', hv', hg', hcl'⟩ := (H'.out.below hB (Nat.le_refl _)).some (by intro e; rw [e] at hs; cases hs)
      obtain ⟨rfl, hv2, rfl⟩ := Value.slice.inj hv
      obtain ⟨rfl, hv3, rfl⟩ := Value.slice.inj hv'
      have F : ∀ j u, (tcs l)[j]? = some u → wr.cell? ⟨g, off + j, none⟩ = some u := hcl
      have F' : ∀ j u, (tcs l)[j]? = some u → wr.cell? ⟨g', off' + j, none⟩ = some u := hcl'
      obtain ⟨a0, a1, a2, a3, a4⟩ := tcs_at l hs
      obtain ⟨b0, b1, b2, b3, b4⟩ := tcs_at l hs
      have c0 : wr.cell? ⟨g, off + k * 5, none⟩ = _ := F _ _ a0
      have c1 : wr.cell? ⟨g, off + k * 5 + 1, none⟩ = _ := F _ _ a1
      have c2 : wr.cell? ⟨g, off + k * 5 + 2, none⟩ = _ := F _ _ a2
      have c3 : wr.cell? ⟨g, off + k * 5 + 3, none⟩ = _ := F _ _ a3
      have c4 : wr.cell? ⟨g, off + k * 5 + 4, none⟩ = _ := F _ _ a4
      have d0 : wr.cell? ⟨g', off' + k * 5, none⟩ = _ := F' _ _ b0
      have d1 : wr.cell? ⟨g', off' + k * 5 + 1, none⟩ = _ := F' _ _ b1
      have d2 : wr.cell? ⟨g', off' + k * 5 + 2, none⟩ = _ := F' _ _ b2
      have d3 : wr.cell? ⟨g', off' + k * 5 + 3, none⟩ = _ := F' _ _ b3
      have d4 : wr.cell? ⟨g', off' + k * 5 + 4, none⟩ = _ := F' _ _ b4
      simp only at c0 c1 c2 c3 c4 d0 d1 d2 d3 d4
      obtain ⟨X, hX⟩ : ∃ X, str sx = X := ⟨_, rfl⟩
      rw [hX] at c4 d4
      have hkm : (k : Int) < (n : Int) := by omega
      have hk0 : (0 : Int) ≤ (k : Int) := Int.natCast_nonneg _
      have hBs := hB.size
      clear hcl hcl' hv hv' hv2 hv3 hs F F' a0 a1 a2 a3 a4 b0 b1 b2 b3 b4 hX
      go_upto_region 6 with (fail)
      -- MARK1
      go_cut [8, 9] (fun s8 s9 wx => ∃ pa pb, s8 = .pointer (some ⟨pa, 0, none⟩) ∧ s9 = .pointer (some ⟨pb, 0, none⟩) ∧ w.heap.size ≤ pa ∧ w.heap.size ≤ pb ∧ pa ≠ pb ∧ wx.heap[pa]? = some (.cells #[.int .i64 sk, .int .i64 sf, .int .i64 st, .int .i64 sn, .string X] 33 (0, 0)) ∧ wx.heap[pb]? = some (.cells #[.int .i64 sk, .int .i64 sf, .int .i64 st, .int .i64 sn, .string X] 33 (0, 0)) ∧ Below w.heap.size w wx)
      case first =>
        go_region
        all_goals go_wp2
        all_goals go_meet
        -- MARK2
        all_goals refine ⟨_, _, rfl, rfl, ?_, ?_, ?_, ?_, ?_, ?_⟩
        all_goals first
          | omega
          | exact bothL1 _ _ _ _
          | exact bothL2 _ _ _ _
          | exact bothL_below hB hBs _ _
      case rest =>
        obtain ⟨pa, pb, rfl, rfl, hpa, hpb, hab, ha, hb2, hBc⟩ := hcut
        obtain ⟨⟨t0, t1, t2, t3, t4⟩, u0, u1, u2, u3, u4⟩ := box5_facts ha
        obtain ⟨⟨q0, q1, q2, q3, q4⟩, v0, v1, v2, v3, v4⟩ := box5_facts hb2
        have hba : pb ≠ pa := fun e => hab e.symm
        have HA := Lib.hid ha
        have HBb := Lib.hid hb2
        have HBc := Lib.hid hBc
        clear ha hb2 hBc hB c0 c1 c2 c3 c4 d0 d1 d2 d3 d4
        go_wp2_with fail
        -- MARK4
        exact ⟨⟨k + 1, by omega, by go_num, HBc.out⟩, by simp [intOf]; omega⟩
    · obtain rfl : k = n := by omega
      go_wp2_with fail
      go_ret
      exact ⟨rfl, hB⟩
theorem rfirst_any (v : Value) (l : List UInt8) (m : Nat) (w : World) (h : ArgAt w v (l.map bc)) (hl : l.length ≤ 1000000) (hm : m < l.length) :
    Calls Tryd.prog 19 #[v, .int .i64 (m : Int)] w fun e w' => e = .returned (rfV m (l.drop m)) ∧ Below w.heap.size w w' := by
  by_cases h5 : clsL (l.drop m) = 5
  · exact rfirst_h v l m w h hl hm h5
  · cases hw : isWc (clsL (l.drop m))
    · exact rfirst_a v l m w h hl hm ⟨h5, hw⟩
    · rcases isWc_iff.1 hw with e | e | e
      · exact rfirst_9 v l m w h hl hm e
      · exact rfirst_7 v l m w h hl hm e
      · exact rfirst_8 v l m w h hl hm e
structure F2 (w W : World) : Prop where
  a : W.heap[w.heap.size]? = some (.cells #[.int .i64 0, .int .i64 0, .int .i64 0, .int .i64 0, .string ⟨#[]⟩] 33 (0, 0))
  b : W.heap[w.heap.size + 1]? = some (.cells #[.int .i64 0, .int .i64 0] 27 (0, 0))
  o : Below w.heap.size w W
theorem F2.on {w W W2 : World} (h : F2 w W) (hb : Below W.heap.size W W2) : F2 w W2 := by
  have h1 := (Array.getElem?_eq_some_iff.1 h.a).1
  have h2 := (Array.getElem?_eq_some_iff.1 h.b).1
  exact ⟨(hb.block _ h1).trans h.a, (hb.block _ h2).trans h.b, h.o.trans (hb.mono (by omega))⟩
theorem F2.facts {w W : World} (h : F2 w W) :
    ((W.cell? ⟨w.heap.size, 0, none⟩ = some (.int .i64 0) ∧ W.cell? ⟨w.heap.size, 1, none⟩ = some (.int .i64 0) ∧ W.cell? ⟨w.heap.size, 2, none⟩ = some (.int .i64 0) ∧ W.cell? ⟨w.heap.size, 3, none⟩ = some (.int .i64 0) ∧ W.cell? ⟨w.heap.size, 4, none⟩ = some (.string ⟨#[]⟩)) ∧
      (W.frozen? ⟨w.heap.size, 0, none⟩ = false ∧ W.frozen? ⟨w.heap.size, 1, none⟩ = false ∧ W.frozen? ⟨w.heap.size, 2, none⟩ = false ∧ W.frozen? ⟨w.heap.size, 3, none⟩ = false ∧ W.frozen? ⟨w.heap.size, 4, none⟩ = false)) ∧
    (W.cell? ⟨w.heap.size + 1, 0, none⟩ = some (.int .i64 0) ∧ W.cell? ⟨w.heap.size + 1, 1, none⟩ = some (.int .i64 0) ∧ W.frozen? ⟨w.heap.size + 1, 0, none⟩ = false ∧ W.frozen? ⟨w.heap.size + 1, 1, none⟩ = false) := ⟨box5_facts h.a, box2_all h.b⟩
theorem rfV_form (m : Nat) (M : List UInt8) : ∃ (tk tf tt tn : Int) (tx : List UInt8) (sf st e : Int), rfV m M = .tuple #[.agg #[.int .i64 tk, .int .i64 tf, .int .i64 tt, .int .i64 tn, .string (str tx)], .agg #[.int .i64 sf, .int .i64 st], .int .i64 e] := by
  unfold rfV; split
  · exact ⟨_, _, _, _, _, _, _, _, rfl⟩
  · exact ⟨0, 0, 0, 0, [], _, _, _, rfl⟩
set_option maxRecDepth 50000 in
set_option maxHeartbeats 6400000 in
theorem rNext_any (v : Value) (l : List UInt8) (k : Int) (w : World) (h : ArgAt w v (l.map bc)) (hl : l.length ≤ 1000000) :
    Calls Tryd.prog 10 #[v, .int .i64 k] w fun e w' => e = .returned (nxS l k) ∧ Below w.heap.size w w' := by
  have HS := Lib.hid (fun (k : Nat) (hk : k ≤ l.length) W (hW : Below w.heap.size w W) => rspaces_any v l k W (h.below hW (Nat.le_refl _)) hl hk)
  have HFi := Lib.hid (fun (m : Nat) (hm : m < l.length) W (hW : Below w.heap.size w W) => rfirst_any v l m W (h.below hW (Nat.le_refl _)) hl hm)
  obtain ⟨a, n, c, rfl, hn, hcap, _⟩ := h
  rw [List.length_map] at hn
  have HN := Lib.hid hn
  rw [← hn] at hl
  clear hn
  obtain ⟨W0, hW0⟩ : ∃ W0, W0 = (w.alloc (.cells #[.int .i64 0, .int .i64 0, .int .i64 0, .int .i64 0, .string ⟨#[]⟩] 33)).alloc (.cells #[.int .i64 0, .int .i64 0] 27) := ⟨_, rfl⟩
  have HF0 : Hid (F2 w W0) := Lib.hid (by
    obtain ⟨y1, y2, y3⟩ := two_newF (W := w) rfl #[.int .i64 0, .int .i64 0, .int .i64 0, .int .i64 0, .string ⟨#[]⟩] #[.int .i64 0, .int .i64 0] 33 27
    rw [hW0]; exact ⟨y1, y2, y3⟩)
  have HZ : Hid (W0.heap.size = w.heap.size + 2) := Lib.hid (by rw [hW0]; simp)

  have hAB : w.heap.size ≠ w.heap.size + 1 := by omega
  have hBA : w.heap.size + 1 ≠ w.heap.size := by omega
  go_enter Tryd.func10, Tryd.ntmps10
  go_upto_region 1 with (fail)
  -- MARK0
  rw [← hW0]
  clear hW0
  obtain ⟨⟨⟨a0, a1, a2, a3, a4⟩, a5, a6, a7, a8, a9⟩, q0, q1, q2, q3⟩ := HF0.out.facts
  by_cases h8 : 8000 < n
  · have HV : Hid (nxS l k = .tuple #[tokA (0, 0, 0, 0, []), .agg #[.int .i64 0, .int .i64 0], .int .i64 3]) := Lib.hid (nxS_long (by rw [← HN.out]; exact h8))
    have d1 : decide ((8000 : Int) < (n : Int)) = true := decide_eq_true (by omega)
    clear h8
    go_wp2_with fail
    -- MARK1
    (try simp only [Exit.inBlock, Exit.then])
    refine bodyPost_ret (results_boxTS rfl _ _ w.heap.size (w.heap.size + 1) _ _ _ _ _ _ _ _ _ rfl rfl ((two_other (W := five _ _ _ _ _ _ _) (by omega) _ _).trans (set_five _ _ _ _ _ HF0.out.a)) (set_both _ _ ((five_other (by omega) _ _ _ _ _).trans HF0.out.b))) rfl ?_
    exact ⟨by rw [HV.out]; rfl, below_two (below_five HF0.out.o (Nat.le_refl _) _ _ _ _ _) (by omega)⟩
  have HR := Lib.hid (fun h2 => nxS_out (l := l) (k := k) (by rw [← HN.out]; exact h8) h2)
  have HI := Lib.hid (fun (k : Nat) h2 => nxS_in (l := l) (k := k) (by rw [← HN.out]; exact h8) h2)
  have d1 : decide ((8000 : Int) < (n : Int)) = false := decide_eq_false (by omega)
  by_cases h0 : k < 0
  · have HV := Lib.hid (HR.out (.inl h0))
    have d2 : decide (k < 0) = true := decide_eq_true h0
    clear h0 h8 HI
    go_wp2_with fail
    -- MARK2
    (try simp only [Exit.inBlock, Exit.then])
    refine bodyPost_ret (results_boxTS rfl _ _ w.heap.size (w.heap.size + 1) _ _ _ _ _ _ _ _ _ rfl rfl ((two_other (W := five _ _ _ _ _ _ _) (by omega) _ _).trans (set_five _ _ _ _ _ HF0.out.a)) (set_both _ _ ((five_other (by omega) _ _ _ _ _).trans HF0.out.b))) rfl ?_
    exact ⟨by rw [HV.out]; rfl, below_two (below_five HF0.out.o (Nat.le_refl _) _ _ _ _ _) (by omega)⟩
  have d2 : decide (k < 0) = false := decide_eq_false h0
  by_cases h3 : (n : Int) < k
  · have HV := Lib.hid (HR.out (.inr (by rw [← HN.out]; exact h3)))
    have d3 : decide ((n : Int) < k) = true := decide_eq_true h3
    clear h0 h8 h3 HI
    go_wp2_with fail
    -- MARK3
    (try simp only [Exit.inBlock, Exit.then])
    refine bodyPost_ret (results_boxTS rfl _ _ w.heap.size (w.heap.size + 1) _ _ _ _ _ _ _ _ _ rfl rfl ((two_other (W := five _ _ _ _ _ _ _) (by omega) _ _).trans (set_five _ _ _ _ _ HF0.out.a)) (set_both _ _ ((five_other (by omega) _ _ _ _ _).trans HF0.out.b))) rfl ?_
    exact ⟨by rw [HV.out]; rfl, below_two (below_five HF0.out.o (Nat.le_refl _) _ _ _ _ _) (by omega)⟩
  have d3 : decide ((n : Int) < k) = false := decide_eq_false h3
  obtain ⟨k, rfl⟩ : ∃ j : Nat, k = (j : Int) := ⟨k.toNat, by omega⟩
  have hk : k ≤ l.length := by rw [← HN.out]; omega
  have HV := Lib.hid (HI.out k hk)
  have C := Lib.hid (HS.out k hk W0 HF0.out.o)
  have hk0 : (0 : Int) ≤ (k : Int) := Int.natCast_nonneg _
  have hkn : ¬ (n < k) := by omega
  have hml : k + spN (l.drop k) ≤ n := by have := spN_le (l.drop k); rw [List.length_drop, ← HN.out] at this; rw [← HN.out] at hk; omega
  obtain ⟨m, hm⟩ : ∃ m, k + spN (l.drop k) = m := ⟨_, rfl⟩
  rw [hm] at C hml
  have HM := Lib.hid hm
  clear h0 h8 h3 HI HR HS hm hk
  clear a0 a1 a2 a3 a4 a5 a6 a7 a8 a9 q0 q1 q2 q3
  go_wp2_with fail
  -- MARK4
  refine C.out.mono ?_
  rintro e w1 ⟨rfl, hb1⟩
  have HF1 := Lib.hid (HF0.out.on hb1)
  clear C hb1
  obtain ⟨⟨⟨a0, a1, a2, a3, a4⟩, a5, a6, a7, a8, a9⟩, q0, q1, q2, q3⟩ := HF1.out.facts
  by_cases hmn : m = n
  · subst hmn
    have HV2 : Hid (nxS l (k : Int) = .tuple #[tokA (0, 0, 0, 0, []), .agg #[.int .i64 0, .int .i64 0], .int .i64 4]) := Lib.hid (by rw [HV.out]; exact nx_none (by rw [HM.out, HN.out]; exact Nat.le_refl _))
    go_wp2_with fail
    -- MARK5
    (try simp only [Exit.inBlock, Exit.then])
    refine bodyPost_ret (results_boxTS rfl _ _ w.heap.size (w.heap.size + 1) _ _ _ _ _ _ _ _ _ rfl rfl ((two_other (W := five _ _ _ _ _ _ _) (by omega) _ _).trans (set_five _ _ _ _ _ HF1.out.a)) (set_both _ _ ((five_other (by omega) _ _ _ _ _).trans HF1.out.b))) rfl ?_
    exact ⟨by rw [HV2.out]; rfl, below_two (below_five HF1.out.o (Nat.le_refl _) _ _ _ _ _) (by omega)⟩
  have e1 : ((m : Int) == (n : Int)) = false := beq_eq_false_iff_ne.2 (by omega)
  have hlt : m < l.length := by rw [← HN.out]; omega
  have HV2 : Hid (nxS l (k : Int) = rfV m (l.drop m)) := Lib.hid (by rw [HV.out]; exact nx_first HM.out (drop_ne hlt))
  have C := HFi.out m hlt w1 HF1.out.o
  obtain ⟨tk, tf, tt, tn, tx, sf, st, er, hr⟩ := rfV_form m (l.drop m)
  rw [hr] at C
  have HV3 : Hid (nxS l (k : Int) = _) := Lib.hid (HV2.out.trans hr)
  have HC := Lib.hid C
  clear C hr HV HV2 HFi
  clear a0 a1 a2 a3 a4 a5 a6 a7 a8 a9 q0 q1 q2 q3
  go_wp2_with fail
  -- MARK6
  refine HC.out.mono ?_
  rintro e w2 ⟨rfl, hb2⟩
  have HF2 := Lib.hid (HF1.out.on hb2)
  clear hb2
  obtain ⟨⟨⟨a0, a1, a2, a3, a4⟩, a5, a6, a7, a8, a9⟩, q0, q1, q2, q3⟩ := HF2.out.facts
  go_wp2_with fail
  -- MARK7
  (try simp only [Exit.inBlock, Exit.then])
  refine bodyPost_ret (results_boxTS rfl _ _ w.heap.size (w.heap.size + 1) _ _ _ _ _ _ _ _ _ rfl rfl ((two_other (W := five _ _ _ _ _ _ _) (by omega) _ _).trans (set_five _ _ _ _ _ HF2.out.a)) (set_both _ _ ((five_other (by omega) _ _ _ _ _).trans HF2.out.b))) rfl ?_
  exact ⟨by rw [HV3.out]; rfl, below_two (below_five HF2.out.o (Nat.le_refl _) _ _ _ _ _) (by omega)⟩
set_option maxRecDepth 50000 in
set_option maxHeartbeats 6400000 in
theorem Next_out (a : Option Addr) (n c : Nat) (l : List UInt8) (k : Int) (w : World) (hn : l.length = n) (hin : ¬ (n ≤ 8000 ∧ 0 ≤ k ∧ k ≤ (n : Int))) :
    Calls Tryd.prog 9 #[.slice a n c, .int .i64 k] w fun e w' => e = .returned (nxS l k) ∧ Below w.heap.size w w' := by
  have HN := Lib.hid hn
  clear hn
  obtain ⟨W0, hW0⟩ : ∃ W0, W0 = (w.alloc (.cells #[.int .i64 0, .int .i64 0, .int .i64 0, .int .i64 0, .string ⟨#[]⟩] 33)).alloc (.cells #[.int .i64 0, .int .i64 0] 27) := ⟨_, rfl⟩
  have HF0 : Hid (F2 w W0) := Lib.hid (by
    obtain ⟨y1, y2, y3⟩ := two_newF (W := w) rfl #[.int .i64 0, .int .i64 0, .int .i64 0, .int .i64 0, .string ⟨#[]⟩] #[.int .i64 0, .int .i64 0] 33 27
    rw [hW0]; exact ⟨y1, y2, y3⟩)
  have HZ : Hid (W0.heap.size = w.heap.size + 2) := Lib.hid (by rw [hW0]; simp)

  have hAB : w.heap.size ≠ w.heap.size + 1 := by omega
  have hBA : w.heap.size + 1 ≠ w.heap.size := by omega
  go_enter Tryd.func9, Tryd.ntmps9
  go_upto_region 1 with (fail)
  rw [← hW0]
  clear hW0
  obtain ⟨⟨⟨a0, a1, a2, a3, a4⟩, a5, a6, a7, a8, a9⟩, q0, q1, q2, q3⟩ := HF0.out.facts
  by_cases h8 : 8000 < n
  · have HV : Hid (nxS l k = .tuple #[tokA (0, 0, 0, 0, []), .agg #[.int .i64 0, .int .i64 0], .int .i64 3]) := Lib.hid (nxS_long (by rw [HN.out]; exact h8))
    have d1 : decide ((8000 : Int) < (n : Int)) = true := decide_eq_true (by omega)
    clear h8 hin
    go_wp2_with fail
    (try simp only [Exit.inBlock, Exit.then])
    refine bodyPost_ret (results_boxTS rfl _ _ w.heap.size (w.heap.size + 1) _ _ _ _ _ _ _ _ _ rfl rfl ((two_other (W := five _ _ _ _ _ _ _) (by omega) _ _).trans (set_five _ _ _ _ _ HF0.out.a)) (set_both _ _ ((five_other (by omega) _ _ _ _ _).trans HF0.out.b))) rfl ?_
    exact ⟨by rw [HV.out]; rfl, below_two (below_five HF0.out.o (Nat.le_refl _) _ _ _ _ _) (by omega)⟩
  have HR := Lib.hid (fun h2 => nxS_out (l := l) (k := k) (by rw [HN.out]; exact h8) h2)
  have d1 : decide ((8000 : Int) < (n : Int)) = false := decide_eq_false (by omega)
  by_cases h0 : k < 0
  · have HV := Lib.hid (HR.out (.inl h0))
    have d2 : decide (k < 0) = true := decide_eq_true h0
    clear h0 h8 hin
    go_wp2_with fail
    (try simp only [Exit.inBlock, Exit.then])
    refine bodyPost_ret (results_boxTS rfl _ _ w.heap.size (w.heap.size + 1) _ _ _ _ _ _ _ _ _ rfl rfl ((two_other (W := five _ _ _ _ _ _ _) (by omega) _ _).trans (set_five _ _ _ _ _ HF0.out.a)) (set_both _ _ ((five_other (by omega) _ _ _ _ _).trans HF0.out.b))) rfl ?_
    exact ⟨by rw [HV.out]; rfl, below_two (below_five HF0.out.o (Nat.le_refl _) _ _ _ _ _) (by omega)⟩
  have d2 : decide (k < 0) = false := decide_eq_false h0
  have h3 : (n : Int) < k := by omega
  have HV := Lib.hid (HR.out (.inr (by rw [HN.out]; exact h3)))
  have d3 : decide ((n : Int) < k) = true := decide_eq_true h3
  clear h0 h8 h3 hin
  go_wp2_with fail
  (try simp only [Exit.inBlock, Exit.then])
  refine bodyPost_ret (results_boxTS rfl _ _ w.heap.size (w.heap.size + 1) _ _ _ _ _ _ _ _ _ rfl rfl ((two_other (W := five _ _ _ _ _ _ _) (by omega) _ _).trans (set_five _ _ _ _ _ HF0.out.a)) (set_both _ _ ((five_other (by omega) _ _ _ _ _).trans HF0.out.b))) rfl ?_
  exact ⟨by rw [HV.out]; rfl, below_two (below_five HF0.out.o (Nat.le_refl _) _ _ _ _ _) (by omega)⟩
theorem Next_any (a : Option Addr) (n c : Nat) (l : List UInt8) (k : Int) (w : World) (hv : BytesAt w (.slice a n c) l) (hcap : n ≤ c) (hn : l.length = n) (T : LTabs w) :
    Calls Tryd.prog 9 #[.slice a n c, .int .i64 k] w fun e w' => e = .returned (nxS l k) ∧ Below w.heap.size w w' := by
  by_cases hin : n ≤ 8000 ∧ 0 ≤ k ∧ k ≤ (n : Int)
  · obtain ⟨h8, h0, h3⟩ := hin
    obtain ⟨k, rfl⟩ : ∃ j : Nat, k = (j : Int) := ⟨k.toNat, by omega⟩
    rw [nxS_in (by omega) (by omega)]
    exact Next_in a n c l k w hv hcap (by omega) h8 hn T
  · exact Next_out a n c l k w hn hin
def LexR (l : List UInt8) (m : Nat) (pre : List Tok) : Prop := if 8000 < l.length then m = 0 ∧ pre = [] else LexAt l m pre
theorem lexR_start (l : List UInt8) : LexR l 0 [] := by
  unfold LexR; split
  · exact ⟨rfl, rfl⟩
  · exact lexAt_start l
theorem lexR_next {l : List UInt8} {m : Nat} {pre : List Tok} (h : LexR l m pre) (hm : m ≤ l.length) :
    ∃ (tk tf tt tn : Int) (tx : List UInt8) (sf st e : Int), nxS l (m : Int) = .tuple #[.agg #[.int .i64 tk, .int .i64 tf, .int .i64 tt, .int .i64 tn, .string (str tx)], .agg #[.int .i64 sf, .int .i64 st], .int .i64 e] ∧
      ((e = 4 ∧ lexS l = (pre, (0, 0), 0)) ∨ (e ≠ 4 ∧ e ≠ 0 ∧ lexS l = ([], (sf, st), e)) ∨ (e = 0 ∧ ∃ q : Nat, m < q ∧ q ≤ l.length ∧ tt = (q : Int) ∧ LexR l q (pre ++ [(tk, tf, tt, tn, tx)]))) := by
  unfold LexR at h
  by_cases h8 : 8000 < l.length
  · exact ⟨0, 0, 0, 0, [], 0, 0, 3, nxS_long h8, .inr (.inl ⟨by decide, by decide, by unfold lexS; rw [if_pos h8]⟩)⟩
  · rw [if_neg h8] at h
    have hS : lexS l = lexO 0 l := by unfold lexS; rw [if_neg h8]
    have hN := nxS_in h8 hm
    unfold nxV at hN
    by_cases h0 : (firstS m (l.drop m)).2 = 0
    · rw [if_pos h0] at hN
      obtain ⟨q, hq1, hq2, hq3, hq4⟩ := lexAt_step h h0
      exact ⟨_, _, _, _, _, 0, 0, 0, hN, .inr (.inr ⟨rfl, q, hq1, hq2, hq3, by unfold LexR; rw [if_neg h8]; exact hq4⟩)⟩
    · rw [if_neg h0] at hN
      by_cases h4 : (firstS m (l.drop m)).2 = 4
      · exact ⟨0, 0, 0, 0, [], _, _, _, hN, .inl ⟨h4, by rw [hS]; exact lexAt_end h h4⟩⟩
      · exact ⟨0, 0, 0, 0, [], _, _, _, hN, .inr (.inl ⟨h4, h0, by rw [hS]; exact lexAt_bad h h4 h0⟩)⟩
set_option maxRecDepth 50000 in
set_option maxHeartbeats 6400000 in
theorem rLex_any (v : Value) (l : List UInt8) (w : World) (h : ArgAt w v (l.map bc)) (hl : l.length ≤ 1000000) :
    Calls Tryd.prog 7 #[v] w (LexV l w) := by
  obtain ⟨n, hn⟩ : ∃ n, l.length = n := ⟨_, rfl⟩
  have CF := Lib.hid (fun (m : Nat) W (hW : Below w.heap.size w W) => rNext_any v l (m : Int) W (h.below hW (Nat.le_refl _)) hl)
  obtain ⟨a, n0, c, rfl, hx1, hx2, hx3⟩ := h
  clear hx1 hx2 hx3
  obtain ⟨W0, hW0⟩ : ∃ W0, W0 = w.alloc (.cells #[.int .i64 0, .int .i64 0] 27) := ⟨_, rfl⟩
  have hsz : W0.heap.size = w.heap.size + 1 := by rw [hW0]; simp
  have hB0 : Below w.heap.size w W0 := by rw [hW0]; exact below_b1 _ _
  have hb0 : W0.heap[w.heap.size]? = some (.cells #[.int .i64 0, .int .i64 0] 27 (0, 0)) := by rw [hW0]; exact World.alloc_heap_new _ _
  have HN := Lib.hid hn
  have HB0 := Lib.hid hb0
  have HBe := Lib.hid hB0
  have HZ := Lib.hid hsz
  have HST := Lib.hid (lexR_start l)
  rw [hn] at hl
  clear hn hb0 hB0 hsz
  go_enter Tryd.func7, Tryd.ntmps7
  go_wp2_with fail
  rw [← hW0]
  clear hW0
  -- MARK1
  go_loopw [5, 6] (fun x5 x6 wr => ∃ (m p : Nat) (pre : List Tok) (b : Option Addr) (cb : Nat), x5 = .slice b p cb ∧ x6 = .int .i64 (m : Int) ∧ m ≤ n ∧ p ≤ m ∧ Hid (pre.length = p) ∧ Hid (LexR l m pre) ∧ Hid (wr.ownsRow (w.heap.size + 1) 33 5 (.slice b p cb) p (tcs pre)) ∧ Below W0.heap.size W0 wr) (fun _ x6 _ => n - (intOf x6).toNat)
  case atStart => exact ⟨0, 0, [], none, 0, rfl, rfl, Nat.zero_le _, Nat.le_refl _, Lib.hid rfl, HST, Lib.hid (own_nil _ _ _ _), Below.refl _ _⟩
  case round =>
    obtain ⟨m, p, pre, b, cb, rfl, rfl, hm, hpm, HP, HA, HO, hb⟩ := hrel
    have hBw : Below w.heap.size w wr := HBe.out.trans (hb.mono (by rw [HZ.out]; omega))
    have C := CF.out m wr hBw
    obtain ⟨tk, tf, tt, tn, tx, sf, st, te, hnx, hcase⟩ := lexR_next HA.out (by rw [HN.out]; exact hm)
    rw [hnx] at C
    have HC := Lib.hid C
    have HK := Lib.hid hcase
    clear C hnx hcase
    go_wp2_with fail
    refine HC.out.mono ?_
    rintro e w1 ⟨rfl, hb1⟩
    have hb2 := hb.trans (hb1.mono hb.size)
    have d0 := (hb2.block w.heap.size (by rw [HZ.out]; omega)).trans HB0.out
    have hs1 : w.heap.size < w1.heap.size := by have := hb2.size; rw [HZ.out] at this; omega
    have HO0 := Lib.hid (own_below HO.out hb1)
    go_upto_region 4 with (fail)
    -- MARK2
    obtain ⟨W1, hW1⟩ : ∃ W1, W1 = (w1.alloc (.cells #[.int .i64 tk, .int .i64 tf, .int .i64 tt, .int .i64 tn, .string (str tx)] 33)).alloc (.cells #[.int .i64 sf, .int .i64 st] 27) := ⟨_, rfl⟩
    obtain ⟨y1, y2, y3⟩ := two_newF (W := w1) rfl #[.int .i64 tk, .int .i64 tf, .int .i64 tt, .int .i64 tn, .string (str tx)] #[.int .i64 sf, .int .i64 st] 33 27
    have hz1 : W1.heap.size = w1.heap.size + 2 := by rw [hW1]; simp
    have HO1 : Hid (W1.ownsRow (w.heap.size + 1) 33 5 (.slice b p cb) p (tcs pre)) := Lib.hid (by rw [hW1]; exact (HO0.out.alloc _).alloc _)
    rw [← hW1] at y1 y2 y3 ⊢
    clear hW1
    have d1 := (y3.block w.heap.size hs1).trans d0
    have HB3 : Hid (Below W0.heap.size W0 W1) := Lib.hid (hb2.trans (y3.mono hb2.size))
    have HBw3 : Hid (Below w.heap.size w W1) := Lib.hid (HBe.out.trans (HB3.out.mono (by rw [HZ.out]; omega)))
    obtain ⟨c0, c1, f0, f1⟩ := box2_all d1
    obtain ⟨⟨t0, t1, t2, t3, t4⟩, _⟩ := box5_facts y1
    obtain ⟨s0, s1, _, _⟩ := box2_all y2
    have HD1 := Lib.hid d1
    have HS1 := Lib.hid hs1
    have HZ1 := Lib.hid hz1
    have HT2 := Lib.hid t2
    have hAB : w.heap.size ≠ w1.heap.size + 1 := by omega
    have hBA : w1.heap.size + 1 ≠ w.heap.size := by omega
    clear d0 d1 y1 y2 y3 hz1 hb1 hb2
    rcases HK.out with ⟨rfl, hE⟩ | ⟨h4, h0, hE⟩ | ⟨rfl, q, hq1, hq2, rfl, hQ⟩
    · have HE := Lib.hid hE
      clear hE HK
      go_wp2_with fail
      -- MARK3
      (try simp only [Exit.inBlock, Exit.then])
      refine bodyPost_ret (results_box33 rfl _ _ w.heap.size _ _ _ rfl (set_both _ _ HD1.out)) rfl ?_
      exact lexV_of HE.out (by rw [HP.out]; exact own_lower (own_two HO1.out (by omega) _ _) (by omega)) (below_two HBw3.out (Nat.le_refl _))
    · have HE := Lib.hid hE
      have hne4 : ((te : Int) == 4) = false := beq_eq_false_iff_ne.2 h4
      have hne0 : ((te : Int) != 0) = true := bne_iff_ne.2 h0
      clear hE HK h4 h0
      go_wp2_with fail
      go_region
      -- MARK5
      go_wp2_with fail
      (try simp only [Exit.inBlock, Exit.then])
      refine bodyPost_ret (results_box33 rfl _ _ w.heap.size _ _ _ rfl (show (World.drew _).heap[w.heap.size]? = _ from set_both _ _ HD1.out)) rfl ?_
      exact lexV_of HE.out (own_nil _ _ _ _) (below_two HBw3.out (Nat.le_refl _)).drew
    · have HQ := Lib.hid hQ
      rw [HN.out] at hq2
      obtain ⟨i0, hi, hz0, hz1, hz2⟩ := info_parts2 infoTk
      have HQ2 : Hid (∀ w2, (W1.alloc (.cells #[.int .i64 tk, .int .i64 tf, .int .i64 (q : Int), .int .i64 tn, .string (str tx)] 33)).grownBy w2 (Value.slice b p cb).ownBlock → w2.cell? ⟨w1.heap.size, 2, none⟩ = some (.int .i64 (q : Int))) := Lib.hid (by
        intro w2 hgrow2
        have hne : some w1.heap.size ≠ (Value.slice b p cb).ownBlock := fun e => by have := (HO0.out.lt _ e.symm).2; omega
        have hz := HZ1.out
        refine (hgrow2.cell_far ⟨w1.heap.size, 2, none⟩ (by simp only [World.size_alloc]; omega) hne).trans ?_
        exact (cell_old _ _ _ (by show w1.heap.size < W1.heap.size; omega)).trans HT2.out)
      have HSz : Hid (∀ o, w.heap.size + 1 ≤ (W1.alloc o).heap.size) := Lib.hid (fun o => by simp only [World.size_alloc]; have := HZ1.out; have := HS1.out; omega)
      clear hQ HK
      go_wp2_with (at_builtin; refine wpList_append_own _ rfl _ _ 25 rfl (w.heap.size + 1) 33 i0 zeroTk 5 48 Tryd.underlying25 hi hz0 hz1 hz2 rfl (by decide) _ _ _ rfl (HO1.out.alloc _) ⟨W1.heap.size, 0, none⟩ 1 1 (tokC (tk, tf, (q : Int), tn, tx)) rfl rfl (new_cellsT _ _ _ _ rfl) (one_tokC _) (by unfold maxLen; omega) (by omega) (HSz.out _) ?_; intro v' w2 hown2 hgrow2 _; have t2' := HQ2.out _ hgrow2)
      -- MARK4
      have HO5 : Hid (w2.ownsRow (w.heap.size + 1) 33 5 v' (p + 1) (tcs (pre ++ [(tk, tf, (q : Int), tn, tx)]))) := Lib.hid (by rw [tcs_app, tcs_one]; exact hown2)
      obtain ⟨b2, cb2, rfl⟩ := own_len HO5.out
      have hb5 : Below W0.heap.size W0 w2 := (HB3.out.alloc HB3.out.size _).grown hgrow2 (by have := HB3.out.size; simp only [World.size_alloc] at this ⊢; omega) (fun k hk => by have := (HO.out.lt k hk).1; rw [HZ.out]; exact this)
      go_roundw
      case rel => exact ⟨q, p + 1, _, b2, cb2, rfl, rfl, by omega, by omega, Lib.hid (by rw [List.length_append, HP.out]; rfl), HQ, HO5, hb5⟩
      case measure => simp [intOf]; omega
theorem rLex_at {l : List UInt8} {r : List Tok × (Int × Int) × Int} (hr : lexS l = r) (k : Nat) (hk : r.1.length = k) (v : Value) (w : World) (h : ArgAt w v (l.map bc)) (hl : l.length ≤ 1000000) :
    Calls Tryd.prog 7 #[v] w fun e w' => ∃ v cv, e = .returned (.tuple #[.slice v k cv, .agg #[.int .i64 r.2.1.1, .int .i64 r.2.1.2], .int .i64 r.2.2]) ∧ Hid (w'.ownsRow w.heap.size 33 5 (.slice v k cv) k (tcs r.1)) ∧ Below w.heap.size w w' := by
  refine (rLex_any v l w h hl).mono ?_
  rintro e w' ⟨v, rfl, ho, hb⟩
  rw [hr, hk] at ho
  rw [hr]
  obtain ⟨v, cv, rfl⟩ := own_len ho
  exact ⟨v, cv, rfl, Lib.hid ho, hb⟩
set_option maxRecDepth 50000 in
set_option maxHeartbeats 6400000 in
theorem rGaps_any (a : Option Addr) (n c : Nat) (b : List UInt8) (w : World) (h : ArgAt w (.slice a n c) (b.map bc)) (hl : n ≤ 1000000) (hn : b.length = n) :
    Calls Tryd.prog 12 #[.slice a n c] w fun e w' => ∃ vg, e = .returned (.tuple #[vg, .int .i64 (lexS b).2.2]) ∧ Hid (w'.ownsRow w.heap.size 27 2 vg (gapsS b).length (gcs (gapsS b))) ∧ Below w.heap.size w w' := by
  obtain ⟨r, hr⟩ : ∃ r, lexS b = r := ⟨_, rfl⟩
  have hlen := lex_len b
  rw [hr] at hlen
  have HG0 : Hid (gapsS b = if r.2.2 ≠ 0 then [] else gU r.1 r.1.length ++ [(fromK r.1 r.1.length, (n : Int))]) := Lib.hid (by unfold gapsS; rw [hr, hn])
  obtain ⟨m, ⟨f1, f2⟩, fe⟩ := r
  have CL := Lib.hid (rLex_at hr m.length rfl (.slice a n c) w h (by omega))
  rw [hr]
  simp only at HG0 CL hlen ⊢
  obtain ⟨k1, hk1⟩ : ∃ k1, m.length = k1 := ⟨_, rfl⟩
  have HK := Lib.hid hk1
  rw [hk1] at HG0 CL hlen
  clear h hr hk1
  by_cases hfe : fe = 0
  · subst hfe
    have HG : Hid (gapsS b = gU m k1 ++ [(fromK m k1, (n : Int))]) := Lib.hid (by rw [HG0.out, if_neg (by simp)])
    clear HG0
    go_enter Tryd.func12, Tryd.ntmps12
    go_wp2_with fail
    refine CL.out.mono ?_
    rintro e w2 ⟨v1, cv1, rfl, ho, hb2⟩
    have HT1 := Lib.hid (tks_own ho.out HK.out)
    clear ho CL
    obtain ⟨Wb, hWb⟩ : ∃ Wb, Wb = w2.alloc (.cells #[.int .i64 f1, .int .i64 f2] 27) := ⟨_, rfl⟩
    have hBb : Below w.heap.size w Wb := by rw [hWb]; exact hb2.alloc hb2.size _
    have HTb : Hid (TksAt Wb (.slice v1 k1 cv1) m) := Lib.hid (by rw [hWb]; exact HT1.out.below (below_b1 _ _) (Nat.le_refl _))
    clear HT1
    go_wp2_with fail
    -- MARK1
    rw [← hWb]
    clear hWb
    go_loopw [7, 8, 9] (fun x7 x8 x22 wr => ∃ (k : Nat) (p : Int) (g : Option Addr) (cg : Nat), x7 = .slice g k cg ∧ x8 = .int .i64 p ∧ x22 = .int .i64 (k : Int) ∧ k ≤ k1 ∧ Hid (p = fromK m k) ∧ Hid (wr.ownsRow Wb.heap.size 27 2 (.slice g k cg) k (gcs (gU m k))) ∧ Below Wb.heap.size Wb wr) (fun _ _ x22 _ => k1 - (intOf x22).toNat)
    case atStart => exact ⟨0, 0, none, 0, rfl, rfl, rfl, Nat.zero_le _, Lib.hid rfl, Lib.hid (own_nil _ _ _ _), Below.refl _ _⟩
    case round =>
      obtain ⟨k, p, g, cg, rfl, rfl, rfl, hk, HP, HO, hb⟩ := hrel
      have hbw := hBb.trans (hb.mono hBb.size)
      have hk0 : (0 : Int) ≤ (k : Int) := Int.natCast_nonneg _
      obtain ⟨i0, hi, hz0, hz1, hz2⟩ := info_parts2 infoSpL
      by_cases hlt : k < k1
      · obtain ⟨t, ht⟩ : ∃ t, m[k]? = some t := ⟨_, List.getElem?_eq_getElem (by rw [HK.out]; exact hlt)⟩
        obtain ⟨gt, off, cc, hv, hg, hcl⟩ := HTb.out.some (by intro e; rw [e] at ht; cases ht)
        obtain ⟨rfl, hv2, rfl⟩ := Value.slice.inj hv
        obtain ⟨a0, a1, a2, a3, a4⟩ := tcs_at m ht
        have F : ∀ j u, (tcs m)[j]? = some u → wr.cell? ⟨gt, off + j, none⟩ = some u := fun j u hj => (hb.cell (p := ⟨gt, off + j, none⟩) hg).trans (hcl j u hj)
        have c0 : wr.cell? ⟨gt, off + k * 5, none⟩ = _ := F _ _ a0
        have c1 : wr.cell? ⟨gt, off + k * 5 + 1, none⟩ = _ := F _ _ a1
        have c2 : wr.cell? ⟨gt, off + k * 5 + 2, none⟩ = _ := F _ _ a2
        have c3 : wr.cell? ⟨gt, off + k * 5 + 3, none⟩ = _ := F _ _ a3
        have c4 : wr.cell? ⟨gt, off + k * 5 + 4, none⟩ = _ := F _ _ a4
        obtain ⟨tk, tf, tt, tn, tx⟩ := t
        simp only at c0 c1 c2 c3 c4
        have HU : Hid (gU m (k + 1) = gU m k ++ [(p, tf)] ∧ fromK m (k + 1) = tt) := Lib.hid ⟨by rw [gU, HP.out, headK, ht]; rfl, by rw [fromK, ht]; rfl⟩
        have hk1 : (k : Int) < (k1 : Int) := by omega
        have hgs : gt < wr.heap.size := Nat.lt_of_lt_of_le hg hb.size
        have HG2 : Hid (∀ o w3, (wr.alloc o).grownBy w3 (Value.slice g k cg).ownBlock → Below Wb.heap.size Wb w3 ∧ w3.cell? ⟨gt, off + k * 5 + 2, none⟩ = some (.int .i64 tt)) := Lib.hid (by
          intro o w3 hg3
          have hne : some gt ≠ (Value.slice g k cg).ownBlock := fun e => by have := (HO.out.lt _ e.symm).1; omega
          refine ⟨(hb.alloc hb.size o).grown hg3 (by simp only [World.size_alloc]; have := hb.size; omega) (fun q hq => (HO.out.lt _ hq).1), ?_⟩
          refine (hg3.cell_far ⟨gt, off + k * 5 + 2, none⟩ (by simp only [World.size_alloc]; omega) hne).trans ?_
          exact (cell_old _ _ _ hgs).trans c2)
        have HSz : Hid (∀ o, Wb.heap.size ≤ (wr.alloc o).heap.size) := Lib.hid (fun o => by simp only [World.size_alloc]; have := hb.size; omega)
        clear hv hv2 hcl F a0 a1 a2 a3 a4 ht
        go_wp2_with (at_builtin; refine wpList_append_own _ rfl _ _ 36 rfl Wb.heap.size 27 i0 zeroSpL 2 16 Tryd.underlying36 hi hz0 hz1 hz2 rfl (by decide) _ _ _ rfl (HO.out.alloc _) ⟨wr.heap.size, 0, none⟩ 1 1 [.int .i64 p, .int .i64 tf] rfl rfl (new_cellsT _ _ _ _ rfl) (one_two _ _) (by unfold maxLen; omega) (by omega) (HSz.out _) ?_; intro v3 w3 hown3 hgrow3 _; obtain ⟨b3, cb3, rfl⟩ := own_len hown3; obtain ⟨hVb, x2⟩ := HG2.out _ _ hgrow3)
        -- MARK2
        have HO3 : Hid (w3.ownsRow Wb.heap.size 27 2 (.slice b3 (k + 1) cb3) (k + 1) (gcs (gU m (k + 1)))) := Lib.hid (by rw [HU.out.1, gcs_app, gcs_one]; exact hown3)
        exact ⟨⟨k + 1, tt, b3, cb3, rfl, rfl, by go_num, by omega, Lib.hid HU.out.2.symm, HO3, hVb⟩, by simp [intOf]; omega⟩
      · obtain rfl : k = k1 := by omega
        have hd0 : decide ((k : Int) < (k : Int)) = false := decide_eq_false (Int.lt_irrefl _)
        have HSz : Hid (∀ o, Wb.heap.size ≤ (wr.alloc o).heap.size) := Lib.hid (fun o => by simp only [World.size_alloc]; have := hb.size; omega)
        have hbbs := hBb.size
        have HG2 : Hid (∀ o w3, (wr.alloc o).grownBy w3 (Value.slice g k cg).ownBlock → Below w.heap.size w w3) := Lib.hid (by
          intro o w3 hg3
          exact (hbw.alloc hbw.size o).grown hg3 (by simp only [World.size_alloc]; have := hbw.size; omega) (fun q hq => by have := (HO.out.lt _ hq).1; omega))
        go_wp2_with (at_builtin; refine wpList_append_own _ rfl _ _ 36 rfl Wb.heap.size 27 i0 zeroSpL 2 16 Tryd.underlying36 hi hz0 hz1 hz2 rfl (by decide) _ _ _ rfl (HO.out.alloc _) ⟨wr.heap.size, 0, none⟩ 1 1 [.int .i64 p, .int .i64 (n : Int)] rfl rfl (new_cellsT _ _ _ _ rfl) (one_two _ _) (by unfold maxLen; omega) (by omega) (HSz.out _) ?_; intro v3 w3 hown3 hgrow3 _; obtain ⟨b3, cb3, rfl⟩ := own_len hown3; have hVw := HG2.out _ _ hgrow3)
        -- MARK3
        have HO3 : Hid (w3.ownsRow w.heap.size 27 2 (.slice b3 (k + 1) cb3) (gapsS b).length (gcs (gapsS b))) := Lib.hid (by
          rw [HG.out, List.length_append, gU_len, gcs_app, ← HP.out, gcs_one]
          exact own_lower hown3 hbbs)
        go_ret2
        exact ⟨_, rfl, HO3, hVw⟩
  · have hne : (fe != 0) = true := bne_iff_ne.2 hfe
    have HG : Hid (gapsS b = []) := Lib.hid (by rw [HG0.out, if_pos hfe])
    clear HG0 hfe
    go_enter Tryd.func12, Tryd.ntmps12
    go_wp2_with fail
    refine CL.out.mono ?_
    rintro e w2 ⟨v1, cv1, rfl, ho, hb2⟩
    go_wp2_with fail
    -- MARK4
    go_ret2
    exact ⟨_, rfl, by rw [HG.out]; exact Lib.hid (own_nil _ _ _ _), hb2.alloc hb2.size _⟩
theorem neq_spL (x y : Int) (W : World) : (binOp .neq 27 (.agg #[.int .i64 x, .int .i64 y]) (.agg #[.int .i64 x, .int .i64 y])).run Tryd.prog W = .ok (.bool false) W := by simp [go_sem]
theorem eq_spL (x y : Int) (W : World) : (binOp .eql 27 (.agg #[.int .i64 x, .int .i64 y]) (.agg #[.int .i64 x, .int .i64 y])).run Tryd.prog W = .ok (.bool true) W := by simp [go_sem]
theorem eq_tkL (k f t n : Int) (S : ByteArray) (W : World) : (binOp .eql 33 (.agg #[.int .i64 k, .int .i64 f, .int .i64 t, .int .i64 n, .string S]) (.agg #[.int .i64 k, .int .i64 f, .int .i64 t, .int .i64 n, .string S])).run Tryd.prog W = .ok (.bool true) W := by simp [go_sem]
theorem nxS_form (l : List UInt8) (k : Int) : ∃ (tk tf tt tn : Int) (tx : List UInt8) (sf st e : Int), nxS l k = .tuple #[.agg #[.int .i64 tk, .int .i64 tf, .int .i64 tt, .int .i64 tn, .string (str tx)], .agg #[.int .i64 sf, .int .i64 st], .int .i64 e] := by
  unfold nxS
  split
  · exact ⟨0, 0, 0, 0, [], 0, 0, 3, rfl⟩
  · split
    · exact ⟨0, 0, 0, 0, [], 0, 0, 7, rfl⟩
    · unfold nxV; split
      · exact ⟨_, _, _, _, _, 0, 0, 0, rfl⟩
      · exact ⟨0, 0, 0, 0, [], _, _, _, rfl⟩
set_option maxRecDepth 50000 in
set_option maxHeartbeats 1600000 in
theorem largeL_any (a : Option Addr) (n c : Nat) (w : World) : Calls Tryd.prog 4 #[.slice a n c] w fun e w' => e = .returned (.bool (decide (300 < n) && decide (n ≤ 8000) || decide (8100 < n))) ∧ w = w' := by
  by_cases h1 : 300 < n
  · by_cases h2 : n ≤ 8000
    · have d1 : decide ((300 : Int) < (n : Int)) = true := decide_eq_true (by omega)
      have d2 : decide ((n : Int) ≤ 8000) = true := decide_eq_true (by omega)
      have HV : Hid ((decide (300 < n) && decide (n ≤ 8000) || decide (8100 < n)) = true) := Lib.hid (by simp [h1, h2])
      clear h1 h2
      go_enter Tryd.func4, Tryd.ntmps4
      go_wp2_with fail
      go_ret
      exact ⟨by rw [HV.out]; rfl, rfl⟩
    · have d1 : decide ((300 : Int) < (n : Int)) = true := decide_eq_true (by omega)
      have d2 : decide ((n : Int) ≤ 8000) = false := decide_eq_false (by omega)
      by_cases h3 : 8100 < n
      · have d3 : decide ((8100 : Int) < (n : Int)) = true := decide_eq_true (by omega)
        have HV : Hid ((decide (300 < n) && decide (n ≤ 8000) || decide (8100 < n)) = true) := Lib.hid (by simp [h3])
        clear h1 h2 h3
        go_enter Tryd.func4, Tryd.ntmps4
        go_wp2_with fail
        go_ret
        exact ⟨by rw [HV.out]; rfl, rfl⟩
      · have d3 : decide ((8100 : Int) < (n : Int)) = false := decide_eq_false (by omega)
        have HV : Hid ((decide (300 < n) && decide (n ≤ 8000) || decide (8100 < n)) = false) := Lib.hid (by simp [h2, h3])
        clear h1 h2 h3
        go_enter Tryd.func4, Tryd.ntmps4
        go_wp2_with fail
        go_ret
        exact ⟨by rw [HV.out]; rfl, rfl⟩
  · have d1 : decide ((300 : Int) < (n : Int)) = false := decide_eq_false (by omega)
    have d3 : decide ((8100 : Int) < (n : Int)) = false := decide_eq_false (by omega)
    have HV : Hid ((decide (300 < n) && decide (n ≤ 8000) || decide (8100 < n)) = false) := Lib.hid (by simp [h1]; omega)
    clear h1
    go_enter Tryd.func4, Tryd.ntmps4
    go_wp2_with fail
    go_ret
    exact ⟨by rw [HV.out]; rfl, rfl⟩
structure B2 (w W : World) (A B : Nat) (x y x' y' : Int) : Prop where
  a : W.heap[A]? = some (.cells #[.int .i64 x, .int .i64 y] 27 (0, 0))
  b : W.heap[B]? = some (.cells #[.int .i64 x', .int .i64 y'] 27 (0, 0))
  n : A < B
  l : w.heap.size ≤ A
  o : Below w.heap.size w W
theorem B2.on {w W W2 : World} {A B : Nat} {x y x' y' : Int} (h : B2 w W A B x y x' y') (hb : Below W.heap.size W W2) : B2 w W2 A B x y x' y' := by
  have h1 := (Array.getElem?_eq_some_iff.1 h.a).1
  have h2 := (Array.getElem?_eq_some_iff.1 h.b).1
  exact ⟨(hb.block _ h1).trans h.a, (hb.block _ h2).trans h.b, h.n, h.l, h.o.trans (hb.mono h.o.size)⟩
theorem B2.setA {w W : World} {A B : Nat} {x y x' y' : Int} (h : B2 w W A B x y x' y') (u v : Int) : B2 w ((W.setCell ⟨A, 0, none⟩ (.int .i64 u)).setCell ⟨A, 1, none⟩ (.int .i64 v)) A B u v x' y' := by
  have := h.n
  exact ⟨set_both _ _ h.a, ((setCell_other (by omega)).trans (setCell_other (by omega))).trans h.b, h.n, h.l, below_two h.o h.l⟩
theorem B2.setB {w W : World} {A B : Nat} {x y x' y' : Int} (h : B2 w W A B x y x' y') (u v : Int) : B2 w ((W.setCell ⟨B, 0, none⟩ (.int .i64 u)).setCell ⟨B, 1, none⟩ (.int .i64 v)) A B x y u v := by
  have := h.n
  have := h.l
  exact ⟨((setCell_other (by omega)).trans (setCell_other (by omega))).trans h.a, set_both _ _ h.b, h.n, h.l, below_two h.o (by omega)⟩
theorem B2.facts {w W : World} {A B : Nat} {x y x' y' : Int} (h : B2 w W A B x y x' y') :
    (W.cell? ⟨A, 0, none⟩ = some (.int .i64 x) ∧ W.cell? ⟨A, 1, none⟩ = some (.int .i64 y) ∧ W.frozen? ⟨A, 0, none⟩ = false ∧ W.frozen? ⟨A, 1, none⟩ = false) ∧
    (W.cell? ⟨B, 0, none⟩ = some (.int .i64 x') ∧ W.cell? ⟨B, 1, none⟩ = some (.int .i64 y') ∧ W.frozen? ⟨B, 0, none⟩ = false ∧ W.frozen? ⟨B, 1, none⟩ = false) := ⟨box2_all h.a, box2_all h.b⟩
set_option maxRecDepth 50000 in
set_option maxHeartbeats 6400000 in
theorem lawLx_any (v : Value) (b : List UInt8) (k : Int) (w : World) (ha : ArgAt w v (b.map bc)) (T : PTabs w) :
    Calls Tryd.prog 3 #[v, .int .i64 k] w fun e w' => e = .returned (.bool true) ∧ Below w.heap.size w w' := by
  have ha2 := ha
  obtain ⟨a, n, c, rfl, hn, hcap, hB⟩ := arg_form ha
  have CAw := Lib.hid (fun W (hW : Below w.heap.size w W) => awake_any W (T.below hW))
  have CLa := Lib.hid (fun W => largeL_any a n c W)
  obtain ⟨lg, hlg⟩ : ∃ x, (decide (300 < n) && decide (n ≤ 8000) || decide (8100 < n)) = x := ⟨_, rfl⟩
  rw [hlg] at CLa
  cases lg
  case true =>
    clear hB T hn ha ha2 hlg
    go_enter Tryd.func3, Tryd.ntmps3
    go_wp2_with fail
    refine (CLa.out _).mono ?_
    rintro e w1 ⟨rfl, rfl⟩
    go_wp2_with fail
    refine (CAw.out _ (Below.refl _ _)).mono ?_
    rintro e w9 ⟨rfl, hb9⟩
    go_wp2_with fail
    go_ret
    exact ⟨rfl, hb9⟩
  case false =>
    have hnb : n ≤ 8100 := by simp at hlg; omega
    have HLx := Lib.hid (fun (r : List Tok × (Int × Int) × Int) (hr : lexS b = r) W (hW : Below w.heap.size w W) => Lex_at hr r.1.length rfl a n c W (RowAt.below hB hW (Nat.le_refl _)) hcap (by omega) hn (T.below hW).lt)
    have HLr := Lib.hid (fun (r : List Tok × (Int × Int) × Int) (hr : lexS b = r) W (hW : Below w.heap.size w W) => rLex_at hr r.1.length rfl (.slice a n c) W (ha2.below hW (Nat.le_refl _)) (by omega))
    have HNx := Lib.hid (fun W (hW : Below w.heap.size w W) => Next_any a n c b k W (RowAt.below hB hW (Nat.le_refl _)) hcap hn (T.below hW).lt)
    have HNr := Lib.hid (fun W (hW : Below w.heap.size w W) => rNext_any (.slice a n c) b k W (ha2.below hW (Nat.le_refl _)) (by omega))
    have HGx := Lib.hid (fun W (hW : Below w.heap.size w W) => Gaps_any a n c b W (RowAt.below hB hW (Nat.le_refl _)) hcap (by omega) hn (T.below hW).lt)
    have HGr := Lib.hid (fun W (hW : Below w.heap.size w W) => rGaps_any a n c b W (ha2.below hW (Nat.le_refl _)) (by omega) hn)
    have hlen := lex_len b
    obtain ⟨r, hr⟩ : ∃ r, lexS b = r := ⟨_, rfl⟩
    have CL := Lib.hid (HLx.out _ hr)
    have CR := Lib.hid (HLr.out _ hr)
    rw [hr] at HGx HGr hlen
    obtain ⟨m, ⟨f1, f2⟩, fe⟩ := r
    simp only at CL CR HGx HGr hlen
    obtain ⟨tk, tf, tt, tn, tx, sf, st, te, hnx⟩ := nxS_form b k
    rw [hnx] at HNx HNr
    obtain ⟨gl, hgl⟩ : ∃ g, gapsS b = g := ⟨_, rfl⟩
    have hglen : gl.length ≤ 1000000 := by
      rw [← hgl]
      unfold gapsS
      split
      · exact Nat.zero_le _
      · rw [List.length_append, gU_len, hr]
        simp only [List.length_cons, List.length_nil]
        omega
    rw [hgl] at HGx HGr
    have hml : m.length ≤ 1000000 := by omega
    obtain ⟨k1, hk1⟩ : ∃ k1, m.length = k1 := ⟨_, rfl⟩
    have HK := Lib.hid hk1
    have HML := Lib.hid hml
    have HGL := Lib.hid hglen
    rw [hk1] at CL CR
    obtain ⟨X, hX⟩ : ∃ X, str tx = X := ⟨_, rfl⟩
    rw [hX] at HNx HNr
    clear ha ha2 hB T hn hcap hlg hr hnx hgl hlen hk1 hml hglen HLx HLr hX hnb
    have ns := neq_spL f1 f2
    have es := eq_spL sf st
    have et := eq_tkL tk tf tt tn X
    go_enter Tryd.func3, Tryd.ntmps3
    go_wp2_with fail
    refine (CLa.out _).mono ?_
    rintro e w0 ⟨rfl, rfl⟩
    go_wp2_with fail
    refine (CL.out w (Below.refl _ _)).mono ?_
    rintro e w1 ⟨v1, cv1, rfl, ho1, hb1⟩
    have HT1 := Lib.hid (tks_own ho1.out HK.out)
    clear ho1
    go_upto_region 4 with (fail)
    -- MARK1
    obtain ⟨W1, hW1⟩ : ∃ W1, W1 = w1.alloc (.cells #[.int .i64 f1, .int .i64 f2] 27) := ⟨_, rfl⟩
    have HX1 : Hid (W1.heap[w1.heap.size]? = some (.cells #[.int .i64 f1, .int .i64 f2] 27 (0, 0)) ∧ Below w.heap.size w W1 ∧ TksAt W1 (.slice v1 k1 cv1) m ∧ w1.heap.size < W1.heap.size ∧ w.heap.size ≤ w1.heap.size) := Lib.hid (by
      rw [hW1]; exact ⟨World.alloc_heap_new _ _, hb1.alloc hb1.size _, HT1.out.below (below_b1 _ _) (Nat.le_refl _), by simp, hb1.size⟩)
    rw [← hW1]
    obtain ⟨A, hA⟩ : ∃ A, w1.heap.size = A := ⟨_, rfl⟩
    rw [hA] at HX1 ⊢
    clear hW1 hA HT1 hb1
    go_wp2_with fail
    refine (CR.out W1 HX1.out.2.1).mono ?_
    rintro e w2 ⟨v2, cv2, rfl, ho2, hb2⟩
    have HT2 := Lib.hid (tks_own ho2.out HK.out)
    clear ho2
    go_upto_region 5 with (fail)
    -- MARK2
    obtain ⟨W2, hW2⟩ : ∃ W2, W2 = w2.alloc (.cells #[.int .i64 f1, .int .i64 f2] 27) := ⟨_, rfl⟩
    obtain ⟨B, hB⟩ : ∃ B, w2.heap.size = B := ⟨_, rfl⟩
    have HX2 : Hid (B2 w W2 A B f1 f2 f1 f2 ∧ TksAt W2 (.slice v1 k1 cv1) m ∧ TksAt W2 (.slice v2 k1 cv2) m) := Lib.hid (by
      obtain ⟨x1, x2, x3, x4, x5⟩ := HX1.out
      have y1 := hb2.size
      have z2 := (below_b1 w2 (.cells #[.int .i64 f1, .int .i64 f2] 27))
      rw [hW2]
      exact ⟨⟨(z2.block _ (by omega)).trans ((hb2.block _ x4).trans x1), by rw [← hB]; exact World.alloc_heap_new _ _, by omega, x5, (x2.trans (hb2.mono x2.size)).trans (z2.mono (by have := x2.size; omega))⟩,
        (x3.below hb2 (Nat.le_refl _)).below z2 (Nat.le_refl _), HT2.out.below z2 (Nat.le_refl _)⟩)
    rw [← hW2]
    rw [hB]
    clear hW2 hB HT2 hb2 HX1
    go_wp2_with fail
    refine (SameT_any _ _ m W2 HX2.out.2.1 HX2.out.2.2 HML.out).mono ?_
    rintro e w3 ⟨rfl, hb3⟩
    have HB3 := Lib.hid (HX2.out.1.on hb3)
    clear hb3 HX2
    obtain ⟨⟨a0, a1, a2, a3⟩, b0, b1, b2, b3⟩ := HB3.out.facts
    go_upto_region 7 with (fail)
    -- MARK3
    clear a0 a1 a2 a3 b0 b1 b2 b3
    go_wp2_with fail
    refine (HNx.out w3 HB3.out.o).mono ?_
    rintro e w4 ⟨rfl, hb4⟩
    have HB4 := Lib.hid (HB3.out.on hb4)
    clear hb4
    obtain ⟨⟨a0, a1, a2, a3⟩, b0, b1, b2, b3⟩ := HB4.out.facts
    have hAl : A < w4.heap.size := (Array.getElem?_eq_some_iff.1 HB4.out.a).1
    have hBl : B < w4.heap.size := (Array.getElem?_eq_some_iff.1 HB4.out.b).1
    go_upto_region 8 with (fail)
    -- MARK4
    obtain ⟨W5, hW5⟩ : ∃ Y, Y = ((w4.setCell ⟨A, 0, none⟩ (.int .i64 sf)).setCell ⟨A, 1, none⟩ (.int .i64 st)).alloc (.cells #[.int .i64 tk, .int .i64 tf, .int .i64 tt, .int .i64 tn, .string X] 33) := ⟨_, rfl⟩
    obtain ⟨C, hC⟩ : ∃ C, w4.heap.size = C := ⟨_, rfl⟩
    have HB5 : Hid (B2 w W5 A B sf st f1 f2 ∧ W5.heap[C]? = some (.cells #[.int .i64 tk, .int .i64 tf, .int .i64 tt, .int .i64 tn, .string X] 33 (0, 0)) ∧ B < C) := Lib.hid (by
      have y := HB4.out.setA sf st
      have z := below_b1 ((w4.setCell ⟨A, 0, none⟩ (.int .i64 sf)).setCell ⟨A, 1, none⟩ (.int .i64 st)) (.cells #[.int .i64 tk, .int .i64 tf, .int .i64 tt, .int .i64 tn, .string X] 33)
      have hn := World.alloc_heap_new ((w4.setCell ⟨A, 0, none⟩ (.int .i64 sf)).setCell ⟨A, 1, none⟩ (.int .i64 st)) (.cells #[.int .i64 tk, .int .i64 tf, .int .i64 tt, .int .i64 tn, .string X] 33)
      simp only [World.size_setCell] at hn
      rw [hW5, ← hC]
      exact ⟨y.on z, hn, hBl⟩)
    rw [← hW5]
    rw [hC]
    clear hW5 hC a0 a1 a2 a3 b0 b1 b2 b3 hAl hBl HB4
    go_wp2_with fail
    refine (HNr.out W5 HB5.out.1.o).mono ?_
    rintro e w6 ⟨rfl, hb6⟩
    have HB6 := Lib.hid (HB5.out.1.on hb6)
    have hC6 := (hb6.block C (Array.getElem?_eq_some_iff.1 HB5.out.2.1).1).trans HB5.out.2.1
    have HC6 := Lib.hid hC6
    have HBC := Lib.hid HB5.out.2.2
    have hAl : A < w6.heap.size := (Array.getElem?_eq_some_iff.1 HB6.out.a).1
    have hBl : B < w6.heap.size := (Array.getElem?_eq_some_iff.1 HB6.out.b).1
    have HCl := Lib.hid (Array.getElem?_eq_some_iff.1 hC6).1
    clear hb6 hC6 HB5
    obtain ⟨⟨a0, a1, a2, a3⟩, b0, b1, b2, b3⟩ := HB6.out.facts
    go_upto_region 9 with (fail)
    -- MARK5
    obtain ⟨W7, hW7⟩ : ∃ Y, Y = ((w6.setCell ⟨B, 0, none⟩ (.int .i64 sf)).setCell ⟨B, 1, none⟩ (.int .i64 st)).alloc (.cells #[.int .i64 tk, .int .i64 tf, .int .i64 tt, .int .i64 tn, .string X] 33) := ⟨_, rfl⟩
    obtain ⟨D, hD⟩ : ∃ D, w6.heap.size = D := ⟨_, rfl⟩
    have HB7 : Hid (B2 w W7 A B sf st sf st ∧ W7.heap[C]? = some (.cells #[.int .i64 tk, .int .i64 tf, .int .i64 tt, .int .i64 tn, .string X] 33 (0, 0)) ∧ W7.heap[D]? = some (.cells #[.int .i64 tk, .int .i64 tf, .int .i64 tt, .int .i64 tn, .string X] 33 (0, 0))) := Lib.hid (by
      have y := HB6.out.setB sf st
      have z := below_b1 ((w6.setCell ⟨B, 0, none⟩ (.int .i64 sf)).setCell ⟨B, 1, none⟩ (.int .i64 st)) (.cells #[.int .i64 tk, .int .i64 tf, .int .i64 tt, .int .i64 tn, .string X] 33)
      have hn := World.alloc_heap_new ((w6.setCell ⟨B, 0, none⟩ (.int .i64 sf)).setCell ⟨B, 1, none⟩ (.int .i64 st)) (.cells #[.int .i64 tk, .int .i64 tf, .int .i64 tt, .int .i64 tn, .string X] 33)
      simp only [World.size_setCell] at hn
      have hbc := HBC.out
      have hcl := HCl.out
      have hc : ((w6.setCell ⟨B, 0, none⟩ (.int .i64 sf)).setCell ⟨B, 1, none⟩ (.int .i64 st)).heap[C]? = _ := ((setCell_other (by omega)).trans (setCell_other (by omega))).trans HC6.out
      rw [hW7, ← hD]
      exact ⟨y.on z, (z.block C (by simp only [World.size_setCell]; exact hcl)).trans hc, hn⟩)
    rw [← hW7]
    rw [hD]
    clear hW7 hD a0 a1 a2 a3 b0 b1 b2 b3 hAl hBl HB6 HC6 HBC HCl
    go_wp2_with fail
    refine (HGx.out W7 HB7.out.1.o).mono ?_
    rintro e w8 ⟨vg1, rfl, hg1, hb8⟩
    have HG1 := Lib.hid (gcs_own hg1.out rfl)
    have HB8 := Lib.hid (HB7.out.1.on hb8)
    clear hg1
    go_wp2_with fail
    refine (HGr.out w8 HB8.out.o).mono ?_
    rintro e w9 ⟨vg2, rfl, hg2, hb9⟩
    have HG2 := Lib.hid (gcs_own hg2.out rfl)
    have HG3 := Lib.hid (HG1.out.below hb9 (Nat.le_refl _))
    have HB9 := Lib.hid (HB8.out.on hb9)
    have hb79 := hb8.trans (hb9.mono hb8.size)
    have c9 := (hb79.block C (Array.getElem?_eq_some_iff.1 HB7.out.2.1).1).trans HB7.out.2.1
    have d9 := (hb79.block D (Array.getElem?_eq_some_iff.1 HB7.out.2.2).1).trans HB7.out.2.2
    obtain ⟨⟨a0, a1, a2, a3⟩, b0, b1, b2, b3⟩ := HB9.out.facts
    obtain ⟨⟨x0, x1, x2, x3, x4⟩, _⟩ := box5_facts c9
    obtain ⟨⟨y0, y1, y2, y3, y4⟩, _⟩ := box5_facts d9
    clear hg2 hb8 hb9 hb79 c9 d9 HB7 HB8 HG1
    -- MARK6
    go_wp2_with fail
    refine (g3same_any _ _ gl w9 HG3.out HG2.out HGL.out).mono ?_
    rintro e w10 ⟨rfl, hb10⟩
    have HB10 := Lib.hid (HB9.out.on hb10)
    go_wp2_with fail
    refine (CAw.out w10 HB10.out.o).mono ?_
    rintro e w11 ⟨rfl, hb11⟩
    go_wp2_with fail
    go_ret
    exact ⟨rfl, HB10.out.o.trans (hb11.mono HB10.out.o.size)⟩
end Go.Proofs.YtemoeohchhpilaaDoor
