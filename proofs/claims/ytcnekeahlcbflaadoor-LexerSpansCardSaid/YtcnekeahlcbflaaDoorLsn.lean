/- The law LexerSpans. -/
import Derived.Test.YtcnekeahlcbflaaDoorLmn
import Derived.Test.YtcnekeahlcbflaaDoorRref7
import Derived.Deep.RegionWith
namespace Go.Proofs.YtcnekeahlcbflaaDoor
open Go.RowKit Go.PlainAid

theorem gU_at (l : List Tok) : ∀ (j k : Nat), k < j → (gU l j)[k]? = some (fromK l k, headK l k) := by
  intro j
  induction j with
  | zero => intro k h; omega
  | succ j ih =>
    intro k h
    rw [gU]
    by_cases e : k = j
    · subst e; rw [List.getElem?_append_right (by rw [gU_len]; exact Nat.le_refl _), gU_len, Nat.sub_self]; rfl
    · rw [List.getElem?_append_left (by rw [gU_len]; omega)]; exact ih k (by omega)
set_option maxRecDepth 100000 in
set_option maxHeartbeats 12800000 in
theorem lawSpn_any (va : Value) (b : List UInt8) (w : World) (ha : ArgAt w va (b.map bc)) (T : PTabs w) :
    Calls Tryd.prog 7 #[va] w fun e w' => e = .returned (.bool true) ∧ Below w.heap.size w w' := by
  have CO := Lib.hid (fun W i (hW : Below w.heap.size w W) (hl : b.length ≤ 1000000) => ron_any va b i W (ha.below hW (Nat.le_refl _)) hl)
  obtain ⟨a, n, c, rfl, hn, hcap, hB⟩ := arg_form ha
  have CAw := Lib.hid (fun W (hW : Below w.heap.size w W) => awake_any W (T.below hW))
  clear ha
  by_cases h0 : 300 < n
  · have d0 : decide ((300 : Int) < (n : Int)) = true := decide_eq_true (by omega)
    clear hB T hn h0 CO
    go_enter Tryd.func7, Tryd.ntmps7
    go_wp2_with fail
    refine (CAw.out _ (Below.refl _ _)).mono ?_
    rintro e w9 ⟨rfl, hb9⟩
    go_wp2_with fail
    go_ret
    exact ⟨rfl, hb9⟩
  have d0 : decide ((300 : Int) < (n : Int)) = false := decide_eq_false (by omega)
  have hlen := lex_len b
  have HG := Lib.hid (fun W (hW : Below w.heap.size w W) => Gaps_any a n c b W (RowAt.below hB hW (Nat.le_refl _)) hcap (by omega) hn (T.below hW).lt)
  obtain ⟨r, hr⟩ : ∃ r, lexS b = r := ⟨_, rfl⟩
  have HR0 := Lib.hid (fun h => rest_0 (b := b) (by omega) h)
  have HCk := Lib.hid (fun t ht => tok_ck (b := b) (by omega) (t := t) ht)
  have HOn := Lib.hid (fun (p off : Nat) h hp he => on_at (b := b) (p := p) (off := off) (by omega) h hp he)
  have HGs : Hid (gapsS b = if r.2.2 ≠ 0 then [] else gU r.1 r.1.length ++ [(fromK r.1 r.1.length, (n : Int))]) := Lib.hid (by unfold gapsS; rw [hr, hn])
  have CL := Lib.hid (fun W (hW : Below w.heap.size w W) => Lex_at hr r.1.length rfl a n c W (RowAt.below hB hW (Nat.le_refl _)) hcap (by omega) hn (T.below hW).lt)
  have CSg := Lib.hid (fun (p q : Nat) (x : List Tok × (Int × Int) × Int) (hx : lexS (seg b p q) = x) (h1 : p ≤ q) (h2 : q ≤ n) W (hW : Below w.heap.size w W) => Lex_at hx x.1.length rfl (if c = p then a else a.map (·.add p)) (q - p) (c - p) W (seg_at (RowAt.below hB hW (Nat.le_refl _)) h1 h2 hcap) (by omega) (by omega) (by unfold seg; rw [List.length_take, List.length_drop]; omega) (T.below hW).lt)
  rw [hr] at HG HR0 hlen HCk HOn
  obtain ⟨m, ⟨f1, f2⟩, fe⟩ := r
  simp only at HG HR0 HGs CL hlen HCk HOn
  have HT := Lib.hid T
  have HNl := Lib.hid hn
  have hnb : n ≤ 300 := by omega
  obtain ⟨k1, hk1⟩ : ∃ k1, m.length = k1 := ⟨_, rfl⟩
  have HK := Lib.hid hk1
  have hkn : k1 ≤ 300 := by omega
  rw [hk1] at CL HGs
  clear hB T hn h0 hr hlen hk1
  by_cases hfe : fe = 0
  case neg =>
    have hne : (fe != 0) = true := bne_iff_ne.2 hfe
    have HG0 : Hid ((gapsS b).length = 0) := Lib.hid (by rw [HGs.out, if_pos hfe]; rfl)
    clear hfe HR0 HGs CO HCk HOn CSg
    go_enter Tryd.func7, Tryd.ntmps7
    go_wp2_with fail
    refine (CL.out _ (Below.refl _ _)).mono ?_
    rintro e w1 ⟨v1, cv1, rfl, ho, hb1⟩
    have hB1 := hb1.alloc hb1.size (.cells #[.int .i64 f1, .int .i64 f2] 27)
    clear ho
    go_wp2_with fail
    refine (HG.out _ hB1).mono ?_
    rintro e w2 ⟨vg, rfl, hog, hb2⟩
    have hB2 := below_step hB1 hb2
    obtain ⟨ag, cg, rfl⟩ := own_len hog.out
    rw [HG0.out]
    clear hog
    go_wp2_with fail
    refine (CAw.out _ hB2).mono ?_
    rintro e w3 ⟨rfl, hb3⟩
    go_wp2_with fail
    go_ret
    exact ⟨rfl, below_step hB2 hb3⟩
  subst hfe
  have HRes := Lib.hid (HR0.out rfl)
  have HGl : Hid (gapsS b = gU m k1 ++ [(fromK m k1, (n : Int))]) := Lib.hid (by rw [HGs.out, if_neg (by simp)])
  have HGn : Hid ((gapsS b).length = k1 + 1) := Lib.hid (by rw [HGl.out, List.length_append, gU_len]; rfl)
  have HOn2 := Lib.hid (fun (p off : Nat) hp he => HOn.out p off rfl hp he)
  have w0 : IntKind.i64.wrap ((k1 : Int) + 1) = (k1 : Int) + 1 := by rw [IntKind.wrap_i64]; omega
  clear HR0 HGs HOn
  go_enter Tryd.func7, Tryd.ntmps7
  go_wp2_with fail
  refine (CL.out _ (Below.refl _ _)).mono ?_
  rintro e w1 ⟨v1, cv1, rfl, ho, hb1⟩
  have HT1 := Lib.hid (tks_own ho.out HK.out)
  obtain ⟨W2, hW2⟩ : ∃ W2, W2 = w1.alloc (.cells #[.int .i64 f1, .int .i64 f2] 27) := ⟨_, rfl⟩
  have hB2 : Below w.heap.size w W2 := by rw [hW2]; exact hb1.alloc hb1.size _
  have HT2 : Hid (TksAt W2 (.slice v1 k1 cv1) m) := Lib.hid (by rw [hW2]; exact HT1.out.below (below_b1 _ _) (Nat.le_refl _))
  clear ho HT1
  go_wp2_with fail
  rw [← hW2]
  clear hW2
  refine (HG.out _ hB2).mono ?_
  rintro e w3 ⟨vg, rfl, hog, hb3⟩
  have hB3 := below_step hB2 hb3
  have HT3 := Lib.hid (HT2.out.below hb3 (Nat.le_refl _))
  have hgo := hog.out
  rw [HGn.out] at hgo
  obtain ⟨gg, og, kg, cg, HKg, rfl, hgg, HGc⟩ : ∃ gg og kg cg, Hid (kg = k1 + 1) ∧ vg = .slice (some ⟨gg, og, none⟩) kg cg ∧ gg < w3.heap.size ∧ Hid (∀ j u, (gcs (gapsS b))[j]? = some u → w3.cell? ⟨gg, og + j, none⟩ = some u) := by
    rcases hgo.2 with ⟨_, h0⟩ | ⟨g, cap, cur, rfl, hb, hg, _⟩
    · omega
    · refine ⟨g, 0, k1 + 1, cap, Lib.hid rfl, rfl, (Array.getElem?_eq_some_iff.1 hg).1, Lib.hid fun j u hj => ?_⟩
      have := hgo.cells (g := g) rfl j u hj
      rw [Go.WideShapes.add_plain] at this; exact this
  clear hog hgo HT2
  have hkq : ((kg : Int) != (k1 : Int) + 1) = false := by rw [bne_eq_false_iff_eq, HKg.out]; rfl
  go_wp2_with fail
  -- MARK1
  go_loopw [8, 9] (fun x8 x9 wr => ∃ (k p : Nat), x9 = .int .i64 (k : Int) ∧ x8 = .int .i64 (p : Int) ∧ k ≤ k1 ∧ Hid (Rest m b k p) ∧ Below w3.heap.size w3 wr) (fun _ x9 _ => k1 + 1 - (intOf x9).toNat)
  case atStart => exact ⟨0, 0, rfl, rfl, Nat.zero_le _, HRes, Below.refl _ _⟩
  case round =>
    obtain ⟨k, p, rfl, rfl, hkk, HIn, hbel⟩ := hrel
    have hkz : (0 : Int) ≤ (k : Int) := Int.natCast_nonneg _
    have hBw : Below w.heap.size w wr := hB3.trans (hbel.mono hB3.size)
    have hd : decide ((k : Int) ≤ (k1 : Int)) = true := decide_eq_true (by omega)
    have hkg1 : (k : Int) < (kg : Int) := by have := HKg.out; omega
    have hpn : p ≤ n := by rw [← HNl.out]; exact HIn.out.1
    obtain ⟨q, HQ, hpq, hqn, HSg, HQ2⟩ : ∃ q : Nat, Hid ((gapsS b)[k]? = some ((p : Int), (q : Int))) ∧ p ≤ q ∧ q ≤ n ∧ Hid (lexS (seg b p q) = ([], (0, 0), 0)) ∧ Hid ((k < k1 → ∃ (t : Tok) (r : Nat), m[k]? = some t ∧ t.2.1 = (q : Int) ∧ t.2.2.1 = (r : Int) ∧ q < r ∧ r ≤ n ∧ Rest m b (k + 1) r ∧ (∃ u : Tok, lexS (seg b q r) = ([u], (0, 0), 0) ∧ bareT u = bareT t) ∧ (lexO q (b.drop q)).2.2 = 0) ∧ (k = k1 → q = n)) := by
      have hb3 : b.length ≤ 300 := by rw [HNl.out]; exact hnb
      by_cases hlt : k < k1
      · obtain ⟨t, ht⟩ : ∃ t, m[k]? = some t := ⟨_, List.getElem?_eq_getElem (by rw [HK.out]; exact hlt)⟩
        obtain ⟨q, r, h1, h2, h3, h4, h5, h6, h7, h8, h9, h10⟩ := rest_step HIn.out ht
        have h3' : r ≤ n := by rw [← HNl.out]; exact h3
        obtain ⟨g1, g2⟩ := one_alone hb3 HIn.out ht h7 h8 h9 h10
        refine ⟨q, Lib.hid ?_, h1, by omega, Lib.hid (gap_alone hb3 h7), Lib.hid ⟨fun _ => ⟨t, r, ht, h5, h6, h2, h3', h10, g1, g2⟩, fun h => by omega⟩⟩
        rw [HGl.out, List.getElem?_append_left (by rw [gU_len]; exact hlt), gU_at m k1 k hlt, HIn.out.2.2.2, h4]
      · obtain rfl : k = k1 := by omega
        refine ⟨n, Lib.hid ?_, hpn, Nat.le_refl _, Lib.hid (by have := last_alone hb3 (rest_end (by rw [HK.out]; exact HIn.out)); rw [HNl.out] at this; exact this), Lib.hid ⟨fun h => by omega, fun _ => rfl⟩⟩
        rw [HGl.out, List.getElem?_append_right (by rw [gU_len]; exact Nat.le_refl _), gU_len, Nat.sub_self, HIn.out.2.2.2]; rfl
    obtain ⟨y1, y2⟩ := gcs_at _ HQ.out
    have x1 := (hbel.cell (p := ⟨gg, og + k * 2, none⟩) hgg).trans (HGc.out _ _ y1)
    have x2 := (hbel.cell (p := ⟨gg, og + k * 2 + 1, none⟩) hgg).trans (HGc.out _ _ y2)
    simp only at x1 x2
    have HX1 : Hid (∀ W, Below w3.heap.size w3 W → W.cell? ⟨gg, og + k * 2, none⟩ = some (.int .i64 (p : Int))) := Lib.hid fun W hW => (hW.cell (p := ⟨gg, og + k * 2, none⟩) hgg).trans (HGc.out _ _ y1)
    have HX2 : Hid (∀ W, Below w3.heap.size w3 W → W.cell? ⟨gg, og + k * 2 + 1, none⟩ = some (.int .i64 (q : Int))) := Lib.hid fun W hW => (hW.cell (p := ⟨gg, og + k * 2 + 1, none⟩) hgg).trans (HGc.out _ _ y2)
    have hp0 : (0 : Int) ≤ (p : Int) := Int.natCast_nonneg _
    have hpq' : (p : Int) ≤ (q : Int) := by omega
    have hqc : (q : Int) ≤ (c : Int) := by omega
    have hqc' : q ≤ c := by omega
    have hqp : decide ((q : Int) < (p : Int)) = false := decide_eq_false (by omega)
    have hnq : decide ((n : Int) < (q : Int)) = false := decide_eq_false (by omega)
    have hqp2 : ¬ q < p := by omega
    have hnq2 : ¬ n < q := by omega
    have CS1 := Lib.hid (fun W hW => CSg.out p q _ HSg.out hpq hqn W hW)
    obtain ⟨a', ha'⟩ : ∃ a', (if c = p then a else a.map (·.add p)) = a' := ⟨_, rfl⟩
    rw [ha'] at CS1
    clear y1 y2
    go_wp2_with fail
    -- MARK2
    have htr : True := trivial
    go_region_held3 (fun w' => w'.cell? ⟨gg, og + k * 2, none⟩ = some (.int .i64 (p : Int)) ∧ w'.cell? ⟨gg, og + k * 2 + 1, none⟩ = some (.int .i64 (q : Int))) (first | go_keep | exact ⟨HX1.out _ ((hB6.setCell hbel.size _).setCell hbel.size _), HX2.out _ ((hB6.setCell hbel.size _).setCell hbel.size _)⟩) (first
      | (go_at_call 14; refine (CS1.out _ ((hBw.alloc hBw.size _).drew)).mono ?_; rintro e w5 ⟨v5, cv5, rfl, ho5, hb5⟩; have z5 : w5.heap[wr.heap.size]? = some (.cells #[.int .i64 0, .int .i64 0] 27 (0, 0)) := (hb5.block wr.heap.size (by show wr.heap.size < (wr.alloc _).heap.size; rw [World.size_alloc]; exact Nat.lt_succ_self _)).trans (World.alloc_heap_new wr _); have z50 : w5.cell? ⟨wr.heap.size, 0, none⟩ = some (.int .i64 0) := (by simp [World.cell?, z5]); have z51 : w5.cell? ⟨wr.heap.size, 1, none⟩ = some (.int .i64 0) := (by simp [World.cell?, z5]); have z52 : w5.frozen? ⟨wr.heap.size, 0, none⟩ = false := (by simp [World.frozen?, z5]); have z53 : w5.frozen? ⟨wr.heap.size, 1, none⟩ = false := (by simp [World.frozen?, z5]); have hB5 : Below w.heap.size w w5 := below_step ((hBw.alloc hBw.size _).drew) hb5; have hB6 : Below w3.heap.size w3 w5 := below_step ((hbel.alloc hbel.size _).drew) hb5; have y1 := HX1.out w5 hB6; have y2 := HX2.out w5 hB6)
      | (go_at_call 14; refine (CS1.out _ hBw.drew).mono ?_; rintro e w5 ⟨v5, cv5, rfl, ho5, hb5⟩; have hB5 : Below w.heap.size w w5 := below_step hBw.drew hb5; have hB6 : Below w3.heap.size w3 w5 := below_step hbel.drew hb5; have y1 := HX1.out w5 hB6; have y2 := HX2.out w5 hB6))
    all_goals
      first
        | (have _zz := z5
           clear _zz
           have hB7 : Below w3.heap.size w3 ((w5.setCell ⟨wr.heap.size, 0, none⟩ (.int .i64 0)).setCell ⟨wr.heap.size, 1, none⟩ (.int .i64 0)) := (hB6.setCell hbel.size _).setCell hbel.size _
           revert hB7
           generalize ((w5.setCell ⟨wr.heap.size, 0, none⟩ (.int .i64 0)).setCell ⟨wr.heap.size, 1, none⟩ (.int .i64 0)) = W6
           intro hB7)
        | (have hB7 : Below w3.heap.size w3 (w5.alloc (.cells #[.int .i64 0, .int .i64 0] 27)) := hB6.alloc hB6.size _
           revert hB7
           generalize (w5.alloc (.cells #[.int .i64 0, .int .i64 0] 27)) = W6
           intro hB7)
      have hBW6 : Below w.heap.size w W6 := hB3.trans (hB7.mono hB3.size)
      have x6 := HX2.out W6 hB7
      have HT6 := Lib.hid (HT3.out.below hB7 (Nat.le_refl _))
      clear hB5 hB6 hb5 x1 x2
      by_cases hlt : k < k1
      case neg =>
        obtain rfl : k = k1 := by omega
        obtain rfl : q = n := HQ2.out.2 rfl
        go_wp2_with fail
        refine (CAw.out _ hBW6).mono ?_
        rintro e wz ⟨rfl, hbz⟩
        go_wp2_with fail
        go_ret
        exact ⟨rfl, below_step hBW6 hbz⟩
      obtain ⟨t, r, ht, htf, htt, hqr, hrn, hrest, ⟨u, hu, hub⟩, hlq⟩ := HQ2.out.1 hlt
      have HRst := Lib.hid hrest
      obtain ⟨ck1, ck2, ck3⟩ := HCk.out t (List.mem_of_getElem? ht)
      obtain ⟨gt, off, cc, hv, hg, hcl⟩ := HT6.out.some (by intro e; rw [e] at ht; cases ht)
      obtain ⟨rfl, hv2, rfl⟩ := Value.slice.inj hv
      obtain ⟨a0, a1, a2, a3, a4⟩ := tcs_at m ht
      have F : ∀ j u, (tcs m)[j]? = some u → W6.cell? ⟨gt, off + j, none⟩ = some u := hcl
      have c0 : W6.cell? ⟨gt, off + k * 5, none⟩ = _ := F _ _ a0
      have c1 : W6.cell? ⟨gt, off + k * 5 + 1, none⟩ = _ := F _ _ a1
      have c2 : W6.cell? ⟨gt, off + k * 5 + 2, none⟩ = _ := F _ _ a2
      have c3 : W6.cell? ⟨gt, off + k * 5 + 3, none⟩ = _ := F _ _ a3
      have c4 : W6.cell? ⟨gt, off + k * 5 + 4, none⟩ = _ := F _ _ a4
      obtain ⟨tk, tf, tt, tn, tx⟩ := t
      simp only at c0 c1 c2 c3 c4 htf htt ck1 ck2 ck3 hub
      subst htf htt
      have CCk := Lib.hid (fun W (hW : Below w.heap.size w W) => Check_any tk (q : Int) (r : Int) tn tx W ck2 (HT.out.below hW) (by omega))
      rw [ck1] at CCk
      have CSm := Lib.hid (fun v v' W h h' => Same_any v v' [u] [(tk, (q : Int), (r : Int), tn, tx)] W h h' (by show 1 ≤ 1000000; omega) (by show [bareT u] = [bareT _]; rw [hub]))
      have CTl := Lib.hid (fun W => tks_lit (w := W) (l := [(tk, (q : Int), (r : Int), tn, tx)]) (C := #[.int .i64 tk, .int .i64 (q : Int), .int .i64 (r : Int), .int .i64 tn, .string (str tx)]) rfl 1 rfl)
      obtain ⟨X, hX⟩ : ∃ X, str tx = X := ⟨_, rfl⟩
      rw [hX] at c4 CCk CTl
      have d3 := World.alloc_heap_new W6 (.cells #[.int .i64 tk, .int .i64 (q : Int), .int .i64 (r : Int), .int .i64 tn, .string X] 33)
      obtain ⟨W7, hW7⟩ : ∃ W7, W7 = W6.alloc (.cells #[.int .i64 tk, .int .i64 (q : Int), .int .i64 (r : Int), .int .i64 tn, .string X] 33) := ⟨_, rfl⟩
      have hB8 : Below w3.heap.size w3 W7 := by rw [hW7]; exact hB7.alloc hB7.size _
      have hs7 : W6.heap.size < W7.heap.size := by rw [hW7, World.size_alloc]; exact Nat.lt_succ_self _
      have hBW7 : Below w.heap.size w W7 := hB3.trans (hB8.mono hB3.size)
      obtain ⟨A, hA⟩ : ∃ A, W6.heap.size = A := ⟨_, rfl⟩
      have HBx : Hid (∀ W, Below W7.heap.size W7 W → W.heap[A]? = some (.cells #[.int .i64 tk, .int .i64 (q : Int), .int .i64 (r : Int), .int .i64 tn, .string X] 33 (0, 0))) := Lib.hid fun W hW => by
        rw [← hA, hW.block _ hs7, hW7]; exact World.alloc_heap_new _ _
      have hA3 : w3.heap.size ≤ A := by rw [← hA]; exact hB7.size
      have hlit : (k : Int) < (k1 : Int) := by omega
      have hqz : (0 : Int) ≤ (q : Int) := Int.natCast_nonneg _
      have hqr' : (q : Int) ≤ (r : Int) := by omega
      have hrc : (r : Int) ≤ (c : Int) := by omega
      have hrc' : r ≤ c := by omega
      have hqr2 : q ≤ r := by omega
      have e1 : decide ((r : Int) ≤ (q : Int)) = false := decide_eq_false (by omega)
      have e2 : decide ((n : Int) < (r : Int)) = false := decide_eq_false (by omega)
      have e3 : ¬ r ≤ q := by omega
      have e4 : ¬ n < r := by omega
      have e5 : ((k : Int) == (k1 : Int)) = false := beq_eq_false_iff_ne.2 (by omega)
      have e6 : ¬ k = k1 := by omega
      obtain ⟨⟨f0, f1', f2', f3, f4⟩, _⟩ := box5_facts d3
      have CS2 := Lib.hid (fun W hW => CSg.out q r _ hu hqr2 hrn W hW)
      rw [if_neg (show ¬ c = q by omega)] at CS2
      obtain ⟨a5, ha5⟩ : ∃ a', a.map (·.add q) = a' := ⟨_, rfl⟩
      rw [ha5] at CS2
      have HO1 := HOn2.out q q (by rw [HNl.out]; exact hqn) hlq
      have HO2 := HOn2.out r r (by rw [HNl.out]; exact hrn) HRst.out.2.2.1
      have hbl : b.length ≤ 1000000 := by rw [HNl.out]; omega
      have CO1 := Lib.hid (fun W hW => CO.out W (q : Int) hW hbl)
      have CO2 := Lib.hid (fun W hW => CO.out W (r : Int) hW hbl)
      rw [HO1] at CO1
      rw [HO2] at CO2
      clear hv hv2 hcl F a0 a1 a2 a3 a4 ht hX hrest hu hub hlq HO1 HO2 hbl ck1 ck2 ck3
      go_wp2_with fail
      -- MARK4
      rw [← hW7]
      try rw [hA]
      clear hW7 f0 f1' f2' f3 f4 d3 c0 c1 c2 c3 c4
      refine (CCk.out W7 hBW7).mono ?_
      rintro e w8 ⟨rfl, hb8⟩
      have hBW8 := below_step hBW7 hb8
      have HS1 : Hid (∀ W, Below W7.heap.size W7 W → W.cell? ⟨A, 1, none⟩ = some (.int .i64 (q : Int))) := Lib.hid fun W hW => (box5_facts (HBx.out W hW)).1.2.1
      have HS2 : Hid (∀ W, Below W7.heap.size W7 W → W.cell? ⟨A, 2, none⟩ = some (.int .i64 (r : Int))) := Lib.hid fun W hW => (box5_facts (HBx.out W hW)).1.2.2.1
      have s1 := HS1.out w8 hb8
      have s2 := HS2.out w8 hb8
      go_wp2_with fail
      -- MARK5
      refine (CS2.out w8 hBW8).mono ?_
      rintro e w9 ⟨v9, cv9, rfl, ho9, hb9⟩
      have hBC : Below W7.heap.size W7 w9 := below_step hb8 hb9
      obtain ⟨W10, hW10⟩ : ∃ W10, W10 = w9.alloc (.cells #[.int .i64 0, .int .i64 0] 27) := ⟨_, rfl⟩
      have HU : Hid (TksAt W10 (.slice v9 1 cv9) [u]) := Lib.hid (by rw [hW10]; exact (tks_own ho9.out rfl).below (below_b1 _ _) (Nat.le_refl _))
      have hBD : Below W7.heap.size W7 W10 := by rw [hW10]; exact hBC.alloc hBC.size _
      have hBWd : Below w.heap.size w W10 := hBW7.trans (hBD.mono hBW7.size)
      have s3 := HS1.out W10 hBD
      have s30 := s3
      rw [hW10] at s30
      clear ho9
      go_wp2_with fail
      -- MARK6
      rw [← hW10]
      clear hW10 s30
      refine (CO1.out W10 hBWd).mono ?_
      rintro e w11 ⟨rfl, hb11⟩
      have hBWe := below_step hBWd hb11
      have hBE : Below W7.heap.size W7 w11 := hBD.trans (hb11.mono hBD.size)
      have s4 := HS2.out w11 hBE
      have HU11 := Lib.hid (HU.out.below hb11 (Nat.le_refl _))
      go_wp2_with fail
      refine (CO2.out _ hBWe).mono ?_
      rintro e w12 ⟨rfl, hb12⟩
      have hBWf := below_step hBWe hb12
      have hBF : Below W7.heap.size W7 w12 := hBE.trans (hb12.mono hBE.size)
      obtain ⟨⟨p0, p1, p2, p3, p4⟩, _⟩ := box5_facts (HBx.out w12 hBF)
      have HU12 := Lib.hid (HU11.out.below hb12 (Nat.le_refl _))
      have hb13 : Below w12.heap.size w12 (w12.alloc (.cells #[.int .i64 tk, .int .i64 (q : Int), .int .i64 (r : Int), .int .i64 tn, .string X] 33)) := below_b1 _ _
      have CS13 := Lib.hid (CSm.out _ _ _ (HU12.out.below hb13 (Nat.le_refl _)) (CTl.out w12))
      have hB13 := hBF.trans (hb13.mono hBF.size)
      go_wp2_with fail
      -- MARK7
      refine CS13.out.mono ?_
      rintro e w14 ⟨rfl, hb14⟩
      have hB14 := hB13.trans (hb14.mono hB13.size)
      have s5 := HS2.out w14 hB14
      have hBend : Below w3.heap.size w3 w14 := hB8.trans (hB14.mono hB8.size)
      go_wp2_with fail
      exact ⟨⟨k + 1, r, by go_num, rfl, by omega, HRst, hBend⟩, by simp [intOf]; omega⟩
-- MARK9
end Go.Proofs.YtcnekeahlcbflaaDoor
