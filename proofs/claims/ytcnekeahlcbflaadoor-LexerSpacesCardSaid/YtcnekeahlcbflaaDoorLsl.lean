/- The law LexerSpaces. -/
import Derived.Test.YtcnekeahlcbflaaDoorLms
import Derived.Laws.Concat
namespace Go.Proofs.YtcnekeahlcbflaaDoor
open Go.RowKit Go.PlainAid

theorem gU_at (l : List Tok) : ∀ (j k : Nat), k < j → (gU l j)[k]? = some (fromK l k, headK l k) := by
  intro j
  induction j with
  | zero => intro k h; omega
  | succ j ih =>
    intro k h
    rw [gU]
    by_cases e : k = j
    · subst e; rw [List.getElem?_append_right (by rw [gU_len]; exact Nat.le_refl _), gU_len, Nat.sub_self]; rfl
    · rw [List.getElem?_append_left (by rw [gU_len]; omega)]; exact ih k (by omega)
theorem str_cat5 (a b : List UInt8) : str a ++ str b = str (a ++ b) := by apply ByteArray.ext; simp [str]
/-- What is put in, without the line's end. -/
def putP : Nat → List UInt8
  | 1 => [32]
  | 2 => [59, 97, 34, 40, 10]
  | 3 => [13, 10]
  | 4 => [59, 32, 10, 59, 59, 35, 10, 9]
  | _ => []
theorem putP_0 : putT 0 = putP 0 := rfl
theorem putP_s {j : Nat} (h : j ≠ 0) (h5 : j < 5) : putT j = [10] ++ putP j := by
  match j with
  | 0 => exact absurd rfl h
  | 1 => rfl
  | 2 => rfl
  | 3 => rfl
  | 4 => rfl
  | j + 5 => omega
theorem head_at {N : List Nat} {k y : Nat} (h : N[k]? = some y) : (N.drop k).headD 0 = y := by
  obtain ⟨hk, e⟩ := List.getElem?_eq_some_iff.1 h
  rw [List.drop_eq_getElem_cons hk, e]; rfl
theorem head_no {N : List Nat} {k : Nat} (h : N.length ≤ k) : (N.drop k).headD 0 = 0 := by rw [List.drop_of_length_le h]; rfl
theorem add_str {P : Program} (x y : List UInt8) (h : x.length + y.length ≤ 100000) (W : World) : (Op.stringOp .add (str x) (str y)).run P W = .ok (.string (str (x ++ y))) W := by
  rw [run_string_add_sum W _ _ (by rw [str_size, str_size]; omega), str_cat5]
set_option maxRecDepth 100000 in
set_option maxHeartbeats 12800000 in
theorem lawSpc_any (va vm : Value) (b ms : List UInt8) (w : World) (ha : ArgAt w va (b.map bc)) (hm : ArgAt w vm (ms.map bc)) (T : PTabs w) :
    Calls Tryd.prog 9 #[va, vm] w fun e w' => e = .returned (.bool true) ∧ Below w.heap.size w w' := by
  obtain ⟨a, n, c, rfl, hn, hcap, hB⟩ := arg_form ha
  obtain ⟨a2, n2, c2, rfl, hn2, hcap2, hM⟩ := arg_form hm
  have CAw := Lib.hid (fun W (hW : Below w.heap.size w W) => awake_any W (T.below hW))
  clear ha hm
  by_cases h0 : 300 < n
  · have d0 : decide ((300 : Int) < (n : Int)) = true := decide_eq_true (by omega)
    clear hB hM T hn hn2 h0
    go_enter Tryd.func9, Tryd.ntmps9
    go_wp2_with fail
    refine (CAw.out _ (Below.refl _ _)).mono ?_
    rintro e w9 ⟨rfl, hb9⟩
    go_wp2_with fail
    go_ret
    exact ⟨rfl, hb9⟩
  have d0 : decide ((300 : Int) < (n : Int)) = false := decide_eq_false (by omega)
  by_cases h1 : 300 < n2
  · have d1 : decide ((300 : Int) < (n2 : Int)) = true := decide_eq_true (by omega)
    clear hB hM T hn hn2 h1
    go_enter Tryd.func9, Tryd.ntmps9
    go_wp2_with fail
    refine (CAw.out _ (Below.refl _ _)).mono ?_
    rintro e w9 ⟨rfl, hb9⟩
    go_wp2_with fail
    go_ret
    exact ⟨rfl, hb9⟩
  have d1 : decide ((300 : Int) < (n2 : Int)) = false := decide_eq_false (by omega)
  have hlen := lex_len b
  have HG := Lib.hid (fun W (hW : Below w.heap.size w W) => Gaps_any a n c b W (RowAt.below hB hW (Nat.le_refl _)) hcap (by omega) hn (T.below hW).lt)
  obtain ⟨r, hr⟩ : ∃ r, lexS b = r := ⟨_, rfl⟩
  have HSp := Lib.hid (fun h => spc_all (b := b) (by omega) (ms.map fun x => x.toNat % 5) h)
  have HR0 := Lib.hid (fun h => rest_0 (b := b) (by omega) h)
  have HGs : Hid (gapsS b = if r.2.2 ≠ 0 then [] else gU r.1 r.1.length ++ [(fromK r.1 r.1.length, (n : Int))]) := Lib.hid (by unfold gapsS; rw [hr, hn])
  have CL := Lib.hid (fun W (hW : Below w.heap.size w W) => Lex_at hr r.1.length rfl a n c W (RowAt.below hB hW (Nat.le_refl _)) hcap (by omega) hn (T.below hW).lt)
  rw [hr] at HG HSp HR0 hlen
  obtain ⟨m, ⟨f1, f2⟩, fe⟩ := r
  simp only at HG HSp HR0 HGs CL hlen
  have HBy := Lib.hid hB
  have HMy := Lib.hid hM
  have HT := Lib.hid T
  have HNl := Lib.hid hn
  have HN2 := Lib.hid hn2
  have hnb : n ≤ 300 := by omega
  have hn2b : n2 ≤ 300 := by omega
  obtain ⟨k1, hk1⟩ : ∃ k1, m.length = k1 := ⟨_, rfl⟩
  have HK := Lib.hid hk1
  have hkn : k1 ≤ 300 := by omega
  rw [hk1] at CL HGs
  clear hB hM T hn hn2 h0 h1 hr hlen hk1
  by_cases hfe : fe = 0
  case neg =>
    have hne : (fe != 0) = true := bne_iff_ne.2 hfe
    clear hfe HSp HR0 HGs
    go_enter Tryd.func9, Tryd.ntmps9
    go_wp2_with fail
    refine (CL.out _ (Below.refl _ _)).mono ?_
    rintro e w1 ⟨v1, cv1, rfl, ho, hb1⟩
    have hB1 := hb1.alloc hb1.size (.cells #[.int .i64 f1, .int .i64 f2] 27)
    clear ho
    go_wp2_with fail
    refine (HG.out _ hB1).mono ?_
    rintro e w2 ⟨vg, rfl, hog, hb2⟩
    have hB2 := below_step hB1 hb2
    clear hog
    go_wp2_with fail
    refine (CAw.out _ hB2).mono ?_
    rintro e w3 ⟨rfl, hb3⟩
    go_wp2_with fail
    go_ret
    exact ⟨rfl, below_step hB2 hb3⟩
  subst hfe
  obtain ⟨sp1, sp2, sp3⟩ := HSp.out rfl
  have HRes := Lib.hid (HR0.out rfl)
  obtain ⟨N, hN⟩ : ∃ N, ms.map (fun x => x.toNat % 5) = N := ⟨_, rfl⟩
  have HNN := Lib.hid hN
  rw [hN] at sp1 sp2 sp3
  obtain ⟨Wt, hWt⟩ : ∃ Wt, spcF b.length N b = Wt := ⟨_, rfl⟩
  have HWt := Lib.hid hWt
  rw [hWt] at sp1 sp2 sp3
  obtain ⟨r2, hr2⟩ : ∃ r, lexS Wt = r := ⟨_, rfl⟩
  have CL2 := Lib.hid (fun a3 c3 W (hW : Below w.heap.size w W) (hv : BytesAt W (.slice a3 Wt.length c3) Wt) (hc : Wt.length ≤ c3) => Lex_at hr2 r2.1.length rfl a3 Wt.length c3 W hv hc (by omega) rfl (HT.out.below hW).lt)
  rw [hr2] at sp2 sp3
  obtain ⟨m2, ⟨g1, g2⟩, ge⟩ := r2
  simp only at sp2 sp3 CL2
  subst sp2
  obtain ⟨k2, hk2⟩ : ∃ k2, m2.length = k2 := ⟨_, rfl⟩
  have HK2 := Lib.hid hk2
  have CSm := Lib.hid (fun v v' W h h' => Same_any v v' m m2 W h h' (by rw [HK.out]; omega) sp3.symm)
  rw [hk2] at CL2
  have HGl : Hid (gapsS b = gU m k1 ++ [(fromK m k1, (n : Int))]) := Lib.hid (by rw [HGs.out, if_neg (by simp)])
  have HGn : Hid ((gapsS b).length = k1 + 1) := Lib.hid (by rw [HGl.out, List.length_append, gU_len]; rfl)
  have HWl := Lib.hid sp1
  have HCv := Lib.hid (fun W => conv_at Wt W)
  obtain ⟨nw, hnw⟩ : ∃ nw, Wt.length = nw := ⟨_, rfl⟩
  rw [hnw] at CL2 HCv
  clear sp3 hr2 hk2 hN hWt HSp HR0 HGs sp1 hnw
  go_enter Tryd.func9, Tryd.ntmps9
  go_wp2_with fail
  refine (CL.out _ (Below.refl _ _)).mono ?_
  rintro e w1 ⟨v1, cv1, rfl, ho, hb1⟩
  have HT1 := Lib.hid (tks_own ho.out HK.out)
  obtain ⟨W2, hW2⟩ : ∃ W2, W2 = w1.alloc (.cells #[.int .i64 f1, .int .i64 f2] 27) := ⟨_, rfl⟩
  have hB2 : Below w.heap.size w W2 := by rw [hW2]; exact hb1.alloc hb1.size _
  have HT2 : Hid (TksAt W2 (.slice v1 k1 cv1) m) := Lib.hid (by rw [hW2]; exact HT1.out.below (below_b1 _ _) (Nat.le_refl _))
  clear ho HT1
  go_wp2_with fail
  rw [← hW2]
  clear hW2
  refine (HG.out _ hB2).mono ?_
  rintro e w3 ⟨vg, rfl, hog, hb3⟩
  have hB3 := below_step hB2 hb3
  have HT3 := Lib.hid (HT2.out.below hb3 (Nat.le_refl _))
  have hgo := hog.out
  rw [HGn.out] at hgo
  obtain ⟨gg, og, kg, cg, HKg, rfl, hgg, HGc⟩ : ∃ gg og kg cg, Hid (kg = k1 + 1) ∧ vg = .slice (some ⟨gg, og, none⟩) kg cg ∧ gg < w3.heap.size ∧ Hid (∀ j u, (gcs (gapsS b))[j]? = some u → w3.cell? ⟨gg, og + j, none⟩ = some u) := by
    rcases hgo.2 with ⟨_, h0⟩ | ⟨g, cap, cur, rfl, hb, hg, _⟩
    · omega
    · refine ⟨g, 0, k1 + 1, cap, Lib.hid rfl, rfl, (Array.getElem?_eq_some_iff.1 hg).1, Lib.hid fun j u hj => ?_⟩
      have := hgo.cells (g := g) rfl j u hj
      rw [Go.WideShapes.add_plain] at this; exact this
  clear hog hgo HT2
  go_wp2_with fail
  -- MARK1
  obtain ⟨W4, hW4⟩ : ∃ W4, W4 = w3.alloc (.cells #[.string ⟨#[]⟩, .string ⟨#[32]⟩, .string ⟨#[59, 97, 34, 40, 10]⟩, .string ⟨#[13, 10]⟩, .string ⟨#[59, 32, 10, 59, 59, 35, 10, 9]⟩] 53) := ⟨_, rfl⟩
  have hb4 : Below w3.heap.size w3 W4 := by rw [hW4]; exact below_b1 _ _
  obtain ⟨A, hA⟩ : ∃ A, w3.heap.size = A := ⟨_, rfl⟩
  have hs4 : W4.heap.size = A + 1 := by rw [hW4, World.size_alloc, hA]
  have hB4 := below_step hB3 hb4
  have HT4 := Lib.hid (HT3.out.below hb4 (Nat.le_refl _))
  have HG4 : Hid (∀ j u, (gcs (gapsS b))[j]? = some u → W4.cell? ⟨gg, og + j, none⟩ = some u) := Lib.hid fun j u hj => (hb4.cell (p := ⟨gg, og + j, none⟩) hgg).trans (HGc.out j u hj)
  have HP4 : Hid (∀ y, y < 5 → W4.cell? ⟨A, y, none⟩ = some (.string (str (putP y)))) := Lib.hid fun y hy => by
    have hh : W4.heap[A]? = some (.cells #[.string ⟨#[]⟩, .string ⟨#[32]⟩, .string ⟨#[59, 97, 34, 40, 10]⟩, .string ⟨#[13, 10]⟩, .string ⟨#[59, 32, 10, 59, 59, 35, 10, 9]⟩] 53 (0, 0)) := by rw [hW4, ← hA]; exact World.alloc_heap_new _ _
    match y, hy with
    | 0, _ => simp [World.cell?, hh]; rfl
    | 1, _ => simp [World.cell?, hh]; rfl
    | 2, _ => simp [World.cell?, hh]; rfl
    | 3, _ => simp [World.cell?, hh]; rfl
    | 4, _ => simp [World.cell?, hh]; rfl
  rw [← hW4]
  rw [hA] at hgg ⊢
  clear hW4 HGc HT3 hA
  have e0 : (Value.string ⟨#[]⟩) = .string (str []) := rfl
  go_loopw [11, 12] (fun x11 x12 wr => ∃ (k : Nat) (s : List UInt8), x12 = .int .i64 (k : Int) ∧ x11 = .string (str s) ∧ ((k ≤ k1 ∧ ∃ p, Hid (Rest m b k p ∧ SoFar b N k p s)) ∨ (k = k1 + 1 ∧ s = Wt)) ∧ Below W4.heap.size W4 wr) (fun _ x12 _ => k1 + 1 - (intOf x12).toNat)
  case atStart => exact ⟨0, [], rfl, rfl, .inl ⟨Nat.zero_le _, 0, Lib.hid ⟨HRes.out, soFar_0 b N⟩⟩, Below.refl _ _⟩
  case round =>
    obtain ⟨k, s, rfl, rfl, hinv, hbel⟩ := hrel
    have hkz : (0 : Int) ≤ (k : Int) := Int.natCast_nonneg _
    have hBw : Below w.heap.size w wr := hB4.trans (hbel.mono hB4.size)
    have hkg := HKg.out
    by_cases hkk : k ≤ k1
    case neg =>
      obtain ⟨rfl, rfl⟩ : k = k1 + 1 ∧ s = Wt := hinv.resolve_left (fun h => hkk h.1)
      obtain rfl : kg = k1 + 1 := hkg
      have hd0 : decide (((k1 + 1 : Nat) : Int) < ((k1 + 1 : Nat) : Int)) = false := decide_eq_false (Int.lt_irrefl _)
      obtain ⟨kg, hkgg⟩ : ∃ kg, k1 + 1 = kg := ⟨_, rfl⟩
      rw [hkgg] at hd0 ⊢
      obtain ⟨S, hS⟩ : ∃ S, str s = S := ⟨_, rfl⟩
      rw [hS] at HCv ⊢
      obtain ⟨cap5, W5, hcv5, hb5, hcap5, hlt5, hby5⟩ := HCv.out wr
      have hB5 := below_step hBw hb5
      have HBy5 := Lib.hid hby5
      have HT5 := Lib.hid ((HT4.out.below hbel (Nat.le_refl _)).below hb5 (Nat.le_refl _))
      clear hby5 hkk hkgg hS hinv HRes HG4 HP4
      go_wp2_with fail
      refine (CL2.out _ _ W5 hB5 HBy5.out hcap5).mono ?_
      rintro e w6 ⟨v6, cv6, rfl, ho6, hb6⟩
      have hB6 := below_step hB5 hb6
      have HT6 := Lib.hid (HT5.out.below hb6 (Nat.le_refl _))
      have HU6 := Lib.hid (tks_own ho6.out HK2.out)
      obtain ⟨W7, hW7⟩ : ∃ W7, W7 = w6.alloc (.cells #[.int .i64 g1, .int .i64 g2] 27) := ⟨_, rfl⟩
      have hb7 : Below w6.heap.size w6 W7 := by rw [hW7]; exact below_b1 _ _
      have hB7 := below_step hB6 hb7
      have CS7 := Lib.hid (CSm.out _ _ W7 (HT6.out.below hb7 (Nat.le_refl _)) (HU6.out.below hb7 (Nat.le_refl _)))
      clear ho6 HT5 HT6 HU6
      go_wp2_with fail
      -- MARK4
      rw [← hW7]
      clear hW7
      refine CS7.out.mono ?_
      rintro e w8 ⟨rfl, hb8⟩
      have hB8 := below_step hB7 hb8
      go_wp2_with fail
      refine (CAw.out _ hB8).mono ?_
      rintro e w9 ⟨rfl, hb9⟩
      go_wp2_with fail
      go_ret
      exact ⟨rfl, below_step hB8 hb9⟩
    obtain ⟨p, HIn⟩ : ∃ p, Hid (Rest m b k p ∧ SoFar b N k p s) := by
      rcases hinv with h | h
      · exact h.2
      · omega
    have hd : decide ((k : Int) < (kg : Int)) = true := decide_eq_true (by omega)
    have hkg1 : (k : Int) < (kg : Int) := by omega
    have HpN := HIn.out.1.1
    have hpn : p ≤ n := by rw [← HNl.out]; exact HpN
    have HWlen : Hid (s.length ≤ 8000) := Lib.hid (by
      obtain ⟨f, _, e⟩ := HIn.out.2
      have := congrArg List.length e
      rw [List.length_append, HWt.out] at this
      have := HWl.out; omega)
    -- how the gap ends
    obtain ⟨q, HQ, hpq, hqn, HQ2⟩ : ∃ q : Nat, Hid ((gapsS b)[k]? = some ((p : Int), (q : Int))) ∧ p ≤ q ∧ q ≤ n ∧ Hid ((k < k1 → ∃ (t : Tok) (r : Nat), m[k]? = some t ∧ t.2.1 = (q : Int) ∧ t.2.2.1 = (r : Int) ∧ q < r ∧ r ≤ n ∧ Rest m b (k + 1) r ∧ q = p + spN (b.drop p) ∧ r = q + tokN (b.drop q) ∧ b.drop q ≠ []) ∧ (k = k1 → q = n ∧ (b.drop p).drop (spN (b.drop p)) = [])) := by
      by_cases hlt : k < k1
      · obtain ⟨t, ht⟩ : ∃ t, m[k]? = some t := ⟨_, List.getElem?_eq_getElem (by rw [HK.out]; exact hlt)⟩
        obtain ⟨q, r, h1, h2, h3, h4, h5, h6, h7, h8, h9, h10⟩ := rest_step HIn.out.1 ht
        have h3' : r ≤ n := by rw [← HNl.out]; exact h3
        refine ⟨q, Lib.hid ?_, h1, by omega, Lib.hid ⟨fun _ => ⟨t, r, ht, h5, h6, h2, h3', h10, h7, h8, h9⟩, fun h => by omega⟩⟩
        rw [HGl.out, List.getElem?_append_left (by rw [gU_len]; exact hlt), gU_at m k1 k hlt, HIn.out.1.2.2.2, h4]
      · obtain rfl : k = k1 := by omega
        refine ⟨n, Lib.hid ?_, hpn, Nat.le_refl _, Lib.hid ⟨fun h => by omega, fun _ => ⟨rfl, rest_end (by rw [HK.out]; exact HIn.out.1)⟩⟩⟩
        rw [HGl.out, List.getElem?_append_right (by rw [gU_len]; exact Nat.le_refl _), gU_len, Nat.sub_self, HIn.out.1.2.2.2]; rfl
    obtain ⟨y1, y2⟩ := gcs_at _ HQ.out
    have x1 := (hbel.cell (p := ⟨gg, og + k * 2, none⟩) (Nat.lt_of_lt_of_le hgg (by omega))).trans (HG4.out _ _ y1)
    have x2 := (hbel.cell (p := ⟨gg, og + k * 2 + 1, none⟩) (Nat.lt_of_lt_of_le hgg (by omega))).trans (HG4.out _ _ y2)
    simp only at x1 x2
    have hcv := fun W (hW : Below w.heap.size w W) => conv_seg (RowAt.below HBy.out hW (Nat.le_refl _)) hpq hqn hcap
    have hp0 : (0 : Int) ≤ (p : Int) := Int.natCast_nonneg _
    have hpq' : (p : Int) ≤ (q : Int) := by omega
    have hqc : (q : Int) ≤ (c : Int) := by omega
    have hqc' : q ≤ c := by omega
    have hcvN := fun k => hcv (wr.drewN k) (hBw.trans ((below_drewN wr k).mono hBw.size))
    obtain ⟨G, hG⟩ : ∃ G, seg b p q = G := ⟨_, rfl⟩
    simp only [hG] at hcvN
    have HGe := Lib.hid hG
    have HGle : G.length ≤ 300 := by rw [← hG]; unfold seg; rw [List.length_take, List.length_drop, HNl.out]; omega
    have ho1 := fun W => add_str (P := Tryd.prog) s G (by have := HWlen.out; omega) W
    clear y1 y2 hinv HpN
    have HcvA := Lib.hid hcv
    have HGd : Hid (q = n → G = b.drop p) := Lib.hid (by
      intro e
      rw [← hG, e, ← HNl.out]; unfold seg
      exact List.take_of_length_le (by rw [List.length_drop]; exact Nat.le_refl _))
    clear hcv hG hkg hpq' 
    have HGt : Hid (G = (b.drop p).take (q - p)) := Lib.hid HGe.out.symm
    obtain ⟨Gb, hGb⟩ : ∃ X, str G = X := ⟨_, rfl⟩
    obtain ⟨S0, hS0⟩ : ∃ X, str s = X := ⟨_, rfl⟩
    obtain ⟨S1, hS1⟩ : ∃ X, str (s ++ G) = X := ⟨_, rfl⟩
    simp only [hGb] at hcvN
    simp only [hS1, hGb, hS0] at ho1
    rw [hS0]
    clear hGb hS0
    by_cases hk2 : k < n2
    · skip
      obtain ⟨x, hx⟩ : ∃ x, ms[k]? = some x := ⟨_, List.getElem?_eq_getElem (by rw [HN2.out]; exact hk2)⟩
      obtain ⟨g2', o2', rfl, x3⟩ : ∃ g o, a2 = some ⟨g, o, none⟩ ∧ wr.cell? ⟨g, o + k, none⟩ = some (.int .u8 (ub x)) := by
        rcases RowAt.below HMy.out hBw (Nat.le_refl _) with ⟨a', c', e, hnil⟩ | ⟨g, off, n', cap, e, hnn, hg, hc⟩
        · have := (Value.slice.inj e).2.1; omega
        · exact ⟨g, off, (Value.slice.inj e).1, hc k _ (bc_at hx)⟩
      obtain ⟨xn, hxn⟩ : ∃ xn : Nat, x.toNat = xn := ⟨_, rfl⟩
      have hxu : ub x = (xn : Int) := by unfold ub; rw [hxn]
      rw [hxu] at x3
      obtain ⟨y, hy⟩ : ∃ y, xn % 5 = y := ⟨_, rfl⟩
      have hy5 : y < 5 := by omega
      have hxn256 : xn < 256 := by rw [← hxn]; exact x.toNat_lt
      have hm1 : (xn : Int) % 5 = (y : Int) := by omega
      have hm2 : (xn : Int).tmod 5 = (y : Int) := by rw [Int.tmod_eq_emod_of_nonneg (Int.natCast_nonneg _)]; exact hm1
      have hyz : (0 : Int) ≤ (y : Int) := Int.natCast_nonneg _
      have hy5' : (y : Int) < 5 := by omega
      have x4 := (hbel.cell (p := ⟨A, y, none⟩) (by show A < W4.heap.size; omega)).trans (HP4.out y hy5)
      have hb2 : decide ((k : Int) < (n2 : Int)) = true := decide_eq_true (by omega)
      have hk2' : (k : Int) < (n2 : Int) := by omega
      have HHd : Hid ((N.drop k).headD 0 = y) := Lib.hid (head_at (by rw [← HNN.out, List.getElem?_map, hx, ← hy, ← hxn]; rfl))
      obtain ⟨Pb, hPb⟩ : ∃ X, str (putP y) = X := ⟨_, rfl⟩
      rw [hPb] at x4
      clear hx hxu hxn hy hxn256
      by_cases hy0 : y = 0
      · skip
        subst hy0
        have hy00 : (((0 : Nat) : Int) != 0) = false := rfl
        have ho2 := fun W => add_str (P := Tryd.prog) (s ++ G) (putP 0) (by rw [List.length_append]; have := HWlen.out; show _ + 0 ≤ _; omega) W
        have HZ : Hid ((s ++ G) ++ putT ((N.drop k).headD 0) = ((s ++ G) ++ putP 0)) := Lib.hid (by rw [HHd.out, putP_0])
        obtain ⟨S3, hS3⟩ : ∃ X, str ((s ++ G) ++ putP 0) = X := ⟨_, rfl⟩
        simp only [hS3, hPb, hS1] at ho2
        have HS3 := Lib.hid hS3
        clear hS1 hPb
        by_cases hc1 : k < k1
        · obtain ⟨t, r, ht, htf, htt, hqr, hrn, hrest, hq1, hr1, hne1⟩ := HQ2.out.1 hc1
          obtain ⟨gt, off, cc, hv, hg, hcl⟩ := (HT4.out.below hbel (Nat.le_refl _)).some (by intro e; rw [e] at ht; cases ht)
          obtain ⟨rfl, hv2, rfl⟩ := Value.slice.inj hv
          obtain ⟨z0, z1, z2, z3, z4⟩ := tcs_at m ht
          have x5 : wr.cell? ⟨gt, off + k * 5 + 1, none⟩ = _ := hcl _ _ z1
          have x6 : wr.cell? ⟨gt, off + k * 5 + 2, none⟩ = _ := hcl _ _ z2
          rw [htf] at x5
          rw [htt] at x6
          have hb3 : decide ((k : Int) < (k1 : Int)) = true := decide_eq_true (by omega)
          have hk3' : (k : Int) < (k1 : Int) := by omega
          have hq0 : (0 : Int) ≤ (q : Int) := Int.natCast_nonneg _
          have hqr' : (q : Int) ≤ (r : Int) := by omega
          have hqr2 : q ≤ r := by omega
          have hrc : (r : Int) ≤ (c : Int) := by omega
          have hrc' : r ≤ c := by omega
          have hcvM := fun k => conv_seg (w := wr.drewN k) (RowAt.below HBy.out (hBw.trans ((below_drewN wr k).mono hBw.size)) (Nat.le_refl _)) hqr2 hrn hcap
          have hcvO := fun k j => conv_seg (w := (wr.drewN k).drewN j) (RowAt.below HBy.out ((hBw.trans ((below_drewN wr k).mono hBw.size)).trans ((below_drewN (wr.drewN k) j).mono (by exact hBw.size))) (Nat.le_refl _)) hqr2 hrn hcap
          obtain ⟨K, hK⟩ : ∃ K, seg b q r = K := ⟨_, rfl⟩
          simp only [hK] at hcvM hcvO
          have HKe := Lib.hid hK
          have HKle : K.length ≤ 300 := by rw [← hK]; unfold seg; rw [List.length_take, List.length_drop, HNl.out]; omega
          have ho5 := fun W => add_str (P := Tryd.prog) ((s ++ G) ++ putP 0) K (by simp only [List.length_append]; have := HWlen.out; show _ + 0 + _ ≤ _; omega) W
          obtain ⟨Kb, hKb⟩ : ∃ X, str K = X := ⟨_, rfl⟩
          obtain ⟨S5, hS5⟩ : ∃ X, str (((s ++ G) ++ putP 0) ++ K) = X := ⟨_, rfl⟩
          simp only [hKb] at hcvM hcvO
          simp only [hS5, hS3, hKb] at ho5
          have HS5 := Lib.hid hS5
          clear hS5 hKb hS3
          have HSo : Hid (SoFar b N (k + 1) r (((s ++ G) ++ putP 0) ++ K)) := Lib.hid (by
            have := soFar_step HIn.out.2 hq1 hr1 hne1
            rw [← HGt.out, HZ.out, show (b.drop q).take (r - q) = K from hK] at this
            exact this)
          have HRst := Lib.hid hrest
          clear hcl z0 z1 z2 z3 z4 ht htf htt hv hv2 hK hrest hq1 hr1 hne1 hc1 HZ
          go_wp2_with fail
          go_quiet (fail)
          go_wp2
          go_quiet (fail)
          go_wp2
          exact ⟨⟨k + 1, _, by go_num, by rw [HS5.out], .inl ⟨by omega, r, Lib.hid ⟨HRst.out, HSo.out⟩⟩, ⟨hbel.os, hbel.tape, hbel.output, hbel.size, hbel.block⟩⟩, by simp [intOf]; omega⟩
        · obtain rfl : k = k1 := by omega
          obtain ⟨e1, e2⟩ := HQ2.out.2 rfl
          have hb3 : decide ((k : Int) < (k : Int)) = false := decide_eq_false (Int.lt_irrefl _)
          have HEnd : Hid (((s ++ G) ++ putP 0) = Wt) := Lib.hid (by
            have := soFar_end HIn.out.2 e2
            rw [← HGd.out e1, HZ.out, HWt.out] at this; exact this)
          clear e1 e2 HZ hc1
          go_wp2_with fail
          go_quiet (fail)
          go_wp2
          exact ⟨⟨k + 1, Wt, by go_num, by rw [← HEnd.out, HS3.out], .inr ⟨rfl, rfl⟩, ⟨hbel.os, hbel.tape, hbel.output, hbel.size, hbel.block⟩⟩, by simp [intOf]⟩
      · skip
        have hy00 : ((y : Int) != 0) = true := bne_iff_ne.2 (by omega)
        have hpl : (putP y).length ≤ 9 := by have := putT_len y; rw [putP_s hy0 hy5, List.length_append] at this; omega
        have ho2 : ∀ W, (Op.stringOp .add (str (s ++ G)) ⟨#[10]⟩).run Tryd.prog W = .ok (.string (str ((s ++ G) ++ [10]))) W := fun W => add_str (s ++ G) [10] (by rw [List.length_append]; have := HWlen.out; show _ + 1 ≤ _; omega) W
        have ho3 := fun W => add_str (P := Tryd.prog) ((s ++ G) ++ [10]) (putP y) (by rw [List.length_append, List.length_append]; have := HWlen.out; show _ + 1 + _ ≤ _; omega) W
        have HZ : Hid ((s ++ G) ++ putT ((N.drop k).headD 0) = (((s ++ G) ++ [10]) ++ putP y)) := Lib.hid (by rw [HHd.out, putP_s hy0 hy5, ← List.append_assoc])
        obtain ⟨S2, hS2⟩ : ∃ X, str ((s ++ G) ++ [10]) = X := ⟨_, rfl⟩
        obtain ⟨S3, hS3⟩ : ∃ X, str (((s ++ G) ++ [10]) ++ putP y) = X := ⟨_, rfl⟩
        simp only [hS2, hS1] at ho2
        simp only [hS3, hS2, hPb] at ho3
        have HS3 := Lib.hid hS3
        clear hS1 hS2 hPb
        by_cases hc1 : k < k1
        · obtain ⟨t, r, ht, htf, htt, hqr, hrn, hrest, hq1, hr1, hne1⟩ := HQ2.out.1 hc1
          obtain ⟨gt, off, cc, hv, hg, hcl⟩ := (HT4.out.below hbel (Nat.le_refl _)).some (by intro e; rw [e] at ht; cases ht)
          obtain ⟨rfl, hv2, rfl⟩ := Value.slice.inj hv
          obtain ⟨z0, z1, z2, z3, z4⟩ := tcs_at m ht
          have x5 : wr.cell? ⟨gt, off + k * 5 + 1, none⟩ = _ := hcl _ _ z1
          have x6 : wr.cell? ⟨gt, off + k * 5 + 2, none⟩ = _ := hcl _ _ z2
          rw [htf] at x5
          rw [htt] at x6
          have hb3 : decide ((k : Int) < (k1 : Int)) = true := decide_eq_true (by omega)
          have hk3' : (k : Int) < (k1 : Int) := by omega
          have hq0 : (0 : Int) ≤ (q : Int) := Int.natCast_nonneg _
          have hqr' : (q : Int) ≤ (r : Int) := by omega
          have hqr2 : q ≤ r := by omega
          have hrc : (r : Int) ≤ (c : Int) := by omega
          have hrc' : r ≤ c := by omega
          have hcvM := fun k => conv_seg (w := wr.drewN k) (RowAt.below HBy.out (hBw.trans ((below_drewN wr k).mono hBw.size)) (Nat.le_refl _)) hqr2 hrn hcap
          have hcvO := fun k j => conv_seg (w := (wr.drewN k).drewN j) (RowAt.below HBy.out ((hBw.trans ((below_drewN wr k).mono hBw.size)).trans ((below_drewN (wr.drewN k) j).mono (by exact hBw.size))) (Nat.le_refl _)) hqr2 hrn hcap
          obtain ⟨K, hK⟩ : ∃ K, seg b q r = K := ⟨_, rfl⟩
          simp only [hK] at hcvM hcvO
          have HKe := Lib.hid hK
          have HKle : K.length ≤ 300 := by rw [← hK]; unfold seg; rw [List.length_take, List.length_drop, HNl.out]; omega
          have ho5 := fun W => add_str (P := Tryd.prog) (((s ++ G) ++ [10]) ++ putP y) K (by simp only [List.length_append, List.length_cons, List.length_nil]; have := HWlen.out;  omega) W
          obtain ⟨Kb, hKb⟩ : ∃ X, str K = X := ⟨_, rfl⟩
          obtain ⟨S5, hS5⟩ : ∃ X, str ((((s ++ G) ++ [10]) ++ putP y) ++ K) = X := ⟨_, rfl⟩
          simp only [hKb] at hcvM hcvO
          simp only [hS5, hS3, hKb] at ho5
          have HS5 := Lib.hid hS5
          clear hS5 hKb hS3
          have HSo : Hid (SoFar b N (k + 1) r ((((s ++ G) ++ [10]) ++ putP y) ++ K)) := Lib.hid (by
            have := soFar_step HIn.out.2 hq1 hr1 hne1
            rw [← HGt.out, HZ.out, show (b.drop q).take (r - q) = K from hK] at this
            exact this)
          have HRst := Lib.hid hrest
          clear hcl z0 z1 z2 z3 z4 ht htf htt hv hv2 hK hrest hq1 hr1 hne1 hc1 HZ
          go_wp2_with fail
          go_quiet (fail)
          go_wp2
          go_quiet (fail)
          go_wp2
          exact ⟨⟨k + 1, _, by go_num, by rw [HS5.out], .inl ⟨by omega, r, Lib.hid ⟨HRst.out, HSo.out⟩⟩, ⟨hbel.os, hbel.tape, hbel.output, hbel.size, hbel.block⟩⟩, by simp [intOf]; omega⟩
        · obtain rfl : k = k1 := by omega
          obtain ⟨e1, e2⟩ := HQ2.out.2 rfl
          have hb3 : decide ((k : Int) < (k : Int)) = false := decide_eq_false (Int.lt_irrefl _)
          have HEnd : Hid ((((s ++ G) ++ [10]) ++ putP y) = Wt) := Lib.hid (by
            have := soFar_end HIn.out.2 e2
            rw [← HGd.out e1, HZ.out, HWt.out] at this; exact this)
          clear e1 e2 HZ hc1
          go_wp2_with fail
          go_quiet (fail)
          go_wp2
          exact ⟨⟨k + 1, Wt, by go_num, by rw [← HEnd.out, HS3.out], .inr ⟨rfl, rfl⟩, ⟨hbel.os, hbel.tape, hbel.output, hbel.size, hbel.block⟩⟩, by simp [intOf]⟩
    · skip
      have hb2 : decide ((k : Int) < (n2 : Int)) = false := decide_eq_false (by omega)
      have HZ : Hid ((s ++ G) ++ putT ((N.drop k).headD 0) = (s ++ G)) := Lib.hid (by rw [head_no (by rw [← HNN.out, List.length_map, HN2.out]; omega)]; exact List.append_nil _)
      obtain ⟨S3, hS3⟩ : ∃ X, str (s ++ G) = X := ⟨_, rfl⟩
      obtain rfl : S1 = S3 := hS1.symm.trans hS3
      have HS3 := Lib.hid hS3
      clear hS1
      by_cases hc1 : k < k1
      · obtain ⟨t, r, ht, htf, htt, hqr, hrn, hrest, hq1, hr1, hne1⟩ := HQ2.out.1 hc1
        obtain ⟨gt, off, cc, hv, hg, hcl⟩ := (HT4.out.below hbel (Nat.le_refl _)).some (by intro e; rw [e] at ht; cases ht)
        obtain ⟨rfl, hv2, rfl⟩ := Value.slice.inj hv
        obtain ⟨z0, z1, z2, z3, z4⟩ := tcs_at m ht
        have x5 : wr.cell? ⟨gt, off + k * 5 + 1, none⟩ = _ := hcl _ _ z1
        have x6 : wr.cell? ⟨gt, off + k * 5 + 2, none⟩ = _ := hcl _ _ z2
        rw [htf] at x5
        rw [htt] at x6
        have hb3 : decide ((k : Int) < (k1 : Int)) = true := decide_eq_true (by omega)
        have hk3' : (k : Int) < (k1 : Int) := by omega
        have hq0 : (0 : Int) ≤ (q : Int) := Int.natCast_nonneg _
        have hqr' : (q : Int) ≤ (r : Int) := by omega
        have hqr2 : q ≤ r := by omega
        have hrc : (r : Int) ≤ (c : Int) := by omega
        have hrc' : r ≤ c := by omega
        have hcvM := fun k => conv_seg (w := wr.drewN k) (RowAt.below HBy.out (hBw.trans ((below_drewN wr k).mono hBw.size)) (Nat.le_refl _)) hqr2 hrn hcap
        have hcvO := fun k j => conv_seg (w := (wr.drewN k).drewN j) (RowAt.below HBy.out ((hBw.trans ((below_drewN wr k).mono hBw.size)).trans ((below_drewN (wr.drewN k) j).mono (by exact hBw.size))) (Nat.le_refl _)) hqr2 hrn hcap
        obtain ⟨K, hK⟩ : ∃ K, seg b q r = K := ⟨_, rfl⟩
        simp only [hK] at hcvM hcvO
        have HKe := Lib.hid hK
        have HKle : K.length ≤ 300 := by rw [← hK]; unfold seg; rw [List.length_take, List.length_drop, HNl.out]; omega
        have ho5 := fun W => add_str (P := Tryd.prog) (s ++ G) K (by simp only [List.length_append]; have := HWlen.out;  omega) W
        obtain ⟨Kb, hKb⟩ : ∃ X, str K = X := ⟨_, rfl⟩
        obtain ⟨S5, hS5⟩ : ∃ X, str ((s ++ G) ++ K) = X := ⟨_, rfl⟩
        simp only [hKb] at hcvM hcvO
        simp only [hS5, hS3, hKb] at ho5
        have HS5 := Lib.hid hS5
        clear hS5 hKb hS3
        have HSo : Hid (SoFar b N (k + 1) r ((s ++ G) ++ K)) := Lib.hid (by
          have := soFar_step HIn.out.2 hq1 hr1 hne1
          rw [← HGt.out, HZ.out, show (b.drop q).take (r - q) = K from hK] at this
          exact this)
        have HRst := Lib.hid hrest
        clear hcl z0 z1 z2 z3 z4 ht htf htt hv hv2 hK hrest hq1 hr1 hne1 hc1 HZ
        go_wp2_with fail
        go_quiet (fail)
        go_wp2
        go_quiet (fail)
        go_wp2
        exact ⟨⟨k + 1, _, by go_num, by rw [HS5.out], .inl ⟨by omega, r, Lib.hid ⟨HRst.out, HSo.out⟩⟩, ⟨hbel.os, hbel.tape, hbel.output, hbel.size, hbel.block⟩⟩, by simp [intOf]; omega⟩
      · obtain rfl : k = k1 := by omega
        obtain ⟨e1, e2⟩ := HQ2.out.2 rfl
        have hb3 : decide ((k : Int) < (k : Int)) = false := decide_eq_false (Int.lt_irrefl _)
        have HEnd : Hid ((s ++ G) = Wt) := Lib.hid (by
          have := soFar_end HIn.out.2 e2
          rw [← HGd.out e1, HZ.out, HWt.out] at this; exact this)
        clear e1 e2 HZ hc1
        go_wp2_with fail
        go_quiet (fail)
        go_wp2
        exact ⟨⟨k + 1, Wt, by go_num, by rw [← HEnd.out, HS3.out], .inr ⟨rfl, rfl⟩, ⟨hbel.os, hbel.tape, hbel.output, hbel.size, hbel.block⟩⟩, by simp [intOf]⟩
-- MARK9
end Go.Proofs.YtcnekeahlcbflaaDoor
