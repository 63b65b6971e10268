/- Symbol, textOf, Check, apart. -/
import Derived.Test.YtemoeohchhpilaaDoorLg
import Derived.Lib.ItoaMem
import Derived.Lib.ItoaLen
import Derived.Lib.AppendIntMem
import Derived.Lib.ConvBytes
namespace Go.Proofs.YtemoeohchhpilaaDoor
open Go.RowKit Go.PlainAid

theorem conv_bytes (s : List UInt8) (w : World) : ∃ cap W1, (convert 9 22 (.string (str s))).run Tryd.prog w = .ok (.slice (some ⟨w.heap.size, 0, none⟩) s.length cap) W1 ∧ Below w.heap.size w W1 ∧ s.length ≤ cap ∧ w.heap.size < W1.heap.size ∧
    ∀ j u, (s.map bc)[j]? = some u → W1.cell? ⟨w.heap.size, j, none⟩ = some u := by
  have h := Lib.run_convert_string_bytes (P := Tryd.prog) w 9 22 5 (str s) Tryd.underlying9 Tryd.underlying22 Tryd.underlying5
  rw [str_size] at h
  refine ⟨_, _, h, ⟨rfl, rfl, rfl, by rw [Lib.bytesWorld_size]; omega, fun k hk => Lib.bytesWorld_at_old w _ _ k hk⟩, grownCap_ge _ _ _ _, by rw [Lib.bytesWorld_size]; omega, fun j u hj => ?_⟩
  have hjl : j < s.length := by have := (List.getElem?_eq_some_iff.1 hj).1; simpa using this
  rw [Lib.bytesWorld_cell w _ _ j (by rw [str_size]; exact hjl), str_list]
  rw [List.getElem?_map, List.getElem?_eq_getElem hjl] at hj
  rw [← Option.some.inj hj]
  simp [bc, List.getD, hjl]
theorem conv_at (s : List UInt8) (w : World) : ∃ cap W1, (convert 9 22 (.string (str s))).run Tryd.prog w = .ok (.slice (some ⟨w.heap.size, 0, none⟩) s.length cap) W1 ∧ Below w.heap.size w W1 ∧ s.length ≤ cap ∧ w.heap.size < W1.heap.size ∧
    BytesAt W1 (.slice (some ⟨w.heap.size, 0, none⟩) s.length cap) s := by
  obtain ⟨cap, W1, h1, h2, h3, h4, h5⟩ := conv_bytes s w
  exact ⟨cap, W1, h1, h2, h3, h4, .inr ⟨w.heap.size, 0, s.length, cap, rfl, by rw [List.length_map], h4, fun j u hj => by rw [Nat.zero_add]; exact h5 j u hj⟩⟩

/-- A symbol. -/
def symL (x : List UInt8) : Bool := decide (x ≠ []) && decide (x.length ≤ 24) && !intB x && decide (wordN x = x.length)
theorem symL_nil : symL [] = false := rfl
theorem symL_long {x : List UInt8} (h : 24 < x.length) : symL x = false := by unfold symL; rw [decide_eq_false (show ¬ x.length ≤ 24 by omega)]; simp
theorem symL_int {x : List UInt8} (h : intB x = true) : symL x = false := by unfold symL; rw [h]; simp
theorem symL_else {x : List UInt8} (h : x ≠ []) (h2 : x.length ≤ 24) (h3 : intB x = false) : symL x = decide (wordN x = x.length) := by
  unfold symL; rw [decide_eq_true h, decide_eq_true h2, h3]; rfl

set_option maxRecDepth 50000 in
set_option maxHeartbeats 3200000 in
theorem Symbol_any (x : List UInt8) (w : World) (hl : x.length ≤ 1000000) (T : STabs w) : Calls Tryd.prog 16 #[.string (str x)] w fun e w' => e = .returned (.bool (symL x)) ∧ Below w.heap.size w w' := by
  by_cases h0 : x = []
  · subst h0
    have ht1 : ((str ([] : List UInt8)).toList == []) = true := by rw [emp_str]; rfl
    have ht2 : (str ([] : List UInt8)).toList.isEmpty = true := by rw [emp_str]; rfl
    have HV : Hid (symL [] = false) := Lib.hid rfl
    clear T hl
    go_enter Tryd.func16, Tryd.ntmps16
    go_wp2_with fail
    go_ret
    exact ⟨ret_bool HV.out.symm, Below.refl _ _⟩
  have ht1 : ((str x).toList == []) = false := by rw [emp_str]; exact beq_eq_false_iff_ne.2 h0
  have ht2 : (str x).toList.isEmpty = false := by rw [emp_str]; cases x with | nil => exact absurd rfl h0 | cons _ _ => rfl
  obtain ⟨n, hn⟩ : ∃ n, x.length = n := ⟨_, rfl⟩
  have hz : (str x).size = n := by rw [str_size, hn]
  by_cases h24 : 24 < n
  · have HV : Hid (symL x = false) := Lib.hid (symL_long (by omega))
    have hd : decide ((24 : Int) < (n : Int)) = true := decide_eq_true (by omega)
    obtain ⟨S, hS⟩ : ∃ S, str x = S := ⟨_, rfl⟩
    rw [hS] at hz ht1 ht2 ⊢
    clear T hl hn hS h0 h24
    go_enter Tryd.func16, Tryd.ntmps16
    go_wp2_with fail
    go_ret
    exact ⟨ret_bool HV.out.symm, Below.refl _ _⟩
  have hd : decide ((24 : Int) < (n : Int)) = false := decide_eq_false (by omega)
  have CI := Lib.hid (fun W => isInt_any x W hl)
  cases hi : intB x
  · rw [hi] at CI
    have HV : Hid (symL x = decide (wordN x = x.length)) := Lib.hid (symL_else h0 (by omega) hi)
    have HC := Lib.hid (fun W => conv_at x W)
    have CM := Lib.hid (fun a n c f W => runs_at a n c f W)
    have HT := Lib.hid T
    have CR := Lib.hid (fun v B1 B2 W (hW : Below w.heap.size w W) hv h1 h2 => run1_any v x 0 B1 B2 W (T.below hW) hv hl (Nat.zero_le _) h1 h2)
    have HN := Lib.hid hn
    rw [hn] at HC HV
    obtain ⟨q, hq⟩ : ∃ q, wordN x = q := ⟨_, rfl⟩
    have hq2 : runN isWr (x.drop 0) = q := by rw [List.drop_zero]; exact hq
    rw [hq2] at CR
    rw [hq] at HV
    obtain ⟨S, hS⟩ : ∃ S, str x = S := ⟨_, rfl⟩
    rw [hS] at hz ht1 ht2 CI HC ⊢
    clear T hl hn hS h0 h24 hi hq hq2
    go_enter Tryd.func16, Tryd.ntmps16
    go_wp2_with fail
    refine (CI.out _).mono ?_
    rintro e w1 ⟨rfl, hb1⟩
    obtain ⟨cap, W1, hcv, hbc, hcap, hlt, hby⟩ := HC.out w1
    have HBy := Lib.hid hby
    clear hby
    go_wp2_with fail
    -- MARK1
    refine (CM.out _ _ _ _ _).mono ?_
    rintro e w2 ⟨B1, B2, rfl, hb2, HX⟩
    have hB2 := hb1.trans ((hbc.trans (hb2.mono hbc.size)).mono hb1.size)
    go_wp2_with fail
    refine (CR.out _ B1 B2 w2 hB2 (HBy.out.below hb2 (Nat.le_refl _)) HX.out.1 HX.out.2).mono ?_
    rintro e w3 ⟨rfl, hb3⟩
    go_wp2_with fail
    -- MARK2
    go_ret
    exact ⟨ret_bool (by rw [HV.out, Bool.eq_iff_iff, beq_iff_eq, decide_eq_true_iff]; omega), hB2.trans (hb3.mono hB2.size)⟩
  · have HV : Hid (symL x = false) := Lib.hid (symL_int hi)
    rw [hi] at CI
    obtain ⟨S, hS⟩ : ∃ S, str x = S := ⟨_, rfl⟩
    rw [hS] at hz ht1 ht2 CI ⊢
    clear T hl hn hS h0 h24 hi
    go_enter Tryd.func16, Tryd.ntmps16
    go_wp2_with fail
    refine (CI.out _).mono ?_
    rintro e w1 ⟨rfl, hb1⟩
    go_wp2_with fail
    go_ret
    exact ⟨ret_bool HV.out.symm, hb1⟩

/-- Kinds. -/
def kdB (k n : Int) (z : Bool) : Bool := if k = 1 ∨ k = 2 ∨ k = 5 ∨ k = 6 then z else if k = 3 ∨ k = 4 then z && (n == 0) else if k = 7 then n == 0 else false
theorem kd_z {k : Int} (h : k = 1 ∨ k = 2 ∨ k = 5 ∨ k = 6) (n : Int) (z : Bool) : kdB k n z = z := by unfold kdB; rw [if_pos h]
theorem kd_q {k : Int} (h : k = 3 ∨ k = 4) (n : Int) (z : Bool) : kdB k n z = (z && (n == 0)) := by unfold kdB; rw [if_neg (by omega), if_pos h]
theorem kd_7 (n : Int) (z : Bool) : kdB 7 n z = (n == 0) := by unfold kdB; rw [if_neg (by omega), if_neg (by omega), if_pos rfl]
theorem kd_no {k : Int} (h : k < 1 ∨ 7 < k) (n : Int) (z : Bool) : kdB k n z = false := by unfold kdB; rw [if_neg (by omega), if_neg (by omega), if_neg (by omega)]
set_option maxRecDepth 50000 in
set_option maxHeartbeats 3200000 in
theorem kind_any (k f t n : Int) (x : List UInt8) (z : Bool) (hz : (x == []) = z) (w : World) : Calls Tryd.prog 35 #[.agg #[.int .i64 k, .int .i64 f, .int .i64 t, .int .i64 n, .string (str x)]] w fun e w' => e = .returned (.bool (kdB k n z)) ∧ Below w.heap.size w w' := by
  have he : ((str x).toList == []) = z := by rw [emp_str]; exact hz
  obtain ⟨S, hS⟩ : ∃ S, str x = S := ⟨_, rfl⟩
  rw [hS] at he ⊢
  clear hS hz
  by_cases h1 : k = 1 ∨ k = 2 ∨ k = 5 ∨ k = 6
  · have HV := Lib.hid (kd_z h1 n z)
    rcases h1 with rfl | rfl | rfl | rfl
    all_goals
      go_enter Tryd.func35, Tryd.ntmps35
      go_wp2
      go_ret
      exact ⟨ret_bool HV.out.symm, below_b1 _ _⟩
  by_cases h3 : k = 3 ∨ k = 4
  · have HV := Lib.hid (kd_q h3 n z)
    cases z
    all_goals
      cases hn : (n == 0)
      all_goals
        rw [hn] at HV
        rcases h3 with rfl | rfl
        all_goals
          go_enter Tryd.func35, Tryd.ntmps35
          go_wp2
          go_ret
          exact ⟨ret_bool HV.out.symm, below_b1 _ _⟩
  by_cases h7 : k = 7
  · subst h7
    have HV := Lib.hid (kd_7 n z)
    go_enter Tryd.func35, Tryd.ntmps35
    go_wp2
    go_ret
    exact ⟨ret_bool HV.out.symm, below_b1 _ _⟩
  · have HV : Hid (kdB k n z = false) := Lib.hid (kd_no (by omega) n z)
    have g1 : (k == 1) = false := beq_eq_false_iff_ne.2 (by omega)
    have g2 : (k == 2) = false := beq_eq_false_iff_ne.2 (by omega)
    have g3 : (k == 3) = false := beq_eq_false_iff_ne.2 (by omega)
    have g4 : (k == 4) = false := beq_eq_false_iff_ne.2 (by omega)
    have g5 : (k == 5) = false := beq_eq_false_iff_ne.2 (by omega)
    have g6 : (k == 6) = false := beq_eq_false_iff_ne.2 (by omega)
    have g7 : (k == 7) = false := beq_eq_false_iff_ne.2 (by omega)
    clear h1 h3 h7
    go_enter Tryd.func35, Tryd.ntmps35
    go_wp2
    go_ret
    exact ⟨ret_bool HV.out.symm, below_b1 _ _⟩

/-- The text of a token. -/
def txT (k n : Int) (x : List UInt8) : List UInt8 := if k = 5 then Lib.itoa n else if k = 7 then x else txGo marksS k n
def PowIs (w : World) : Prop := Lib.TabIs Tryd.prog w "internal/strconv.uint64pow10" .u64 Lib.pow10Tab
theorem pow_below {B : Nat} {w w' : World} (h : PowIs w) (hb : Below B w w') (hB : 5 < B) : PowIs w' := by
  unfold PowIs Lib.TabIs at *
  exact var?_below hb (by kernel_rfl) hB h
set_option maxRecDepth 50000 in
set_option maxHeartbeats 3200000 in
theorem text_any (k f t n : Int) (x : List UInt8) (w : World) (hn : fits n) (P : PowIs w) (gp : 5 < w.heap.size) (M : MkTab w) (hg : 0 < w.heap.size) :
    Calls Tryd.prog 22 #[.agg #[.int .i64 k, .int .i64 f, .int .i64 t, .int .i64 n, .string (str x)]] w fun e w' => e = .returned (.string (str (txT k n x))) ∧ Below w.heap.size w w' := by
  obtain ⟨S, hS⟩ : ∃ S, str x = S := ⟨_, rfl⟩
  have HS := Lib.hid hS
  obtain ⟨W0, hW0⟩ : ∃ W0, W0 = w.alloc (.cells #[.int .i64 k, .int .i64 f, .int .i64 t, .int .i64 n, .string S] 33) := ⟨_, rfl⟩
  have hsz : W0.heap.size = w.heap.size + 1 := by rw [hW0]; simp
  have hB0 : Below w.heap.size w W0 := by rw [hW0]; exact below_b1 _ _
  have hb0 : W0.heap[w.heap.size]? = some (.cells #[.int .i64 k, .int .i64 f, .int .i64 t, .int .i64 n, .string S] 33 (0, 0)) := by rw [hW0]; exact World.alloc_heap_new _ _
  have HB0 := Lib.hid hb0
  have HBe := Lib.hid hB0
  have HZ := Lib.hid hsz
  rw [hS]
  by_cases h5 : k = 5
  · subst h5
    have HV : Hid (txT 5 n x = Lib.itoa n) := Lib.hid (by unfold txT; rw [if_pos rfl])
    have HP : Hid (PowIs W0) := Lib.hid (pow_below P hB0 gp)
    have h0 := hn.1
    have h1 := hn.2
    clear hS P gp M hg hsz hB0 hb0
    go_enter Tryd.func22, Tryd.ntmps22
    go_wp2_with fail
    rw [← hW0]
    refine (Tryd.strconv_FormatInt_10 n h0 h1 _ HP.out).mono ?_
    rintro e w' ⟨rfl, kk, os, rfl⟩
    go_wp2_with fail
    go_ret
    rw [← hW0]
    exact ⟨by rw [HV.out]; rfl, HBe.out.trans ((Lib.below_grow _ _ (Nat.le_refl _) kk os).mono HBe.out.size)⟩
  have g5 : (k == 5) = false := beq_eq_false_iff_ne.2 h5
  by_cases h7 : k = 7
  · subst h7
    have HV : Hid (txT 7 n x = x) := Lib.hid (by unfold txT; rw [if_neg (by omega), if_pos rfl])
    clear hS P gp M hg hsz hB0 hb0 h5 hn
    go_enter Tryd.func22, Tryd.ntmps22
    go_wp2_with fail
    go_ret
    exact ⟨by rw [HV.out, HS.out]; rfl, below_b1 _ _⟩
  have g7 : (k == 7) = false := beq_eq_false_iff_ne.2 h7
  have HF : Hid (txT k n x = txGo (marksS.drop 0) k n) := Lib.hid (by unfold txT; rw [if_neg h5, if_neg h7]; rfl)
  obtain ⟨tt, fr, htab⟩ := mk_below M hB0 hg
  have HMI : Hid (∀ k : Nat, k < 8 → ∀ w : World, (Instr.index 66 (.agg lmCells) (.int .i64 (k : Int))).run Tryd.prog w = .ok (mkA (mk k)) w) := Lib.hid mik
  clear hS P gp M hg hsz hB0 hb0 h5 h7 hn
  go_enter Tryd.func22, Tryd.ntmps22
  go_wp2_with (rw [← hW0]; refine wpList_load_row rfl 66 _ rfl 0 rfl tt _ fr _ htab Tryd.underlying66 rfl (by kernel_rfl) ?_)
  rw [← hW0]
  clear hW0 htab
  -- MARK1
  go_loopw [17] (fun x17 wr => ∃ i : Nat, x17 = .int .i64 (i : Int) ∧ i ≤ 8 ∧ Hid (txT k n x = txGo (marksS.drop i) k n) ∧ Below W0.heap.size W0 wr) (fun x17 _ => 8 - (intOf x17).toNat)
  case atStart => exact ⟨0, rfl, by omega, HF, Below.refl _ _⟩
  case round =>
    obtain ⟨i, rfl, hi, HK, hb⟩ := hrel
    have d1 := (hb.block w.heap.size (by rw [HZ.out]; omega)).trans HB0.out
    have hs := hb.size
    rw [HZ.out] at hs
    by_cases hlt : i < 8
    · have hmi := HMI.out i hlt
      obtain ⟨⟨mt, mkk, mn⟩, hm⟩ : ∃ m, mk i = m := ⟨_, rfl⟩
      rw [hm] at hmi
      unfold mkA at hmi
      simp only at hmi
      have hst := HK.out
      rw [mk_at hlt, hm, txGo] at hst
      simp only at hst
      have hd1 : decide ((i : Int) < 8) = true := decide_eq_true (by omega)
      have e1 := (below_b1 wr (.cells #[.string (str mt), .int .i64 mkk, .int .i64 mn] 65))
      have hb1 : Below W0.heap.size W0 (wr.alloc (.cells #[.string (str mt), .int .i64 mkk, .int .i64 mn] 65)) := hb.alloc hb.size _
      have d2 := (e1.block w.heap.size (by omega)).trans d1
      have d3 := World.alloc_heap_new wr (.cells #[.string (str mt), .int .i64 mkk, .int .i64 mn] 65)
      obtain ⟨f0, f1, f2⟩ := box3_facts d3
      obtain ⟨⟨t0, t1, t2, t3, t4⟩, _⟩ := box5_facts d2
      have HBW1 := Lib.hid (HBe.out.trans (hb1.mono (by rw [HZ.out]; omega)))
      have HB11 := Lib.hid hb1
      by_cases hkk : mkk = k
      · subst hkk
        by_cases hnn : mn = n
        · subst hnn
          have HV : Hid (txT mkk mn x = mt) := Lib.hid (by rw [hst, if_pos ⟨rfl, rfl⟩])
          clear hst hm d1 d2 d3 e1 hb hb1 HF HK
          go_wp2_with fail
          -- MARK2
          go_ret
          exact ⟨by rw [HV.out]; rfl, HBW1.out⟩
        · have HV : Hid (txT mkk n x = txGo (marksS.drop (i + 1)) mkk n) := Lib.hid (by rw [hst, if_neg (fun h => hnn h.2)])
          have hne : (mn == n) = false := beq_eq_false_iff_ne.2 hnn
          clear hst hm d1 d2 d3 e1 hb hb1 HF HK hnn
          go_wp2_with fail
          exact ⟨⟨i + 1, by go_num, by omega, HV, HB11.out⟩, by simp [intOf]; omega⟩
      · have HV : Hid (txT k n x = txGo (marksS.drop (i + 1)) k n) := Lib.hid (by rw [hst, if_neg (fun h => hkk h.1)])
        have hne : (mkk == k) = false := beq_eq_false_iff_ne.2 hkk
        clear hst hm d1 d2 d3 e1 hb hb1 HF HK hkk
        go_wp2_with fail
        exact ⟨⟨i + 1, by go_num, by omega, HV, HB11.out⟩, by simp [intOf]; omega⟩
    · obtain rfl : i = 8 := by omega
      have HV : Hid (txT k n x = []) := Lib.hid (HK.out)
      have HBW1 := Lib.hid (HBe.out.trans (hb.mono (by rw [HZ.out]; omega)))
      clear HF HK d1 hb
      go_wp2_with fail
      -- MARK4
      go_ret
      exact ⟨by rw [HV.out]; rfl, HBW1.out⟩

/-- The error of a token. -/
def ckT (k n : Int) (x : List UInt8) : Int := if kdB k n (x == []) = false then 2 else if k = 7 ∧ symL x = false then 6 else if txT k n x = [] then 7 else 0
structure PTabs (w : World) : Prop where
  lt : LTabs w
  pw : PowIs w
  gp : 5 < w.heap.size
theorem PTabs.below {w w' : World} (h : PTabs w) (hb : Below w.heap.size w w') : PTabs w' := ⟨h.lt.below hb, pow_below h.pw hb h.gp, Nat.lt_of_lt_of_le h.gp hb.size⟩
set_option maxRecDepth 50000 in
set_option maxHeartbeats 3200000 in
theorem Check_any (k f t n : Int) (x : List UInt8) (w : World) (hn : fits n) (T : PTabs w) (hl : x.length ≤ 1000000) :
    Calls Tryd.prog 20 #[.agg #[.int .i64 k, .int .i64 f, .int .i64 t, .int .i64 n, .string (str x)]] w fun e w' => e = .returned (.int .i64 (ckT k n x)) ∧ Below w.heap.size w w' := by
  have CK := Lib.hid (fun W => kind_any k f t n x _ rfl W)
  have CS := Lib.hid (fun W (hW : Below w.heap.size w W) => Symbol_any x W hl (T.below hW).lt.st)
  have CT := Lib.hid (fun W (hW : Below w.heap.size w W) => text_any k f t n x W hn (T.below hW).pw (T.below hW).gp (T.below hW).lt.tm (T.below hW).lt.gk)
  have HX : Hid (((str (txT k n x)).toList == []) = decide (txT k n x = [])) := Lib.hid (by rw [emp_str, Bool.eq_iff_iff, beq_iff_eq, decide_eq_true_iff])
  obtain ⟨S, hS⟩ : ∃ S, str x = S := ⟨_, rfl⟩
  rw [hS] at CK CS CT ⊢
  obtain ⟨W0, hW0⟩ : ∃ W0, W0 = w.alloc (.cells #[.int .i64 k, .int .i64 f, .int .i64 t, .int .i64 n, .string S] 33) := ⟨_, rfl⟩
  have hB0 : Below w.heap.size w W0 := by rw [hW0]; exact below_b1 _ _
  have hb0 : W0.heap[w.heap.size]? = some (.cells #[.int .i64 k, .int .i64 f, .int .i64 t, .int .i64 n, .string S] 33 (0, 0)) := by rw [hW0]; exact World.alloc_heap_new _ _
  have hsz : W0.heap.size = w.heap.size + 1 := by rw [hW0]; simp
  have HB0 : Hid (∀ W, Below W0.heap.size W0 W → W.heap[w.heap.size]? = some (.cells #[.int .i64 k, .int .i64 f, .int .i64 t, .int .i64 n, .string S] 33 (0, 0))) := Lib.hid fun W hW => (hW.block _ (by omega)).trans hb0
  have HBe := Lib.hid hB0
  clear hS T hl hn hb0 hB0 hsz
  have HE : Hid (∀ b, kdB k n (x == []) = b → ckT k n x = if b = false then 2 else if k = 7 ∧ symL x = false then 6 else if txT k n x = [] then 7 else 0) := Lib.hid fun b h => by unfold ckT; rw [h]
  obtain ⟨b, hb⟩ : ∃ b, kdB k n (x == []) = b := ⟨_, rfl⟩
  have HEb := Lib.hid (HE.out b hb)
  rw [hb] at CK
  clear hb HE
  cases b
  · have HV : Hid (ckT k n x = 2) := Lib.hid (by rw [HEb.out, if_pos rfl])
    go_enter Tryd.func20, Tryd.ntmps20
    go_wp2_with fail
    rw [← hW0]
    refine (CK.out _).mono ?_
    rintro e w1 ⟨rfl, hb1⟩
    go_wp2_with fail
    go_ret
    exact ⟨by rw [HV.out]; rfl, HBe.out.trans (hb1.mono HBe.out.size)⟩
  · obtain ⟨tx, htx⟩ : ∃ tx, txT k n x = tx := ⟨_, rfl⟩
    rw [htx] at CT HX HEb
    have htxe : ((str tx).toList == []) = decide (tx = []) := HX.out
    by_cases h7 : k = 7
    · subst h7
      obtain ⟨sb, hsb⟩ : ∃ sb, symL x = sb := ⟨_, rfl⟩
      rw [hsb] at CS HEb
      clear hsb htx
      cases sb
      · have HV : Hid (ckT 7 n x = 6) := Lib.hid (by rw [HEb.out, if_neg (by simp), if_pos ⟨rfl, rfl⟩])
        go_enter Tryd.func20, Tryd.ntmps20
        go_wp2_with fail
        rw [← hW0]
        refine (CK.out _).mono ?_
        rintro e w1 ⟨rfl, hb1⟩
        have hB1 := HBe.out.trans (hb1.mono HBe.out.size)
        obtain ⟨⟨t0, t1, t2, t3, t4⟩, _⟩ := box5_facts (HB0.out w1 hb1)
        go_wp2_with fail
        refine (CS.out _ hB1).mono ?_
        rintro e w2 ⟨rfl, hb2⟩
        go_wp2_with fail
        go_ret
        exact ⟨by rw [HV.out]; rfl, hB1.trans (hb2.mono hB1.size)⟩
      · by_cases hte : tx = []
        · have HV : Hid (ckT 7 n x = 7) := Lib.hid (by rw [HEb.out, if_neg (by simp), if_neg (by simp), if_pos hte])
          have hte1 : ((str tx).toList == []) = true := by rw [htxe, decide_eq_true hte]
          clear htxe hte
          go_enter Tryd.func20, Tryd.ntmps20
          go_wp2_with fail
          rw [← hW0]
          refine (CK.out _).mono ?_
          rintro e w1 ⟨rfl, hb1⟩
          have hB1 := HBe.out.trans (hb1.mono HBe.out.size)
          obtain ⟨⟨t0, t1, t2, t3, t4⟩, _⟩ := box5_facts (HB0.out w1 hb1)
          go_wp2_with fail
          refine (CS.out _ hB1).mono ?_
          rintro e w2 ⟨rfl, hb2⟩
          have hB2 := hB1.trans (hb2.mono hB1.size)
          obtain ⟨⟨t0, t1, t2, t3, t4⟩, _⟩ := box5_facts (HB0.out w2 (hb1.trans (hb2.mono hb1.size)))
          go_wp2_with fail
          refine (CT.out _ hB2).mono ?_
          rintro e w3 ⟨rfl, hb3⟩
          go_wp2_with fail
          go_ret
          exact ⟨by rw [HV.out]; rfl, hB2.trans (hb3.mono hB2.size)⟩
        · have HV : Hid (ckT 7 n x = 0) := Lib.hid (by rw [HEb.out, if_neg (by simp), if_neg (by simp), if_neg hte])
          have hte1 : ((str tx).toList == []) = false := by rw [htxe, decide_eq_false hte]
          clear htxe hte
          go_enter Tryd.func20, Tryd.ntmps20
          go_wp2_with fail
          rw [← hW0]
          refine (CK.out _).mono ?_
          rintro e w1 ⟨rfl, hb1⟩
          have hB1 := HBe.out.trans (hb1.mono HBe.out.size)
          obtain ⟨⟨t0, t1, t2, t3, t4⟩, _⟩ := box5_facts (HB0.out w1 hb1)
          go_wp2_with fail
          refine (CS.out _ hB1).mono ?_
          rintro e w2 ⟨rfl, hb2⟩
          have hB2 := hB1.trans (hb2.mono hB1.size)
          obtain ⟨⟨t0, t1, t2, t3, t4⟩, _⟩ := box5_facts (HB0.out w2 (hb1.trans (hb2.mono hb1.size)))
          go_wp2_with fail
          refine (CT.out _ hB2).mono ?_
          rintro e w3 ⟨rfl, hb3⟩
          go_wp2_with fail
          go_ret
          exact ⟨by rw [HV.out]; rfl, hB2.trans (hb3.mono hB2.size)⟩
    · have g7 : (k == 7) = false := beq_eq_false_iff_ne.2 h7
      clear htx
      by_cases hte : tx = []
      · have HV : Hid (ckT k n x = 7) := Lib.hid (by rw [HEb.out, if_neg (by simp), if_neg (fun h => h7 h.1), if_pos hte])
        have hte1 : ((str tx).toList == []) = true := by rw [htxe, decide_eq_true hte]
        clear htxe hte h7
        go_enter Tryd.func20, Tryd.ntmps20
        go_wp2_with fail
        rw [← hW0]
        refine (CK.out _).mono ?_
        rintro e w1 ⟨rfl, hb1⟩
        have hB1 := HBe.out.trans (hb1.mono HBe.out.size)
        obtain ⟨⟨t0, t1, t2, t3, t4⟩, _⟩ := box5_facts (HB0.out w1 hb1)
        go_wp2_with fail
        refine (CT.out _ hB1).mono ?_
        rintro e w3 ⟨rfl, hb3⟩
        go_wp2_with fail
        go_ret
        exact ⟨by rw [HV.out]; rfl, hB1.trans (hb3.mono hB1.size)⟩
      · have HV : Hid (ckT k n x = 0) := Lib.hid (by rw [HEb.out, if_neg (by simp), if_neg (fun h => h7 h.1), if_neg hte])
        have hte1 : ((str tx).toList == []) = false := by rw [htxe, decide_eq_false hte]
        clear htxe hte h7
        go_enter Tryd.func20, Tryd.ntmps20
        go_wp2_with fail
        rw [← hW0]
        refine (CK.out _).mono ?_
        rintro e w1 ⟨rfl, hb1⟩
        have hB1 := HBe.out.trans (hb1.mono HBe.out.size)
        obtain ⟨⟨t0, t1, t2, t3, t4⟩, _⟩ := box5_facts (HB0.out w1 hb1)
        go_wp2_with fail
        refine (CT.out _ hB1).mono ?_
        rintro e w3 ⟨rfl, hb3⟩
        go_wp2_with fail
        go_ret
        exact ⟨by rw [HV.out]; rfl, hB1.trans (hb3.mono hB1.size)⟩

/-- Whether a blank is between. -/
def apB (ka kb : Int) : Bool := if ka = 1 ∨ ka = 3 ∨ ka = 4 then false else kb != 2
set_option maxRecDepth 50000 in
set_option maxHeartbeats 1600000 in
theorem apart_any (ka fa ta na kb fb tb nb : Int) (xa xb : ByteArray) (w : World) :
    Calls Tryd.prog 21 #[.agg #[.int .i64 ka, .int .i64 fa, .int .i64 ta, .int .i64 na, .string xa], .agg #[.int .i64 kb, .int .i64 fb, .int .i64 tb, .int .i64 nb, .string xb]] w fun e w' => e = .returned (.bool (apB ka kb)) ∧ Below w.heap.size w w' := by
  have hB2 : Hid (Below w.heap.size w ((w.alloc (.cells #[.int .i64 ka, .int .i64 fa, .int .i64 ta, .int .i64 na, .string xa] 33)).alloc (.cells #[.int .i64 kb, .int .i64 fb, .int .i64 tb, .int .i64 nb, .string xb] 33))) := Lib.hid ((below_b1 _ _).alloc (by simp) _)
  by_cases h : ka = 1 ∨ ka = 3 ∨ ka = 4
  · have HV : Hid (apB ka kb = false) := Lib.hid (by unfold apB; rw [if_pos h])
    rcases h with rfl | rfl | rfl
    all_goals
      go_enter Tryd.func21, Tryd.ntmps21
      go_wp2
      go_ret
      exact ⟨ret_bool HV.out.symm, hB2.out⟩
  · have HV : Hid (apB ka kb = (kb != 2)) := Lib.hid (by unfold apB; rw [if_neg h])
    have g1 : (ka == 1) = false := beq_eq_false_iff_ne.2 (by omega)
    have g3 : (ka == 3) = false := beq_eq_false_iff_ne.2 (by omega)
    have g4 : (ka == 4) = false := beq_eq_false_iff_ne.2 (by omega)
    clear h
    go_enter Tryd.func21, Tryd.ntmps21
    go_wp2
    go_ret
    exact ⟨ret_bool HV.out.symm, hB2.out⟩
end Go.Proofs.YtemoeohchhpilaaDoor
