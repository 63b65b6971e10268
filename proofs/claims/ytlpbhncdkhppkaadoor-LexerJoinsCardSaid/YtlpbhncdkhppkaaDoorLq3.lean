/- The reference's Symbol and Check. -/
import Derived.Test.YtlpbhncdkhppkaaDoorLq2
namespace Go.Proofs.YtlpbhncdkhppkaaDoor
open Go.RowKit Go.PlainAid

theorem symL_isw (x : List UInt8) : symL x = (iswB x && !intB x && decide (x.length ≤ 24)) := by
  unfold symL iswB
  cases decide (x ≠ []) <;> cases decide (x.length ≤ 24) <;> cases intB x <;> cases decide (wordN x = x.length) <;> rfl
set_option maxRecDepth 50000 in
set_option maxHeartbeats 1600000 in
theorem rSymbol_any (x : List UInt8) (w : World) (hl : x.length ≤ 1000000) : Calls Tryd.prog 25 #[.string (str x)] w fun e w' => e = .returned (.bool (symL x)) ∧ Below w.heap.size w w' := by
  have CW := Lib.hid (risWord_any x w hl)
  have CI := Lib.hid (fun W => risInt_any x W hl)
  have HV := Lib.hid (symL_isw x)
  obtain ⟨n, hn⟩ : ∃ n, x.length = n := ⟨_, rfl⟩
  have hz : (str x).size = n := by rw [str_size, hn]
  rw [hn] at HV
  obtain ⟨bw, hbw⟩ : ∃ bw, iswB x = bw := ⟨_, rfl⟩
  obtain ⟨bi, hbi⟩ : ∃ bi, intB x = bi := ⟨_, rfl⟩
  rw [hbw] at CW HV
  rw [hbi] at CI HV
  obtain ⟨S, hS⟩ : ∃ S, str x = S := ⟨_, rfl⟩
  rw [hS] at CW CI hz ⊢
  clear hbw hbi hS hn hl
  cases bw
  · go_enter Tryd.func25, Tryd.ntmps25
    go_wp2_with fail
    refine CW.out.mono ?_
    rintro e w1 ⟨rfl, hb1⟩
    go_wp2_with fail
    go_ret
    exact ⟨ret_bool (by rw [HV.out]; rfl), hb1⟩
  · cases bi
    · go_enter Tryd.func25, Tryd.ntmps25
      go_wp2_with fail
      refine CW.out.mono ?_
      rintro e w1 ⟨rfl, hb1⟩
      go_wp2_with fail
      refine (CI.out _).mono ?_
      rintro e w2 ⟨rfl, rfl⟩
      go_wp2_with fail
      go_ret
      exact ⟨ret_bool (by rw [HV.out, Bool.not_false, Bool.true_and, Bool.true_and, Bool.eq_iff_iff, decide_eq_true_iff, decide_eq_true_iff]; omega), hb1⟩
    · go_enter Tryd.func25, Tryd.ntmps25
      go_wp2_with fail
      refine CW.out.mono ?_
      rintro e w1 ⟨rfl, hb1⟩
      go_wp2_with fail
      refine (CI.out _).mono ?_
      rintro e w2 ⟨rfl, rfl⟩
      go_wp2_with fail
      go_ret
      exact ⟨ret_bool (by rw [HV.out]; rfl), hb1⟩

theorem itoa_ne (n : Int) : Lib.itoa n ≠ [] := by
  have h : ∀ u, Lib.decDigits u ≠ [] := fun u e => by
    have h1 := Lib.decDigits_length u
    have h2 := Lib.nDigits_pos u
    rw [e] at h1; simp at h1; omega
  unfold Lib.itoa
  split
  · simp
  · exact h _
theorem ck_kind {k n : Int} {x : List UInt8} (h : kdB k n (x == []) = false) : ckT k n x = 2 := by unfold ckT; rw [if_pos h]
theorem ck_else {k n : Int} {x : List UInt8} (h : kdB k n (x == []) = true) (h7 : k ≠ 7) : ckT k n x = if txT k n x = [] then 7 else 0 := by
  unfold ckT; rw [if_neg (by rw [h]; simp), if_neg (fun e => h7 e.1)]
theorem ck_7 {x : List UInt8} : ckT 7 0 x = if symL x = true then 0 else 6 := by
  unfold ckT
  rw [if_neg (by rw [kd_7]; decide)]
  cases h : symL x
  · rw [if_pos ⟨rfl, rfl⟩, if_neg (by simp)]
  · rw [if_neg (by simp), if_pos rfl]
    have hx : x ≠ [] := by rintro rfl; rw [symL_nil] at h; cases h
    rw [if_neg (by show txT 7 0 x ≠ []; unfold txT; rw [if_neg (by omega), if_pos rfl]; exact hx)]
theorem tx_1 (n : Int) (x : List UInt8) : txT 1 n x = if n = 1 then [40] else if n = 2 then [91] else [] := by
  unfold txT marksS; rw [if_neg (by omega), if_neg (by omega)]
  by_cases h1 : n = 1
  · subst h1; rfl
  · by_cases h2 : n = 2
    · subst h2; rfl
    · rw [if_neg h1, if_neg h2]; simp [txGo, Ne.symm h1, Ne.symm h2]
theorem tx_2 (n : Int) (x : List UInt8) : txT 2 n x = if n = 1 then [41] else if n = 2 then [93] else [] := by
  unfold txT marksS; rw [if_neg (by omega), if_neg (by omega)]
  by_cases h1 : n = 1
  · subst h1; rfl
  · by_cases h2 : n = 2
    · subst h2; rfl
    · rw [if_neg h1, if_neg h2]; simp [txGo, Ne.symm h1, Ne.symm h2]
theorem tx_6 (n : Int) (x : List UInt8) : txT 6 n x = if n = 0 then [35, 102] else if n = 1 then [35, 116] else [] := by
  unfold txT marksS; rw [if_neg (by omega), if_neg (by omega)]
  by_cases h1 : n = 0
  · subst h1; rfl
  · by_cases h2 : n = 1
    · subst h2; rfl
    · rw [if_neg h1, if_neg h2]; simp [txGo, Ne.symm h1, Ne.symm h2]
theorem tx_34 : txT 3 0 [] = [39] ∧ txT 4 0 [] = [35, 59] := ⟨rfl, rfl⟩
set_option maxRecDepth 50000 in
set_option maxHeartbeats 6400000 in
theorem rCheck_any (k f t n : Int) (x : List UInt8) (w : World) (hl : x.length ≤ 1000000) :
    Calls Tryd.prog 27 #[.agg #[.int .i64 k, .int .i64 f, .int .i64 t, .int .i64 n, .string (str x)]] w fun e w' => e = .returned (.int .i64 (ckT k n x)) ∧ Below w.heap.size w w' := by
  have CS := Lib.hid (fun W => rSymbol_any x W hl)
  obtain ⟨z, hz⟩ : ∃ z, (x == []) = z := ⟨_, rfl⟩
  have he : ((str x).toList == []) = z := by rw [emp_str]; exact hz
  have he2 : ((str x).toList != []) = !z := by rw [emp_str]; show (!(x == [])) = !z; rw [hz]
  have HX : Hid (z = true → x = []) := Lib.hid (by intro h; rw [h] at hz; exact beq_iff_eq.1 hz)
  have HK : Hid (kdB k n z = false → ckT k n x = 2) := Lib.hid (fun h => ck_kind (by rw [hz]; exact h))
  have HEl : Hid (kdB k n z = true → k ≠ 7 → ckT k n x = if txT k n x = [] then 7 else 0) := Lib.hid (fun h => ck_else (by rw [hz]; exact h))
  obtain ⟨S, hS⟩ : ∃ S, str x = S := ⟨_, rfl⟩
  rw [hS] at he he2 CS ⊢
  have hemp : S.toList.isEmpty = z := by
    cases hq : S.toList with
    | nil => rw [hq] at he; rw [← he]; rfl
    | cons a r => rw [hq] at he; rw [← he]; rfl
  have HB := Lib.hid (below_b1 w (.cells #[.int .i64 k, .int .i64 f, .int .i64 t, .int .i64 n, .string S] 33))
  clear hz hS hl
  by_cases hlo : k < 1 ∨ 7 < k
  · have HV : Hid (ckT k n x = 2) := Lib.hid (HK.out (kd_no hlo n z))
    rcases hlo with h | h
    · have d1 : decide (k < 1) = true := decide_eq_true h
      clear h
      go_enter Tryd.func27, Tryd.ntmps27
      go_wp2_with fail
      go_ret
      exact ⟨by rw [HV.out]; rfl, HB.out⟩
    · have d1 : decide (k < 1) = false := decide_eq_false (by omega)
      have d2 : decide ((7 : Int) < k) = true := decide_eq_true h
      clear h
      go_enter Tryd.func27, Tryd.ntmps27
      go_wp2_with fail
      go_ret
      exact ⟨by rw [HV.out]; rfl, HB.out⟩
  by_cases h7 : k = 7
  · subst h7
    by_cases hn : n = 0
    · subst hn
      have HV := Lib.hid (@ck_7 x)
      obtain ⟨sb, hsb⟩ : ∃ sb, symL x = sb := ⟨_, rfl⟩
      rw [hsb] at HV CS
      clear hsb he he2 hemp hlo
      cases sb
      all_goals
        go_enter Tryd.func27, Tryd.ntmps27
        go_wp2_with fail
        refine (CS.out _).mono ?_
        rintro e w1 ⟨rfl, hb1⟩
        go_wp2_with fail
        go_ret
        exact ⟨by rw [HV.out]; rfl, HB.out.trans (hb1.mono HB.out.size)⟩
    · have HV : Hid (ckT 7 n x = 2) := Lib.hid (HK.out (by rw [kd_7]; exact beq_eq_false_iff_ne.2 hn))
      have d1 : (n != 0) = true := bne_iff_ne.2 hn
      clear hn he he2 hemp hlo
      go_enter Tryd.func27, Tryd.ntmps27
      go_wp2_with fail
      go_ret
      exact ⟨by rw [HV.out]; rfl, HB.out⟩
  cases z
  · have hkd : kdB k n false = false := by
      by_cases h : k = 1 ∨ k = 2 ∨ k = 5 ∨ k = 6
      · rw [kd_z h]
      · rw [kd_q (by omega)]; rfl
    have HV : Hid (ckT k n x = 2) := Lib.hid (HK.out hkd)
    have d1 : decide (k < 1) = false := decide_eq_false (by omega)
    have d2 : decide ((7 : Int) < k) = false := decide_eq_false (by omega)
    have d3 : (k != 7) = true := bne_iff_ne.2 h7
    clear hkd hlo h7
    go_enter Tryd.func27, Tryd.ntmps27
    go_wp2_with fail
    go_ret
    exact ⟨by rw [HV.out]; rfl, HB.out⟩
  · have hx : x = [] := HX.out rfl
    subst hx
    have hk : k = 1 ∨ k = 2 ∨ k = 3 ∨ k = 4 ∨ k = 5 ∨ k = 6 := by omega
    clear hlo h7 HX
    rcases hk with rfl | rfl | rfl | rfl | rfl | rfl
    · have HV := Lib.hid (HEl.out (kd_z (by omega) n true) (by omega))
      rw [tx_1] at HV
      by_cases h1 : n = 1
      · subst h1
        go_enter Tryd.func27, Tryd.ntmps27
        go_wp2_with fail
        go_ret
        exact ⟨by rw [HV.out]; rfl, HB.out⟩
      · by_cases h2 : n = 2
        · subst h2
          go_enter Tryd.func27, Tryd.ntmps27
          go_wp2_with fail
          go_ret
          exact ⟨by rw [HV.out]; rfl, HB.out⟩
        · rw [if_neg h1, if_neg h2] at HV
          have d1 : (n != 1) = true := bne_iff_ne.2 h1
          have d2 : (n != 2) = true := bne_iff_ne.2 h2
          clear h1 h2
          go_enter Tryd.func27, Tryd.ntmps27
          go_wp2_with fail
          go_ret
          exact ⟨by rw [HV.out]; rfl, HB.out⟩
    · have HV := Lib.hid (HEl.out (kd_z (by omega) n true) (by omega))
      rw [tx_2] at HV
      by_cases h1 : n = 1
      · subst h1
        go_enter Tryd.func27, Tryd.ntmps27
        go_wp2_with fail
        go_ret
        exact ⟨by rw [HV.out]; rfl, HB.out⟩
      · by_cases h2 : n = 2
        · subst h2
          go_enter Tryd.func27, Tryd.ntmps27
          go_wp2_with fail
          go_ret
          exact ⟨by rw [HV.out]; rfl, HB.out⟩
        · rw [if_neg h1, if_neg h2] at HV
          have d1 : (n != 1) = true := bne_iff_ne.2 h1
          have d2 : (n != 2) = true := bne_iff_ne.2 h2
          clear h1 h2
          go_enter Tryd.func27, Tryd.ntmps27
          go_wp2_with fail
          go_ret
          exact ⟨by rw [HV.out]; rfl, HB.out⟩
    · by_cases hn : n = 0
      · subst hn
        have HV := Lib.hid (HEl.out (by decide) (by omega))
        rw [tx_34.1] at HV
        go_enter Tryd.func27, Tryd.ntmps27
        go_wp2_with fail
        go_ret
        exact ⟨by rw [HV.out]; rfl, HB.out⟩
      · have HV : Hid (ckT 3 n [] = 2) := Lib.hid (HK.out (by rw [kd_q (by omega)]; simpa using hn))
        have d1 : (n != 0) = true := bne_iff_ne.2 hn
        clear hn
        go_enter Tryd.func27, Tryd.ntmps27
        go_wp2_with fail
        go_ret
        exact ⟨by rw [HV.out]; rfl, HB.out⟩
    · by_cases hn : n = 0
      · subst hn
        have HV := Lib.hid (HEl.out (by decide) (by omega))
        rw [tx_34.2] at HV
        go_enter Tryd.func27, Tryd.ntmps27
        go_wp2_with fail
        go_ret
        exact ⟨by rw [HV.out]; rfl, HB.out⟩
      · have HV : Hid (ckT 4 n [] = 2) := Lib.hid (HK.out (by rw [kd_q (by omega)]; simpa using hn))
        have d1 : (n != 0) = true := bne_iff_ne.2 hn
        clear hn
        go_enter Tryd.func27, Tryd.ntmps27
        go_wp2_with fail
        go_ret
        exact ⟨by rw [HV.out]; rfl, HB.out⟩
    · have HV : Hid (ckT 5 n [] = 0) := Lib.hid (by rw [HEl.out (kd_z (by omega) n true) (by omega), if_neg (by show txT 5 n [] ≠ []; unfold txT; rw [if_pos rfl]; exact itoa_ne n)])
      go_enter Tryd.func27, Tryd.ntmps27
      go_wp2_with fail
      go_ret
      exact ⟨by rw [HV.out]; rfl, HB.out⟩
    · have HV := Lib.hid (HEl.out (kd_z (by omega) n true) (by omega))
      rw [tx_6] at HV
      by_cases h1 : n = 0
      · subst h1
        go_enter Tryd.func27, Tryd.ntmps27
        go_wp2_with fail
        go_ret
        exact ⟨by rw [HV.out]; rfl, HB.out⟩
      · by_cases h2 : n = 1
        · subst h2
          go_enter Tryd.func27, Tryd.ntmps27
          go_wp2_with fail
          go_ret
          exact ⟨by rw [HV.out]; rfl, HB.out⟩
        · rw [if_neg h1, if_neg h2] at HV
          have d1 : (n != 0) = true := bne_iff_ne.2 h1
          have d2 : (n != 1) = true := bne_iff_ne.2 h2
          clear h1 h2
          go_enter Tryd.func27, Tryd.ntmps27
          go_wp2_with fail
          go_ret
          exact ⟨by rw [HV.out]; rfl, HB.out⟩
-- MARK9
end Go.Proofs.YtlpbhncdkhppkaaDoor
