/- The reference's isInteger, Integer, Symbol, Check. -/
import Derived.Test.YtemoeohchhpilaaDoorLq
namespace Go.Proofs.YtemoeohchhpilaaDoor
open Go.RowKit Go.PlainAid

theorem digA_take {y : List UInt8} {i : Nat} {u : UInt8} (h : digA (y.take i) = true) (hu : y[i]? = some u) (h1 : 48 ≤ u.toNat) (h2 : u.toNat ≤ 57) : digA (y.take (i + 1)) = true := by
  unfold digA at *
  rw [List.take_add_one, hu, List.all_append, h, Bool.true_and]
  show ([u].all _) = true
  rw [List.all_cons, dig_iff, decide_eq_true ⟨h1, h2⟩]; rfl
theorem digA_bad {y : List UInt8} {i : Nat} {u : UInt8} (hu : y[i]? = some u) (h : u.toNat < 48 ∨ 57 < u.toNat) : digA y = false := by
  unfold digA
  rw [List.all_eq_false]
  refine ⟨u, List.mem_of_getElem? hu, ?_⟩
  rw [dig_iff, decide_eq_true_iff]; omega
theorem intB_of (x : List UInt8) : intB x = (decide (unsigned x ≠ []) && digA (unsigned x)) := rfl
theorem str_nth (y : List UInt8) (i : Nat) (h : i < (str y).size) : ∃ u, y[i]? = some u ∧ (((str y)[i]'h).toNat : Int) = (u.toNat : Int) := by
  have hl : i < y.length := by rw [← str_size]; exact h
  refine ⟨y[i], List.getElem?_eq_getElem hl, ?_⟩
  rw [← bt_get (str y) i h, bt_str y i hl]
set_option maxRecDepth 50000 in
set_option maxHeartbeats 3200000 in
theorem risInt_any (x : List UInt8) (w : World) (hl : x.length ≤ 1000000) : Calls Tryd.prog 33 #[.string (str x)] w fun e w' => e = .returned (.bool (intB x)) ∧ w = w' := by
  have HI := Lib.hid (intB_of x)
  obtain ⟨y, hy⟩ : ∃ y, unsigned x = y := ⟨_, rfl⟩
  rw [hy] at HI
  have HNth := Lib.hid (fun i h => str_nth y i h)
  obtain ⟨S, hS⟩ : ∃ S, str x = S := ⟨_, rfl⟩
  obtain ⟨Y, hY⟩ : ∃ Y, str y = Y := ⟨_, rfl⟩
  obtain ⟨m, hm⟩ : ∃ m, y.length = m := ⟨_, rfl⟩
  have hzY : Y.size = m := by rw [← hY, str_size, hm]
  have HM := Lib.hid hm
  have key : (S = Y ∧ S.size = 0) ∨ (S = Y ∧ ∃ h0 : 0 < S.size, (((S[0]'h0).toNat : Int) == 43) = false ∧ (((S[0]'h0).toNat : Int) == 45) = false) ∨
      (S.size = m + 1 ∧ S.extract 1 (m + 1) = Y ∧ ∃ h0 : 0 < S.size, (((S[0]'h0).toNat : Int) == 43) = true ∨ ((((S[0]'h0).toNat : Int) == 43) = false ∧ (((S[0]'h0).toNat : Int) == 45) = true)) := by
    cases x with
    | nil => left; have : y = [] := hy.symm; subst this; exact ⟨by rw [← hS, ← hY], by rw [← hS]; rfl⟩
    | cons c t =>
      have hsz : S.size = t.length + 1 := by rw [← hS, str_size]; rfl
      have h0 : 0 < S.size := by omega
      have hb0 : ((S[0]'h0).toNat : Int) = (c.toNat : Int) := by rw [← bt_get S 0 h0, ← hS, bt_str _ 0 (by simp)]; rfl
      by_cases hc : c = 43 ∨ c = 45
      · have e : y = t := by rw [← hy]; show (if c = 43 ∨ c = 45 then t else c :: t) = t; rw [if_pos hc]
        subst e
        right; right
        refine ⟨by rw [hsz, hm], by rw [← hm, ← hS, ← hY]; exact extr_1 c _, h0, ?_⟩
        rw [hb0]
        rcases hc with rfl | rfl
        · exact .inl rfl
        · exact .inr ⟨rfl, rfl⟩
      · have e : y = c :: t := by rw [← hy]; show (if c = 43 ∨ c = 45 then t else c :: t) = c :: t; rw [if_neg hc]
        subst e
        right; left
        refine ⟨by rw [← hS, ← hY], h0, ?_, ?_⟩
        · rw [hb0, beq_eq_false_iff_ne]; intro e; exact hc (.inl (UInt8.toNat_inj.1 (by show c.toNat = 43; omega)))
        · rw [hb0, beq_eq_false_iff_ne]; intro e; exact hc (.inr (UInt8.toNat_inj.1 (by show c.toNat = 45; omega)))
  have hml : m ≤ 1000000 := by
    rw [← hm, ← hy]
    cases x with
    | nil => show ([] : List UInt8).length ≤ _; rw [List.length_nil]; omega
    | cons c t =>
      show (if c = 43 ∨ c = 45 then t else c :: t).length ≤ _
      rw [List.length_cons] at hl
      split
      · omega
      · rw [List.length_cons]; exact hl
  rw [hS]
  rw [hY] at HNth
  clear hS hY hy hm hl
  rcases key with ⟨rfl, hz0⟩ | ⟨rfl, h0, e1, e2⟩ | ⟨hzS, hx, h0, hor⟩
  · have hm0 : m = 0 := by omega
    have HV : Hid (intB x = false) := Lib.hid (by rw [HI.out, List.length_eq_zero_iff.1 (HM.out.trans hm0)]; rfl)
    subst hm0
    clear hzY
    go_enter Tryd.func33, Tryd.ntmps33
    go_wp2_with fail
    -- MARK1
    go_loop [3] (fun x3 => x3 = .int .i64 0) (fun _ => 0)
    case atStart => rfl
    case round =>
      subst hrel
      go_wp2_with fail
      go_ret
      exact ⟨ret_bool HV.out.symm, rfl⟩
  · have hm0 : 0 < m := by omega
    go_enter Tryd.func33, Tryd.ntmps33
    go_wp2_with fail
    go_loop [3] (fun x3 => ∃ i : Nat, x3 = .int .i64 (i : Int) ∧ i ≤ m ∧ Hid (digA (y.take i) = true)) (fun x3 => m - (intOf x3).toNat)
    case atStart => exact ⟨0, rfl, Nat.zero_le _, Lib.hid rfl⟩
    case round =>
      obtain ⟨i, rfl, hi, HD⟩ := hrel
      by_cases hlt : i < m
      · have hiS : i < S.size := by omega
        obtain ⟨u, hu, hv⟩ := HNth.out i hiS
        by_cases hd : 48 ≤ u.toNat ∧ u.toNat ≤ 57
        · have HD2 := Lib.hid (digA_take HD.out hu hd.1 hd.2)
          have d1 : decide (((S[i]'hiS).toNat : Int) < 48) = false := decide_eq_false (by rw [hv]; omega)
          have d2 : decide ((57 : Int) < ((S[i]'hiS).toNat : Int)) = false := decide_eq_false (by rw [hv]; omega)
          clear hu hv hd
          go_wp2_with fail
          go_round
          case rel => exact ⟨i + 1, by go_num, by omega, HD2⟩
          case measure => simp [intOf]; omega
        · have HV : Hid (intB x = false) := Lib.hid (by rw [HI.out, digA_bad hu (by omega), Bool.and_false])
          have hor : decide (((S[i]'hiS).toNat : Int) < 48) = true ∨ (decide (((S[i]'hiS).toNat : Int) < 48) = false ∧ decide ((57 : Int) < ((S[i]'hiS).toNat : Int)) = true) := by
            by_cases h : u.toNat < 48
            · left; exact decide_eq_true (by rw [hv]; omega)
            · right; exact ⟨decide_eq_false (by rw [hv]; omega), decide_eq_true (by rw [hv]; omega)⟩
          clear hu hv hd
          rcases hor with d1 | ⟨d1, d2⟩
          all_goals
            go_wp2_with fail
            go_ret
            exact ⟨ret_bool HV.out.symm, rfl⟩
      · obtain rfl : i = m := by omega
        have HV : Hid (intB x = true) := Lib.hid (by
          have h1 := HD.out
          rw [List.take_of_length_le (Nat.le_of_eq HM.out)] at h1
          rw [HI.out, h1, decide_eq_true (List.ne_nil_of_length_pos (by rw [HM.out]; exact hm0))]; rfl)
        have hd0 : decide ((0 : Int) < (i : Int)) = true := decide_eq_true (by omega)
        go_wp2_with fail
        go_ret
        exact ⟨ret_bool HV.out.symm, rfl⟩
  · rcases hor with e1 | ⟨e1, e2⟩
    all_goals
      go_enter Tryd.func33, Tryd.ntmps33
      go_wp2_with fail
      go_loop [3] (fun x3 => ∃ i : Nat, x3 = .int .i64 (i : Int) ∧ i ≤ m ∧ Hid (digA (y.take i) = true)) (fun x3 => m - (intOf x3).toNat)
      case atStart => exact ⟨0, rfl, Nat.zero_le _, Lib.hid rfl⟩
      case round =>
        obtain ⟨i, rfl, hi, HD⟩ := hrel
        by_cases hlt : i < m
        · have hiS : i < Y.size := by omega
          obtain ⟨u, hu, hv⟩ := HNth.out i hiS
          by_cases hd : 48 ≤ u.toNat ∧ u.toNat ≤ 57
          · have HD2 := Lib.hid (digA_take HD.out hu hd.1 hd.2)
            have d1 : decide (((Y[i]'hiS).toNat : Int) < 48) = false := decide_eq_false (by rw [hv]; omega)
            have d2 : decide ((57 : Int) < ((Y[i]'hiS).toNat : Int)) = false := decide_eq_false (by rw [hv]; omega)
            clear hu hv hd
            go_wp2_with fail
            go_round
            case rel => exact ⟨i + 1, by go_num, by omega, HD2⟩
            case measure => simp [intOf]; omega
          · have HV : Hid (intB x = false) := Lib.hid (by rw [HI.out, digA_bad hu (by omega), Bool.and_false])
            have hor : decide (((Y[i]'hiS).toNat : Int) < 48) = true ∨ (decide (((Y[i]'hiS).toNat : Int) < 48) = false ∧ decide ((57 : Int) < ((Y[i]'hiS).toNat : Int)) = true) := by
              by_cases h : u.toNat < 48
              · left; exact decide_eq_true (by rw [hv]; omega)
              · right; exact ⟨decide_eq_false (by rw [hv]; omega), decide_eq_true (by rw [hv]; omega)⟩
            clear hu hv hd
            rcases hor with d1 | ⟨d1, d2⟩
            all_goals
              go_wp2_with fail
              go_ret
              exact ⟨ret_bool HV.out.symm, rfl⟩
        · obtain rfl : i = m := by omega
          have HV : Hid (intB x = decide (0 < i)) := Lib.hid (by
            have h1 := HD.out
            rw [List.take_of_length_le (Nat.le_of_eq HM.out)] at h1
            rw [HI.out, h1, Bool.and_true, Bool.eq_iff_iff, decide_eq_true_iff, decide_eq_true_iff, ← HM.out]
            exact List.length_pos_iff.symm)
          go_wp2_with fail
          go_ret
          exact ⟨ret_bool (by rw [HV.out]), rfl⟩

def rintV (x : List UInt8) : Value := .tuple #[.int .i64 (intE x).1, .int .i64 (intE x).2]
theorem numI_of (x : List UInt8) : numI x = if x.head? = some 45 then -(numFrom 0 (unsigned x) : Int) else (numFrom 0 (unsigned x) : Int) := rfl
theorem take_num {y : List UInt8} {i : Nat} {u : UInt8} (hu : y[i]? = some u) : numFrom 0 (y.take (i + 1)) = 10 * numFrom 0 (y.take i) + (u.toNat - 48) := by
  rw [List.take_add_one, hu]; exact numFrom_snoc _ _ _
theorem take_le (y : List UInt8) (i : Nat) : numFrom 0 (y.take i) ≤ numFrom 0 y := by
  conv => rhs; rw [← List.take_append_drop i y, numFrom_app]
  exact numFrom_ge _ _
theorem digA_at {y : List UInt8} {i : Nat} {u : UInt8} (h : digA y = true) (hu : y[i]? = some u) : 48 ≤ u.toNat ∧ u.toNat ≤ 57 := by
  have := List.all_eq_true.1 h u (List.mem_of_getElem? hu)
  rw [dig_iff, decide_eq_true_iff] at this; exact this
set_option maxRecDepth 100000 in
set_option maxHeartbeats 6400000 in
theorem rInteger_any (x : List UInt8) (w : World) (hl : x.length ≤ 1000000) : Calls Tryd.prog 34 #[.string (str x)] w fun e w' => e = .returned (rintV x) ∧ w = w' := by
  have CI := Lib.hid (fun W => risInt_any x W hl)
  by_cases hb : intB x = true
  · rw [hb] at CI
    obtain ⟨hne, hda⟩ := (intB_iff x).1 hb
    have HE : Hid (∀ v, numI x = v → rintV x = if fits v then .tuple #[.int .i64 v, .int .i64 0] else .tuple #[.int .i64 0, .int .i64 7]) := Lib.hid (by
      rintro v rfl
      unfold rintV
      by_cases hf : fits (numI x)
      · rw [if_pos hf, intE_ok hb hf]
      · rw [if_neg hf, intE_rng hb hf])
    obtain ⟨y, hy⟩ : ∃ y, unsigned x = y := ⟨_, rfl⟩
    rw [hy] at hne hda
    have HNth := Lib.hid (fun i h => str_nth y i h)
    obtain ⟨S, hS⟩ : ∃ S, str x = S := ⟨_, rfl⟩
    obtain ⟨Y, hY⟩ : ∃ Y, str y = Y := ⟨_, rfl⟩
    obtain ⟨m, hm⟩ : ∃ m, y.length = m := ⟨_, rfl⟩
    have hzY : Y.size = m := by rw [← hY, str_size, hm]
    have HM := Lib.hid hm
    have HDA := Lib.hid hda
    have hm0 : 0 < m := by rw [← hm]; exact List.length_pos_iff.2 hne
    have key : ∃ h0 : 0 < S.size, (S = Y ∧ (((S[0]'h0).toNat : Int) == 43) = false ∧ (((S[0]'h0).toNat : Int) == 45) = false ∧ Hid (numI x = (numFrom 0 y : Int))) ∨
        (S.size = m + 1 ∧ S.extract 1 (m + 1) = Y ∧ (((S[0]'h0).toNat : Int) == 43) = true ∧ (((S[0]'h0).toNat : Int) == 45) = false ∧ Hid (numI x = (numFrom 0 y : Int))) ∨
        (S.size = m + 1 ∧ S.extract 1 (m + 1) = Y ∧ (((S[0]'h0).toNat : Int) == 45) = true ∧ Hid (numI x = -(numFrom 0 y : Int))) := by
      cases x with
      | nil => exact absurd hy.symm hne
      | cons c t =>
        have hsz : S.size = t.length + 1 := by rw [← hS, str_size]; rfl
        have h0 : 0 < S.size := by omega
        have hb0 : ((S[0]'h0).toNat : Int) = (c.toNat : Int) := by rw [← bt_get S 0 h0, ← hS, bt_str _ 0 (by simp)]; rfl
        refine ⟨h0, ?_⟩
        rw [hb0]
        by_cases hc : c = 43 ∨ c = 45
        · have e : y = t := by rw [← hy]; show (if c = 43 ∨ c = 45 then t else c :: t) = t; rw [if_pos hc]
          subst e
          have e1 : S.size = m + 1 := by rw [hsz, hm]
          have e2 : S.extract 1 (m + 1) = Y := by rw [← hm, ← hS, ← hY]; exact extr_1 c _
          right
          rcases hc with rfl | rfl
          · exact .inl ⟨e1, e2, rfl, rfl, Lib.hid (by rw [numI_of, hy, if_neg (by simp)])⟩
          · exact .inr ⟨e1, e2, rfl, Lib.hid (by rw [numI_of, hy]; exact if_pos (by rw [List.head?_cons]))⟩
        · have e : y = c :: t := by rw [← hy]; show (if c = 43 ∨ c = 45 then t else c :: t) = c :: t; rw [if_neg hc]
          subst e
          left
          refine ⟨by rw [← hS, ← hY], ?_, ?_, Lib.hid (by rw [numI_of, hy, if_neg (by simp; exact fun e => hc (.inr e))])⟩
          · rw [beq_eq_false_iff_ne]; intro e; exact hc (.inl (UInt8.toNat_inj.1 (by show c.toNat = 43; omega)))
          · rw [beq_eq_false_iff_ne]; intro e; exact hc (.inr (UInt8.toNat_inj.1 (by show c.toNat = 45; omega)))
    have HTk := Lib.hid (fun i u (hu : y[i]? = some u) => take_num hu)
    have HLe := Lib.hid (fun i => take_le y i)
    have hml : m ≤ 1000000 := by
      rw [← hm, ← hy]
      cases x with
      | nil => show ([] : List UInt8).length ≤ _; rw [List.length_nil]; omega
      | cons c t =>
        show (if c = 43 ∨ c = 45 then t else c :: t).length ≤ _
        rw [List.length_cons] at hl
        split
        · omega
        · rw [List.length_cons]; exact hl
    rw [hS] at CI ⊢
    rw [hY] at HNth
    obtain ⟨N, hN⟩ : ∃ N, numFrom 0 y = N := ⟨_, rfl⟩
    rw [hN] at HLe
    clear hS hY hy hm hl hb hda hne
    obtain ⟨h0, key⟩ := key
    have hfit : Hid (∀ v : Int, fits v ↔ (-9223372036854775808 ≤ v ∧ v ≤ 9223372036854775807)) := Lib.hid fun v => Iff.rfl
    rcases key with ⟨hSY, e1, e2, HN⟩ | ⟨hzS, hx, e1, e2, HN⟩ | ⟨hzS, hx, e2, HN⟩
    · have hSY2 := hSY.symm
      subst hSY2
      clear hSY
      rw [hN] at HN
      go_enter Tryd.func34, Tryd.ntmps34
      go_wp2_with fail
      refine (CI.out _).mono ?_
      rintro e w1 ⟨rfl, rfl⟩
      go_wp2_with fail
      go_loop [5, 6] (fun x5 x6 => ∃ (i q : Nat) (p : Int), x6 = .int .i64 (i : Int) ∧ x5 = .int .i64 p ∧ i ≤ m ∧ -9223372036854775808 ≤ p ∧ p ≤ 0 ∧ Hid (p = -(q : Int)) ∧ Hid (numFrom 0 (y.take i) = q)) (fun _ x6 => m - (intOf x6).toNat)
      case atStart => exact ⟨0, 0, 0, rfl, rfl, Nat.zero_le _, by omega, by omega, Lib.hid rfl, Lib.hid rfl⟩
      case round =>
        obtain ⟨i, q, p, rfl, rfl, hi, hp1, hp2, HPq, HQ⟩ := hrel
        by_cases hlt : i < m
        · have hiS : i < Y.size := by omega
          obtain ⟨u, hu, hv⟩ := HNth.out i hiS
          have hdg := digA_at HDA.out hu
          have hz1 : (48 : Int) ≤ ((Y[i]'hiS).toNat : Int) := by rw [hv]; omega
          have hz2 : ((Y[i]'hiS).toNat : Int) ≤ 57 := by rw [hv]; omega
          have HS : Hid (numFrom 0 (y.take (i + 1)) = 10 * q + (u.toNat - 48)) := Lib.hid (by rw [HTk.out i u hu, HQ.out])
          have HLe1 : Hid (10 * q + (u.toNat - 48) ≤ N) := Lib.hid (by rw [← HS.out]; exact HLe.out (i + 1))
          have HU := Lib.hid hdg
          have HVu := Lib.hid hv
          clear hu hv hdg
          have hpq := HPq.out
          have hcase : 922337203685477580 < q ∨ (q = 922337203685477580 ∧ 56 < u.toNat) ∨ (q < 922337203685477580) ∨ (q = 922337203685477580 ∧ u.toNat ≤ 56) := by omega
          have hbig : 922337203685477580 < q ∨ (q = 922337203685477580 ∧ 56 < u.toNat) → 9223372036854775808 < N := by
            intro h
            have h1 := HLe1.out
            have h2 := HU.out
            omega
          rcases hcase with h | ⟨h, h'⟩ | h | ⟨h, h'⟩
          · have HV : Hid (rintV x = .tuple #[.int .i64 0, .int .i64 7]) := Lib.hid (by
              have h1 := hbig (.inl h)
              rw [HE.out _ HN.out, if_neg (by rw [hfit.out]; omega)])
            have d1 : decide (p < -922337203685477580) = true := decide_eq_true (by omega)
            clear hbig h hpq
            go_wp2_with fail
            go_ret2
            exact ⟨by rw [HV.out]; rfl, rfl⟩
          · have HV : Hid (rintV x = .tuple #[.int .i64 0, .int .i64 7]) := Lib.hid (by
              have h1 := hbig (.inr ⟨h, h'⟩)
              rw [HE.out _ HN.out, if_neg (by rw [hfit.out]; omega)])
            have d1 : decide (p < -922337203685477580) = false := decide_eq_false (by omega)
            have d2 : (p == -922337203685477580) = true := beq_iff_eq.2 (by omega)
            have d3 : decide ((8 : Int) < ((Y[i]'hiS).toNat : Int) - 48) = true := decide_eq_true (by rw [HVu.out]; omega)
            clear hbig h hpq
            go_wp2_with fail
            go_ret2
            exact ⟨by rw [HV.out]; rfl, rfl⟩
          · have d1 : decide (p < -922337203685477580) = false := decide_eq_false (by omega)
            have d2 : (p == -922337203685477580) = false := beq_eq_false_iff_ne.2 (by omega)
            have hp3 : -922337203685477579 ≤ p := by omega
            have HQ2 : Hid (10 * p - (((Y[i]'hiS).toNat : Int) - 48) = -((10 * q + (u.toNat - 48) : Nat) : Int) ∧ 10 * q + (u.toNat - 48) ≤ 9223372036854775808) := Lib.hid (by
              have h2 := HU.out
              rw [HVu.out]; omega)
            clear hbig h hpq
            go_wp2_with fail
            -- MARKA
            go_round
            case rel => exact ⟨i + 1, 10 * q + (u.toNat - 48), -((10 * q + (u.toNat - 48) : Nat) : Int), by go_num, int_v (by have := HQ2.out.1; omega), by omega, by have := HQ2.out.2; omega, by omega, Lib.hid rfl, HS⟩
            case measure => simp [intOf]; omega
          · have d1 : decide (p < -922337203685477580) = false := decide_eq_false (by omega)
            have d2 : (p == -922337203685477580) = true := beq_iff_eq.2 (by omega)
            have d3 : decide ((8 : Int) < ((Y[i]'hiS).toNat : Int) - 48) = false := decide_eq_false (by rw [HVu.out]; omega)
            have hp3 : -922337203685477580 ≤ p := by omega
            have hp5 : p ≤ -922337203685477580 := by omega
            have hz3 : ((Y[i]'hiS).toNat : Int) ≤ 56 := by rw [HVu.out]; omega
            have HQ2 : Hid (10 * p - (((Y[i]'hiS).toNat : Int) - 48) = -((10 * q + (u.toNat - 48) : Nat) : Int) ∧ 10 * q + (u.toNat - 48) ≤ 9223372036854775808) := Lib.hid (by
              have h2 := HU.out
              rw [HVu.out]; omega)
            clear hbig h hpq
            go_wp2_with fail
            go_round
            case rel => exact ⟨i + 1, 10 * q + (u.toNat - 48), -((10 * q + (u.toNat - 48) : Nat) : Int), by go_num, int_v (by have := HQ2.out.1; omega), by omega, by have := HQ2.out.2; omega, by omega, Lib.hid rfl, HS⟩
            case measure => simp [intOf]; omega
        · obtain rfl : i = m := by omega
          have hpq := HPq.out
          have hqN : q = N := by rw [← HQ.out, List.take_of_length_le (Nat.le_of_eq HM.out)]; exact hN
          by_cases hmax : p = -9223372036854775808
          · have HV : Hid (rintV x = .tuple #[.int .i64 0, .int .i64 7]) := Lib.hid (by
              rw [HE.out _ HN.out, if_neg (by rw [hfit.out]; omega)])
            have d2 : (p == -9223372036854775808) = true := beq_iff_eq.2 hmax
            clear hmax hqN hN hpq
            go_wp2_with fail
            go_ret2
            exact ⟨by rw [HV.out]; rfl, rfl⟩
          · have HV : Hid (rintV x = .tuple #[.int .i64 (-p), .int .i64 0]) := Lib.hid (by
              rw [HE.out _ HN.out, if_pos (by rw [hfit.out]; omega), show (N : Int) = -p by omega])
            have d2 : (p == -9223372036854775808) = false := beq_eq_false_iff_ne.2 hmax
            have hp4 : -9223372036854775807 ≤ p := by omega
            clear hmax hqN hN hpq
            go_wp2_with fail
            -- MARKB
            go_ret2
            exact ⟨by rw [HV.out]; rfl, rfl⟩
    · rw [hN] at HN
      go_enter Tryd.func34, Tryd.ntmps34
      go_wp2_with fail
      refine (CI.out _).mono ?_
      rintro e w1 ⟨rfl, rfl⟩
      go_wp2_with fail
      go_loop [5, 6] (fun x5 x6 => ∃ (i q : Nat) (p : Int), x6 = .int .i64 (i : Int) ∧ x5 = .int .i64 p ∧ i ≤ m ∧ -9223372036854775808 ≤ p ∧ p ≤ 0 ∧ Hid (p = -(q : Int)) ∧ Hid (numFrom 0 (y.take i) = q)) (fun _ x6 => m - (intOf x6).toNat)
      case atStart => exact ⟨0, 0, 0, rfl, rfl, Nat.zero_le _, by omega, by omega, Lib.hid rfl, Lib.hid rfl⟩
      case round =>
        obtain ⟨i, q, p, rfl, rfl, hi, hp1, hp2, HPq, HQ⟩ := hrel
        by_cases hlt : i < m
        · have hiS : i < Y.size := by omega
          obtain ⟨u, hu, hv⟩ := HNth.out i hiS
          have hdg := digA_at HDA.out hu
          have hz1 : (48 : Int) ≤ ((Y[i]'hiS).toNat : Int) := by rw [hv]; omega
          have hz2 : ((Y[i]'hiS).toNat : Int) ≤ 57 := by rw [hv]; omega
          have HS : Hid (numFrom 0 (y.take (i + 1)) = 10 * q + (u.toNat - 48)) := Lib.hid (by rw [HTk.out i u hu, HQ.out])
          have HLe1 : Hid (10 * q + (u.toNat - 48) ≤ N) := Lib.hid (by rw [← HS.out]; exact HLe.out (i + 1))
          have HU := Lib.hid hdg
          have HVu := Lib.hid hv
          clear hu hv hdg
          have hpq := HPq.out
          have hcase : 922337203685477580 < q ∨ (q = 922337203685477580 ∧ 56 < u.toNat) ∨ (q < 922337203685477580) ∨ (q = 922337203685477580 ∧ u.toNat ≤ 56) := by omega
          have hbig : 922337203685477580 < q ∨ (q = 922337203685477580 ∧ 56 < u.toNat) → 9223372036854775808 < N := by
            intro h
            have h1 := HLe1.out
            have h2 := HU.out
            omega
          rcases hcase with h | ⟨h, h'⟩ | h | ⟨h, h'⟩
          · have HV : Hid (rintV x = .tuple #[.int .i64 0, .int .i64 7]) := Lib.hid (by
              have h1 := hbig (.inl h)
              rw [HE.out _ HN.out, if_neg (by rw [hfit.out]; omega)])
            have d1 : decide (p < -922337203685477580) = true := decide_eq_true (by omega)
            clear hbig h hpq
            go_wp2_with fail
            go_ret2
            exact ⟨by rw [HV.out]; rfl, rfl⟩
          · have HV : Hid (rintV x = .tuple #[.int .i64 0, .int .i64 7]) := Lib.hid (by
              have h1 := hbig (.inr ⟨h, h'⟩)
              rw [HE.out _ HN.out, if_neg (by rw [hfit.out]; omega)])
            have d1 : decide (p < -922337203685477580) = false := decide_eq_false (by omega)
            have d2 : (p == -922337203685477580) = true := beq_iff_eq.2 (by omega)
            have d3 : decide ((8 : Int) < ((Y[i]'hiS).toNat : Int) - 48) = true := decide_eq_true (by rw [HVu.out]; omega)
            clear hbig h hpq
            go_wp2_with fail
            go_ret2
            exact ⟨by rw [HV.out]; rfl, rfl⟩
          · have d1 : decide (p < -922337203685477580) = false := decide_eq_false (by omega)
            have d2 : (p == -922337203685477580) = false := beq_eq_false_iff_ne.2 (by omega)
            have hp3 : -922337203685477579 ≤ p := by omega
            have HQ2 : Hid (10 * p - (((Y[i]'hiS).toNat : Int) - 48) = -((10 * q + (u.toNat - 48) : Nat) : Int) ∧ 10 * q + (u.toNat - 48) ≤ 9223372036854775808) := Lib.hid (by
              have h2 := HU.out
              rw [HVu.out]; omega)
            clear hbig h hpq
            go_wp2_with fail
            -- MARKA
            go_round
            case rel => exact ⟨i + 1, 10 * q + (u.toNat - 48), -((10 * q + (u.toNat - 48) : Nat) : Int), by go_num, int_v (by have := HQ2.out.1; omega), by omega, by have := HQ2.out.2; omega, by omega, Lib.hid rfl, HS⟩
            case measure => simp [intOf]; omega
          · have d1 : decide (p < -922337203685477580) = false := decide_eq_false (by omega)
            have d2 : (p == -922337203685477580) = true := beq_iff_eq.2 (by omega)
            have d3 : decide ((8 : Int) < ((Y[i]'hiS).toNat : Int) - 48) = false := decide_eq_false (by rw [HVu.out]; omega)
            have hp3 : -922337203685477580 ≤ p := by omega
            have hp5 : p ≤ -922337203685477580 := by omega
            have hz3 : ((Y[i]'hiS).toNat : Int) ≤ 56 := by rw [HVu.out]; omega
            have HQ2 : Hid (10 * p - (((Y[i]'hiS).toNat : Int) - 48) = -((10 * q + (u.toNat - 48) : Nat) : Int) ∧ 10 * q + (u.toNat - 48) ≤ 9223372036854775808) := Lib.hid (by
              have h2 := HU.out
              rw [HVu.out]; omega)
            clear hbig h hpq
            go_wp2_with fail
            go_round
            case rel => exact ⟨i + 1, 10 * q + (u.toNat - 48), -((10 * q + (u.toNat - 48) : Nat) : Int), by go_num, int_v (by have := HQ2.out.1; omega), by omega, by have := HQ2.out.2; omega, by omega, Lib.hid rfl, HS⟩
            case measure => simp [intOf]; omega
        · obtain rfl : i = m := by omega
          have hpq := HPq.out
          have hqN : q = N := by rw [← HQ.out, List.take_of_length_le (Nat.le_of_eq HM.out)]; exact hN
          by_cases hmax : p = -9223372036854775808
          · have HV : Hid (rintV x = .tuple #[.int .i64 0, .int .i64 7]) := Lib.hid (by
              rw [HE.out _ HN.out, if_neg (by rw [hfit.out]; omega)])
            have d2 : (p == -9223372036854775808) = true := beq_iff_eq.2 hmax
            clear hmax hqN hN hpq
            go_wp2_with fail
            go_ret2
            exact ⟨by rw [HV.out]; rfl, rfl⟩
          · have HV : Hid (rintV x = .tuple #[.int .i64 (-p), .int .i64 0]) := Lib.hid (by
              rw [HE.out _ HN.out, if_pos (by rw [hfit.out]; omega), show (N : Int) = -p by omega])
            have d2 : (p == -9223372036854775808) = false := beq_eq_false_iff_ne.2 hmax
            have hp4 : -9223372036854775807 ≤ p := by omega
            clear hmax hqN hN hpq
            go_wp2_with fail
            -- MARKB
            go_ret2
            exact ⟨by rw [HV.out]; rfl, rfl⟩
    · rw [hN] at HN
      go_enter Tryd.func34, Tryd.ntmps34
      go_wp2_with fail
      refine (CI.out _).mono ?_
      rintro e w1 ⟨rfl, rfl⟩
      go_wp2_with fail
      go_loop [5, 6] (fun x5 x6 => ∃ (i q : Nat) (p : Int), x6 = .int .i64 (i : Int) ∧ x5 = .int .i64 p ∧ i ≤ m ∧ -9223372036854775808 ≤ p ∧ p ≤ 0 ∧ Hid (p = -(q : Int)) ∧ Hid (numFrom 0 (y.take i) = q)) (fun _ x6 => m - (intOf x6).toNat)
      case atStart => exact ⟨0, 0, 0, rfl, rfl, Nat.zero_le _, by omega, by omega, Lib.hid rfl, Lib.hid rfl⟩
      case round =>
        obtain ⟨i, q, p, rfl, rfl, hi, hp1, hp2, HPq, HQ⟩ := hrel
        by_cases hlt : i < m
        · have hiS : i < Y.size := by omega
          obtain ⟨u, hu, hv⟩ := HNth.out i hiS
          have hdg := digA_at HDA.out hu
          have hz1 : (48 : Int) ≤ ((Y[i]'hiS).toNat : Int) := by rw [hv]; omega
          have hz2 : ((Y[i]'hiS).toNat : Int) ≤ 57 := by rw [hv]; omega
          have HS : Hid (numFrom 0 (y.take (i + 1)) = 10 * q + (u.toNat - 48)) := Lib.hid (by rw [HTk.out i u hu, HQ.out])
          have HLe1 : Hid (10 * q + (u.toNat - 48) ≤ N) := Lib.hid (by rw [← HS.out]; exact HLe.out (i + 1))
          have HU := Lib.hid hdg
          have HVu := Lib.hid hv
          clear hu hv hdg
          have hpq := HPq.out
          have hcase : 922337203685477580 < q ∨ (q = 922337203685477580 ∧ 56 < u.toNat) ∨ (q < 922337203685477580) ∨ (q = 922337203685477580 ∧ u.toNat ≤ 56) := by omega
          have hbig : 922337203685477580 < q ∨ (q = 922337203685477580 ∧ 56 < u.toNat) → 9223372036854775808 < N := by
            intro h
            have h1 := HLe1.out
            have h2 := HU.out
            omega
          rcases hcase with h | ⟨h, h'⟩ | h | ⟨h, h'⟩
          · have HV : Hid (rintV x = .tuple #[.int .i64 0, .int .i64 7]) := Lib.hid (by
              have h1 := hbig (.inl h)
              rw [HE.out _ HN.out, if_neg (by rw [hfit.out]; omega)])
            have d1 : decide (p < -922337203685477580) = true := decide_eq_true (by omega)
            clear hbig h hpq
            go_wp2_with fail
            go_ret2
            exact ⟨by rw [HV.out]; rfl, rfl⟩
          · have HV : Hid (rintV x = .tuple #[.int .i64 0, .int .i64 7]) := Lib.hid (by
              have h1 := hbig (.inr ⟨h, h'⟩)
              rw [HE.out _ HN.out, if_neg (by rw [hfit.out]; omega)])
            have d1 : decide (p < -922337203685477580) = false := decide_eq_false (by omega)
            have d2 : (p == -922337203685477580) = true := beq_iff_eq.2 (by omega)
            have d3 : decide ((8 : Int) < ((Y[i]'hiS).toNat : Int) - 48) = true := decide_eq_true (by rw [HVu.out]; omega)
            clear hbig h hpq
            go_wp2_with fail
            go_ret2
            exact ⟨by rw [HV.out]; rfl, rfl⟩
          · have d1 : decide (p < -922337203685477580) = false := decide_eq_false (by omega)
            have d2 : (p == -922337203685477580) = false := beq_eq_false_iff_ne.2 (by omega)
            have hp3 : -922337203685477579 ≤ p := by omega
            have HQ2 : Hid (10 * p - (((Y[i]'hiS).toNat : Int) - 48) = -((10 * q + (u.toNat - 48) : Nat) : Int) ∧ 10 * q + (u.toNat - 48) ≤ 9223372036854775808) := Lib.hid (by
              have h2 := HU.out
              rw [HVu.out]; omega)
            clear hbig h hpq
            go_wp2_with fail
            -- MARKA
            go_round
            case rel => exact ⟨i + 1, 10 * q + (u.toNat - 48), -((10 * q + (u.toNat - 48) : Nat) : Int), by go_num, int_v (by have := HQ2.out.1; omega), by omega, by have := HQ2.out.2; omega, by omega, Lib.hid rfl, HS⟩
            case measure => simp [intOf]; omega
          · have d1 : decide (p < -922337203685477580) = false := decide_eq_false (by omega)
            have d2 : (p == -922337203685477580) = true := beq_iff_eq.2 (by omega)
            have d3 : decide ((8 : Int) < ((Y[i]'hiS).toNat : Int) - 48) = false := decide_eq_false (by rw [HVu.out]; omega)
            have hp3 : -922337203685477580 ≤ p := by omega
            have hp5 : p ≤ -922337203685477580 := by omega
            have hz3 : ((Y[i]'hiS).toNat : Int) ≤ 56 := by rw [HVu.out]; omega
            have HQ2 : Hid (10 * p - (((Y[i]'hiS).toNat : Int) - 48) = -((10 * q + (u.toNat - 48) : Nat) : Int) ∧ 10 * q + (u.toNat - 48) ≤ 9223372036854775808) := Lib.hid (by
              have h2 := HU.out
              rw [HVu.out]; omega)
            clear hbig h hpq
            go_wp2_with fail
            go_round
            case rel => exact ⟨i + 1, 10 * q + (u.toNat - 48), -((10 * q + (u.toNat - 48) : Nat) : Int), by go_num, int_v (by have := HQ2.out.1; omega), by omega, by have := HQ2.out.2; omega, by omega, Lib.hid rfl, HS⟩
            case measure => simp [intOf]; omega
        · obtain rfl : i = m := by omega
          have hpq := HPq.out
          have hqN : q = N := by rw [← HQ.out, List.take_of_length_le (Nat.le_of_eq HM.out)]; exact hN
          have HV : Hid (rintV x = .tuple #[.int .i64 p, .int .i64 0]) := Lib.hid (by
              rw [HE.out _ HN.out, if_pos (by rw [hfit.out]; omega), show -(N : Int) = p by omega])
          clear hqN hN hpq
          go_wp2_with fail
          go_ret2
          exact ⟨by rw [HV.out]; rfl, rfl⟩
  · have hbf : intB x = false := by cases h : intB x with | true => exact absurd h hb | false => rfl
    have HV : Hid (rintV x = .tuple #[.int .i64 0, .int .i64 6]) := Lib.hid (by unfold rintV; rw [intE_no hbf])
    rw [hbf] at CI
    obtain ⟨S, hS⟩ : ∃ S, str x = S := ⟨_, rfl⟩
    rw [hS] at CI ⊢
    clear hb hbf hS hl
    go_enter Tryd.func34, Tryd.ntmps34
    go_wp2_with fail
    refine (CI.out _).mono ?_
    rintro e w1 ⟨rfl, rfl⟩
    go_wp2_with fail
    go_ret2
    exact ⟨by rw [HV.out]; rfl, rfl⟩
-- MARK9
end Go.Proofs.YtemoeohchhpilaaDoor
