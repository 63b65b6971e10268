/- Symbol, in the reference; the law DataChecks. -/
import Derived.Test.YtdiinlmeoifgjaaGreatDoorZy
namespace Go.Proofs.YtdiinlmeoifgjaaGreatDoor
open Go.RowKit Go.PlainAid

theorem all_iff {u : List UInt8} : u.all (digS.contains ·) = true ↔ ∀ (j : Nat) (c : UInt8), u[j]? = some c → digS.contains c = true := by
  rw [List.all_eq_true]
  constructor
  · intro h j c hj; exact h c (List.mem_of_getElem? hj)
  · intro h c hc; obtain ⟨j, hj⟩ := List.getElem?_of_mem hc; exact h j c hj
theorem all_no {u : List UInt8} {j : Nat} {c : UInt8} (h : u[j]? = some c) (hc : digS.contains c = false) : u.all (digS.contains ·) = false := by
  rw [List.all_eq_false]; exact ⟨c, List.mem_of_getElem? h, by rw [hc]; decide⟩
theorem str_bt {u : List UInt8} {U : ByteArray} (hU : str u = U) (k : Nat) (x : UInt8) (hx : u[k]? = some x) (hk : k < U.size) : ((U[k]'hk).toNat : Int) = (x.toNat : Int) := by
  subst hU
  obtain ⟨h1, h2⟩ := List.getElem?_eq_some_iff.1 hx
  rw [← bt_get _ k hk, bt_str u k h1, h2]

set_option maxRecDepth 50000 in
set_option maxHeartbeats 1600000 in
theorem rinteger_nil (w : World) : Calls Tryz.prog 51 #[.string (str [])] w fun e w' => e = .returned (.bool (intB [])) ∧ w = w' := by
  have HV : Hid (intB [] = false) := Lib.hid rfl
  obtain ⟨S, hS⟩ : ∃ S, str ([] : List UInt8) = S := ⟨_, rfl⟩
  have hsz : S.size = 0 := by rw [← hS]; rfl
  rw [hS]
  clear hS
  go_enter Tryz.func51, Tryz.ntmps51
  go_wp2_with fail
  go_loop [3] (fun x => x = .int .i64 0) (fun _ => 0)
  case atStart => rfl
  case round =>
    subst hrel
    go_wp2_with fail
    go_ret
    exact ⟨ret_bool (by rw [HV.out]), rfl⟩

set_option maxRecDepth 50000 in
set_option maxHeartbeats 3200000 in
theorem rinteger_any (c : UInt8) (t : List UInt8) (w : World) (hl : (c :: t).length ≤ 1000) : Calls Tryz.prog 51 #[.string (str (c :: t))] w fun e w' => e = .returned (.bool (intB (c :: t))) ∧ w = w' := by
  obtain ⟨S, hS⟩ : ∃ S, str (c :: t) = S := ⟨_, rfl⟩
  have hsz : S.size = t.length + 1 := by rw [← hS, str_size]; rfl
  have hx1 : S.extract 1 (t.length + 1) = str t := by rw [← hS]; exact extr_1 c t
  have h0 : 0 < S.size := by omega
  have hb0 : ((S[0]'h0).toNat : Int) = (c.toNat : Int) := str_bt hS 0 c rfl h0
  have hlt1 : t.length ≤ 1000 := by simp at hl; omega
  by_cases hc : c = 43 ∨ c = 45
  · have HV : Hid (intB (c :: t) = (decide (t ≠ []) && t.all (digS.contains ·))) := Lib.hid (by rw [int_cons, if_pos hc])
    have hor : (((S[0]'h0).toNat : Int) == 43) = true ∨ ((((S[0]'h0).toNat : Int) == 43) = false ∧ (((S[0]'h0).toNat : Int) == 45) = true) := by
      rw [hb0]; rcases hc with rfl | rfl
      · exact .inl rfl
      · exact .inr ⟨rfl, rfl⟩
    have HBad : Hid (∀ (k : Nat) (x : UInt8), t[k]? = some x → digS.contains x = false → intB (c :: t) = false) := Lib.hid fun k x h1 h2 => by rw [HV.out, all_no h1 h2, Bool.and_false]
    have HGood : Hid ((∀ (j : Nat) (x : UInt8), t[j]? = some x → digS.contains x = true) → intB (c :: t) = decide (0 < t.length)) := Lib.hid fun h => by
      rw [HV.out, all_iff.2 h, Bool.and_true]
      cases t with
      | nil => rfl
      | cons _ _ => rfl
    obtain ⟨U, hU⟩ : ∃ U, str t = U := ⟨_, rfl⟩
    have hUs : U.size = t.length := by rw [← hU, str_size]
    have hUb := fun k x hx hk => str_bt hU k x hx hk
    have HUb := Lib.hid hUb
    rw [hU] at hx1
    rw [hS]
    clear hb0 hc hS HV hl hU hUb
    rcases hor with e1 | ⟨e1, e2⟩
    · have hpos : 0 < t.length + 1 := by omega
      go_enter Tryz.func51, Tryz.ntmps51
      go_wp2_with fail
      obtain ⟨n, hn⟩ : ∃ n, t.length = n := ⟨_, rfl⟩
      have HN := Lib.hid hn
      have hsU : U.size = n := by rw [hUs]; exact hn
      clear hn
      -- MARK0
      go_loop [3] (fun x => ∃ k : Nat, x = .int .i64 (k : Int) ∧ k ≤ n ∧ Hid (∀ (j : Nat) (c : UInt8), j < k → t[j]? = some c → digS.contains c = true)) (fun x => n - (intOf x).toNat)
      case atStart => exact ⟨0, rfl, Nat.zero_le _, Lib.hid (fun j c h => by omega)⟩
      case round =>
        obtain ⟨k, rfl, hk, HP⟩ := hrel
        have hk0 : (0 : Int) ≤ (k : Int) := Int.natCast_nonneg _
        by_cases hlt : k < n
        · obtain ⟨x, hx⟩ : ∃ x, t[k]? = some x := ⟨_, List.getElem?_eq_getElem (by rw [HN.out]; exact hlt)⟩
          have hku : k < U.size := by omega
          have hb : ((U[k]'hku).toNat : Int) = (x.toNat : Int) := HUb.out k x hx hku
          have hk1 : (k : Int) < (n : Int) := by omega
          have HX := Lib.hid hx
          clear hx
          by_cases hlo : x.toNat < 48
          · have HF : Hid (intB (c :: t) = false) := Lib.hid (HBad.out k x HX.out (by rw [dig_iff, decide_eq_false]; omega))
            have d1 : decide (((U[k]'hku).toNat : Int) < 48) = true := decide_eq_true (by omega)
            have d2 : (U[k]'hku).toNat < 48 := by omega
            clear hb hlo
            go_wp2_with fail
            all_goals go_ret
            all_goals exact ⟨ret_bool (by rw [HF.out] <;> (first | rfl | exact (decide_eq_true (by have := HN.out; omega)).symm)), rfl⟩
          · by_cases hhi : 57 < x.toNat
            · have HF : Hid (intB (c :: t) = false) := Lib.hid (HBad.out k x HX.out (by rw [dig_iff, decide_eq_false]; omega))
              have d1 : decide (((U[k]'hku).toNat : Int) < 48) = false := decide_eq_false (by omega)
              have d2 : ¬ (U[k]'hku).toNat < 48 := by omega
              have d3 : decide (57 < ((U[k]'hku).toNat : Int)) = true := decide_eq_true (by omega)
              have d4 : 57 < (U[k]'hku).toNat := by omega
              clear hb hhi hlo
              go_wp2_with fail
              all_goals go_ret
              all_goals exact ⟨ret_bool (by rw [HF.out] <;> (first | rfl | exact (decide_eq_true (by have := HN.out; omega)).symm)), rfl⟩
            · have HP2 : Hid (∀ (j : Nat) (c : UInt8), j < k + 1 → t[j]? = some c → digS.contains c = true) := Lib.hid fun j c hj hc => by
                by_cases e : j = k
                · subst e; rw [HX.out] at hc; cases hc; rw [dig_iff, decide_eq_true_iff]; omega
                · exact HP.out j c (by omega) hc
              have d1 : decide (((U[k]'hku).toNat : Int) < 48) = false := decide_eq_false (by omega)
              have d2 : ¬ (U[k]'hku).toNat < 48 := by omega
              have d3 : decide (57 < ((U[k]'hku).toNat : Int)) = false := decide_eq_false (by omega)
              have d4 : ¬ 57 < (U[k]'hku).toNat := by omega
              clear hb hhi hlo
              go_wp2_with fail
              all_goals go_round
              case rel => exact ⟨k + 1, by go_num, by omega, HP2⟩
              case measure => simp [intOf]; omega
        · obtain rfl : k = n := by omega
          have HF := Lib.hid (HGood.out (fun j c hc => HP.out j c (by rw [← HN.out]; exact (List.getElem?_eq_some_iff.1 hc).1) hc))
          by_cases hz : k = 0
          · have d1 : decide ((0 : Int) < (k : Int)) = false := decide_eq_false (by omega)
            have d2 : ¬ 0 < k := by omega
            clear hz
            go_wp2_with fail
            all_goals go_ret
            all_goals exact ⟨ret_bool (by rw [HF.out] <;> (first | rfl | exact (decide_eq_true (by have := HN.out; omega)).symm)), rfl⟩
          · have d1 : decide ((0 : Int) < (k : Int)) = true := decide_eq_true (by omega)
            have d2 : 0 < k := by omega
            clear hz
            go_wp2_with fail
            all_goals go_ret
            all_goals exact ⟨ret_bool (by rw [HF.out] <;> (first | rfl | exact (decide_eq_true (by have := HN.out; omega)).symm)), rfl⟩
    · have hpos : 0 < t.length + 1 := by omega
      go_enter Tryz.func51, Tryz.ntmps51
      go_wp2_with fail
      obtain ⟨n, hn⟩ : ∃ n, t.length = n := ⟨_, rfl⟩
      have HN := Lib.hid hn
      have hsU : U.size = n := by rw [hUs]; exact hn
      clear hn
      -- MARK1
      go_loop [3] (fun x => ∃ k : Nat, x = .int .i64 (k : Int) ∧ k ≤ n ∧ Hid (∀ (j : Nat) (c : UInt8), j < k → t[j]? = some c → digS.contains c = true)) (fun x => n - (intOf x).toNat)
      case atStart => exact ⟨0, rfl, Nat.zero_le _, Lib.hid (fun j c h => by omega)⟩
      case round =>
        obtain ⟨k, rfl, hk, HP⟩ := hrel
        have hk0 : (0 : Int) ≤ (k : Int) := Int.natCast_nonneg _
        by_cases hlt : k < n
        · obtain ⟨x, hx⟩ : ∃ x, t[k]? = some x := ⟨_, List.getElem?_eq_getElem (by rw [HN.out]; exact hlt)⟩
          have hku : k < U.size := by omega
          have hb : ((U[k]'hku).toNat : Int) = (x.toNat : Int) := HUb.out k x hx hku
          have hk1 : (k : Int) < (n : Int) := by omega
          have HX := Lib.hid hx
          clear hx
          by_cases hlo : x.toNat < 48
          · have HF : Hid (intB (c :: t) = false) := Lib.hid (HBad.out k x HX.out (by rw [dig_iff, decide_eq_false]; omega))
            have d1 : decide (((U[k]'hku).toNat : Int) < 48) = true := decide_eq_true (by omega)
            have d2 : (U[k]'hku).toNat < 48 := by omega
            clear hb hlo
            go_wp2_with fail
            all_goals go_ret
            all_goals exact ⟨ret_bool (by rw [HF.out] <;> (first | rfl | exact (decide_eq_true (by have := HN.out; omega)).symm)), rfl⟩
          · by_cases hhi : 57 < x.toNat
            · have HF : Hid (intB (c :: t) = false) := Lib.hid (HBad.out k x HX.out (by rw [dig_iff, decide_eq_false]; omega))
              have d1 : decide (((U[k]'hku).toNat : Int) < 48) = false := decide_eq_false (by omega)
              have d2 : ¬ (U[k]'hku).toNat < 48 := by omega
              have d3 : decide (57 < ((U[k]'hku).toNat : Int)) = true := decide_eq_true (by omega)
              have d4 : 57 < (U[k]'hku).toNat := by omega
              clear hb hhi hlo
              go_wp2_with fail
              all_goals go_ret
              all_goals exact ⟨ret_bool (by rw [HF.out] <;> (first | rfl | exact (decide_eq_true (by have := HN.out; omega)).symm)), rfl⟩
            · have HP2 : Hid (∀ (j : Nat) (c : UInt8), j < k + 1 → t[j]? = some c → digS.contains c = true) := Lib.hid fun j c hj hc => by
                by_cases e : j = k
                · subst e; rw [HX.out] at hc; cases hc; rw [dig_iff, decide_eq_true_iff]; omega
                · exact HP.out j c (by omega) hc
              have d1 : decide (((U[k]'hku).toNat : Int) < 48) = false := decide_eq_false (by omega)
              have d2 : ¬ (U[k]'hku).toNat < 48 := by omega
              have d3 : decide (57 < ((U[k]'hku).toNat : Int)) = false := decide_eq_false (by omega)
              have d4 : ¬ 57 < (U[k]'hku).toNat := by omega
              clear hb hhi hlo
              go_wp2_with fail
              all_goals go_round
              case rel => exact ⟨k + 1, by go_num, by omega, HP2⟩
              case measure => simp [intOf]; omega
        · obtain rfl : k = n := by omega
          have HF := Lib.hid (HGood.out (fun j c hc => HP.out j c (by rw [← HN.out]; exact (List.getElem?_eq_some_iff.1 hc).1) hc))
          by_cases hz : k = 0
          · have d1 : decide ((0 : Int) < (k : Int)) = false := decide_eq_false (by omega)
            have d2 : ¬ 0 < k := by omega
            clear hz
            go_wp2_with fail
            all_goals go_ret
            all_goals exact ⟨ret_bool (by rw [HF.out] <;> (first | rfl | exact (decide_eq_true (by have := HN.out; omega)).symm)), rfl⟩
          · have d1 : decide ((0 : Int) < (k : Int)) = true := decide_eq_true (by omega)
            have d2 : 0 < k := by omega
            clear hz
            go_wp2_with fail
            all_goals go_ret
            all_goals exact ⟨ret_bool (by rw [HF.out] <;> (first | rfl | exact (decide_eq_true (by have := HN.out; omega)).symm)), rfl⟩
  · have HV : Hid (intB (c :: t) = (c :: t).all (digS.contains ·)) := Lib.hid (by rw [int_cons, if_neg hc])
    have e1 : (((S[0]'h0).toNat : Int) == 43) = false := by
      rw [hb0, beq_eq_false_iff_ne]; intro e; exact hc (.inl (UInt8.toNat_inj.1 (by show c.toNat = 43; omega)))
    have e2 : (((S[0]'h0).toNat : Int) == 45) = false := by
      rw [hb0, beq_eq_false_iff_ne]; intro e; exact hc (.inr (UInt8.toNat_inj.1 (by show c.toNat = 45; omega)))
    have HBad : Hid (∀ (k : Nat) (x : UInt8), (c :: t)[k]? = some x → digS.contains x = false → intB (c :: t) = false) := Lib.hid fun k x h1 h2 => by rw [HV.out, all_no h1 h2]
    have HGood : Hid ((∀ (j : Nat) (x : UInt8), (c :: t)[j]? = some x → digS.contains x = true) → intB (c :: t) = decide (0 < (c :: t).length)) := Lib.hid fun h => by
      rw [HV.out, all_iff.2 h]; rfl
    have hUb := fun k x hx hk => str_bt hS k x hx hk
    have HUb := Lib.hid hUb
    obtain ⟨L, hL⟩ : ∃ L, c :: t = L := ⟨_, rfl⟩
    have hSz : S.size = L.length := by rw [← hL, hsz]; rfl
    have hpos : 0 < L.length := by rw [← hL]; simp
    rw [hS]
    rw [hL] at HBad HGood HUb ⊢
    have hlL : L.length ≤ 1000 := by rw [← hL]; exact hl
    clear hb0 hc hS HV hl hUb hx1 hsz hL hlt1
    go_enter Tryz.func51, Tryz.ntmps51
    go_wp2_with fail
    obtain ⟨n, hn⟩ : ∃ n, L.length = n := ⟨_, rfl⟩
    have HN := Lib.hid hn
    have hsU : S.size = n := by rw [hSz]; exact hn
    clear hn
    -- MARK3
    go_loop [3] (fun x => ∃ k : Nat, x = .int .i64 (k : Int) ∧ k ≤ n ∧ Hid (∀ (j : Nat) (c : UInt8), j < k → L[j]? = some c → digS.contains c = true)) (fun x => n - (intOf x).toNat)
    case atStart => exact ⟨0, rfl, Nat.zero_le _, Lib.hid (fun j c h => by omega)⟩
    case round =>
      obtain ⟨k, rfl, hk, HP⟩ := hrel
      have hk0 : (0 : Int) ≤ (k : Int) := Int.natCast_nonneg _
      by_cases hlt : k < n
      · obtain ⟨x, hx⟩ : ∃ x, L[k]? = some x := ⟨_, List.getElem?_eq_getElem (by rw [HN.out]; exact hlt)⟩
        have hku : k < S.size := by omega
        have hb : ((S[k]'hku).toNat : Int) = (x.toNat : Int) := HUb.out k x hx hku
        have hk1 : (k : Int) < (n : Int) := by omega
        have HX := Lib.hid hx
        clear hx
        by_cases hlo : x.toNat < 48
        · have HF : Hid (intB L = false) := Lib.hid (HBad.out k x HX.out (by rw [dig_iff, decide_eq_false]; omega))
          have d1 : decide (((S[k]'hku).toNat : Int) < 48) = true := decide_eq_true (by omega)
          have d2 : (S[k]'hku).toNat < 48 := by omega
          clear hb hlo
          go_wp2_with fail
          all_goals go_ret
          all_goals exact ⟨ret_bool (by rw [HF.out] <;> (first | rfl | exact (decide_eq_true (by have := HN.out; omega)).symm)), rfl⟩
        · by_cases hhi : 57 < x.toNat
          · have HF : Hid (intB L = false) := Lib.hid (HBad.out k x HX.out (by rw [dig_iff, decide_eq_false]; omega))
            have d1 : decide (((S[k]'hku).toNat : Int) < 48) = false := decide_eq_false (by omega)
            have d2 : ¬ (S[k]'hku).toNat < 48 := by omega
            have d3 : decide (57 < ((S[k]'hku).toNat : Int)) = true := decide_eq_true (by omega)
            have d4 : 57 < (S[k]'hku).toNat := by omega
            clear hb hhi hlo
            go_wp2_with fail
            all_goals go_ret
            all_goals exact ⟨ret_bool (by rw [HF.out] <;> (first | rfl | exact (decide_eq_true (by have := HN.out; omega)).symm)), rfl⟩
          · have HP2 : Hid (∀ (j : Nat) (c : UInt8), j < k + 1 → L[j]? = some c → digS.contains c = true) := Lib.hid fun j c hj hc => by
              by_cases e : j = k
              · subst e; rw [HX.out] at hc; cases hc; rw [dig_iff, decide_eq_true_iff]; omega
              · exact HP.out j c (by omega) hc
            have d1 : decide (((S[k]'hku).toNat : Int) < 48) = false := decide_eq_false (by omega)
            have d2 : ¬ (S[k]'hku).toNat < 48 := by omega
            have d3 : decide (57 < ((S[k]'hku).toNat : Int)) = false := decide_eq_false (by omega)
            have d4 : ¬ 57 < (S[k]'hku).toNat := by omega
            clear hb hhi hlo
            go_wp2_with fail
            all_goals go_round
            case rel => exact ⟨k + 1, by go_num, by omega, HP2⟩
            case measure => simp [intOf]; omega
      · obtain rfl : k = n := by omega
        have HF := Lib.hid (HGood.out (fun j c hc => HP.out j c (by rw [← HN.out]; exact (List.getElem?_eq_some_iff.1 hc).1) hc))
        by_cases hz : k = 0
        · have d1 : decide ((0 : Int) < (k : Int)) = false := decide_eq_false (by omega)
          have d2 : ¬ 0 < k := by omega
          clear hz
          go_wp2_with fail
          all_goals go_ret
          all_goals exact ⟨ret_bool (by rw [HF.out] <;> (first | rfl | exact (decide_eq_true (by have := HN.out; omega)).symm)), rfl⟩
        · have d1 : decide ((0 : Int) < (k : Int)) = true := decide_eq_true (by omega)
          have d2 : 0 < k := by omega
          clear hz
          go_wp2_with fail
          all_goals go_ret
          all_goals exact ⟨ret_bool (by rw [HF.out] <;> (first | rfl | exact (decide_eq_true (by have := HN.out; omega)).symm)), rfl⟩

theorem rints_any (v : Value) (l : List UInt8) (w : World) (h : ArgAt w v (l.map bc)) (hl : l.length ≤ 1000000) : Calls Tryz.prog 52 #[v] w (RnV l w) := rrunes_any v l w h hl
theorem rint_all (s : List UInt8) (w : World) (hl : s.length ≤ 1000) : Calls Tryz.prog 51 #[.string (str s)] w fun e w' => e = .returned (.bool (intB s)) ∧ w = w' := by
  cases s with
  | nil => exact rinteger_nil w
  | cons c t => exact rinteger_any c t w hl

set_option maxRecDepth 50000 in
set_option maxHeartbeats 1600000 in
theorem rsymbol_len (s : List UInt8) (w : World) (h : s.length < 1 ∨ 24 < s.length) : Calls Tryz.prog 43 #[.string (str s)] w fun e w' => e = .returned (.bool (symS s)) ∧ Below w.heap.size w w' := by
  have HV : Hid (symS s = false) := Lib.hid (by rcases h with h | h; exact sym_short h; exact sym_long h)
  obtain ⟨S, hS⟩ : ∃ S, str s = S := ⟨_, rfl⟩
  have hz : S.size = s.length := by rw [← hS, str_size]
  rw [hS]
  clear hS
  obtain ⟨n, hn⟩ : ∃ n, s.length = n := ⟨_, rfl⟩
  rw [hn] at hz h
  clear hn
  rcases h with h | h
  · have e0 : decide ((n : Int) < 1) = true := decide_eq_true (by omega)
    obtain rfl : n = 0 := by omega
    clear h
    go_enter Tryz.func43, Tryz.ntmps43
    go_wp2_with fail
    go_ret
    exact ⟨ret_bool (by rw [HV.out]), Below.refl _ _⟩
  · have e0 : decide ((n : Int) < 1) = false := decide_eq_false (by omega)
    have e1 : decide ((24 : Int) < (n : Int)) = true := decide_eq_true (by omega)
    go_enter Tryz.func43, Tryz.ntmps43
    go_wp2_with fail
    go_ret
    exact ⟨ret_bool (by rw [HV.out]), Below.refl _ _⟩

set_option maxRecDepth 50000 in
set_option maxHeartbeats 3200000 in
theorem rsymbol_any (s : List UInt8) (w : World) : Calls Tryz.prog 43 #[.string (str s)] w fun e w' => e = .returned (.bool (symS s)) ∧ Below w.heap.size w w' := by
  by_cases h : s.length < 1 ∨ 24 < s.length
  · exact rsymbol_len s w h
  obtain ⟨cap, W1, hcv, hb1, hcap, hlt1, hcells⟩ := conv_bytes s w
  have CR := Lib.hid (rrunes_any (.slice (some ⟨w.heap.size, 0, none⟩) s.length cap) s W1 ⟨_, _, _, rfl, by rw [List.length_map], hcap, .inr ⟨⟨w.heap.size, 0, none⟩, cap, rfl, fun j u hj => by rw [Go.WideShapes.add_plain, Nat.zero_add]; exact hcells j u hj⟩⟩ (by omega))
  have CI := Lib.hid (rint_all s w (by omega))
  have HSE := Lib.hid (fun h3 => sym_else (s := s) (by omega) (by omega) h3)
  have HBad := Lib.hid (fun h3 => sym_bad (s := s) h3)
  have HInt := Lib.hid (fun h3 => sym_int (s := s) h3)
  have HR : Hid (∀ r, r ∈ (runs s).1 → symC r = false → symS s = false) := Lib.hid (fun r h1 h2 => sym_rune h1 h2)
  have HRS : Hid (runesS s = if (chkS s).2 = 0 then ((runs s).1, 0) else ([], (chkS s).2)) := Lib.hid rfl
  obtain ⟨n, hn⟩ : ∃ n, s.length = n := ⟨_, rfl⟩
  have hz : (str s).size = n := by rw [str_size, hn]
  rw [hn] at h hcv CR
  have e0 : decide ((n : Int) < 1) = false := decide_eq_false (by omega)
  have e1 : decide ((24 : Int) < (n : Int)) = false := decide_eq_false (by omega)
  have e2 : ¬ n = 0 := by omega
  obtain ⟨S, hS⟩ : ∃ S, str s = S := ⟨_, rfl⟩
  rw [hS] at hz hcv CI
  rw [hS]
  obtain ⟨bi, hbi⟩ : ∃ bi, intB s = bi := ⟨_, rfl⟩
  rw [hbi] at CI
  have HBI := Lib.hid hbi
  clear hcap hlt1 hcells h hn hS hbi
  cases bi with
  | true =>
    have HF := Lib.hid (HInt.out HBI.out)
    clear hcv
    go_enter Tryz.func43, Tryz.ntmps43
    go_wp2_with (go_at_call 51; refine CI.out.mono ?_; rintro e w' ⟨rfl, rfl⟩)
    -- MARK4
    go_ret
    exact ⟨ret_bool (by rw [HF.out]), Below.refl _ _⟩
  | false =>
    go_enter Tryz.func43, Tryz.ntmps43
    go_wp2_with (go_at_call 51; refine CI.out.mono ?_; rintro e w' ⟨rfl, rfl⟩)
    -- MARK5
    refine CR.out.mono ?_
    rintro e w2 ⟨v, rfl, hown, hb2⟩
    have hB2 : Below w.heap.size w w2 := hb1.trans (hb2.mono hb1.size)
    by_cases hc : (chkS s).2 = 0
    · have hrs : runesS s = ((runs s).1, 0) := by rw [HRS.out, if_pos hc]
      rw [hrs] at hown ⊢
      obtain ⟨L, hL⟩ : ∃ L, (runs s).1 = L := ⟨_, rfl⟩
      have HL := Lib.hid hL
      have HV := Lib.hid (HSE.out hc)
      simp only [hL] at hown ⊢
      obtain ⟨m, hm⟩ : ∃ m, L.length = m := ⟨_, rfl⟩
      have HM := Lib.hid hm
      rw [hm] at hown
      obtain ⟨a, cc, rfl⟩ := own_lenR hown
      have hmx : m ≤ 9223372036854775807 := by have := own_capR hown; unfold maxLen at this; omega
      have HO := Lib.hid hown
      clear hrs hL hm hown hcv e0 e1 e2 hc HBad CR
      go_wp2_with fail
      -- MARK6
      go_loop [5] (fun x => ∃ k : Nat, x = .int .i64 (k : Int) ∧ k ≤ m ∧ Hid ((L.take k).all symC = true)) (fun x => m - (intOf x).toNat)
      case atStart => exact ⟨0, rfl, Nat.zero_le _, Lib.hid rfl⟩
      case round =>
        obtain ⟨k, rfl, hk, HA⟩ := hrel
        by_cases hlt : k < m
        · obtain ⟨r, hr⟩ : ∃ r, L[k]? = some r := ⟨_, List.getElem?_eq_getElem (by rw [HM.out]; exact hlt)⟩
          rcases own_formR HO.out with ⟨_, h00⟩ | ⟨gs, cs, hv, hgs, hgs2⟩
          · omega
          obtain ⟨rfl, _, rfl⟩ := Value.slice.inj hv
          clear hv
          have d0 : w2.cell? ⟨gs, k, none⟩ = some (.int .i32 r) := own_cell HO.out (by rw [List.getElem?_map, hr]; rfl)
          have C := rclass_any r w2
          unfold clsV at C
          obtain ⟨c, hcE⟩ : ∃ c, clsS r = c := ⟨_, rfl⟩
          obtain ⟨x, hx⟩ : ∃ x : Int, (if isR r then (0 : Int) else 7) = x := ⟨_, rfl⟩
          rw [hcE, hx] at C
          have HCC := Lib.hid C
          have hk0 : (0 : Int) ≤ (k : Int) := Int.natCast_nonneg _
          have hk1 : (k : Int) < (m : Int) := by omega
          have hsc : symC r = (c == 9 || c == 7 || c == 8) := by unfold symC; rw [hcE]
          have HX := Lib.hid hr
          clear C hcE hx hr
          by_cases hsy : c = 9 ∨ c = 7 ∨ c = 8
          · have HA2 : Hid ((L.take (k + 1)).all symC = true) := Lib.hid (all_take HA.out HX.out (by rw [hsc]; rcases hsy with rfl | rfl | rfl <;> rfl))
            clear hsc
            rcases hsy with rfl | rfl | rfl <;> (
              go_wp2_with (go_at_call 53; refine HCC.out.mono ?_; rintro e w3 ⟨rfl, rfl⟩)
              go_round
              case rel => exact ⟨k + 1, by go_num, by omega, HA2⟩
              case measure => simp [intOf]; omega)
          · have g9 : (c != 9) = true := bne_iff_ne.2 (by omega)
            have g7 : (c != 7) = true := bne_iff_ne.2 (by omega)
            have g8 : (c != 8) = true := bne_iff_ne.2 (by omega)
            have hsf : symC r = false := by
              rw [hsc, beq_eq_false_iff_ne.2 (show c ≠ 9 by omega), beq_eq_false_iff_ne.2 (show c ≠ 7 by omega), beq_eq_false_iff_ne.2 (show c ≠ 8 by omega)]; rfl
            have HF := Lib.hid (HR.out r (by rw [HL.out]; exact List.mem_of_getElem? HX.out) hsf)
            clear hsc hsf hsy
            go_wp2_with (go_at_call 53; refine HCC.out.mono ?_; rintro e w3 ⟨rfl, rfl⟩)
            go_ret
            exact ⟨ret_bool (by rw [HF.out]), hB2⟩
        · obtain rfl : k = m := by omega
          have HF : Hid (symS s = true) := Lib.hid (by
            have h1 := HA.out
            rw [List.take_of_length_le (Nat.le_of_eq HM.out)] at h1
            rw [HV.out, HL.out, h1, HBI.out]; rfl)
          go_wp2_with fail
          go_ret
          exact ⟨ret_bool (by rw [HF.out]), hB2⟩
    · have hrs : runesS s = ([], (chkS s).2) := by rw [HRS.out, if_neg hc]
      have HF := Lib.hid (HBad.out hc)
      have hne : ((chkS s).2 != 0) = true := bne_iff_ne.2 hc
      rw [hrs] at hown ⊢
      clear hrs hown hcv e0 e1 e2 hc
      go_wp2_with fail
      go_ret
      exact ⟨ret_bool (by rw [HF.out]), hB2⟩

theorem rsymAll (w : World) : SymAll 43 symS w := fun s W _ => rsymbol_any s W
end Go.Proofs.YtdiinlmeoifgjaaGreatDoor
