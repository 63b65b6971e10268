/- The reference's ParseList: the runs. -/
import Derived.Test.YtchnmbfeaaialaaGreatDoorPlF
namespace Go.Proofs.YtchnmbfeaaialaaGreatDoor
open Go.RowKit Go.PlainAid

theorem decL_no {a : List UInt8} (h : (45 : UInt8) ∉ a) : decL a = natL a := by
  cases a with
  | nil => rfl
  | cons x t =>
    have hx : ¬ x = 45 := fun e => h (by rw [e]; exact List.mem_cons_self ..)
    unfold decL; split <;> simp_all
theorem grow_by {B n m g : Nat} {e : TypeId} {w wr w3 : World} {u v : Value} {xs ys : List Value} (o : Obj) (hb : Below B w wr) (hB : B ≤ wr.heap.size) (U : wr.ownsRow B e 1 u n xs) (V : wr.ownsRow B e 1 v m ys)
    (D : ∀ x, u.ownBlock = some x → v.ownBlock = some x → False) (hg : (wr.alloc o).grownBy w3 u.ownBlock) (ha : u.ownBlock = some g ∨ g = wr.heap.size + 1) :
    w3.ownsRow B e 1 v m ys ∧ (∀ x, some g = some x → v.ownBlock = some x → False) ∧ Below B w w3 := by
  refine ⟨(V.alloc o).kept hg ?_, fun x hx hv => ?_, (hb.alloc hB o).grown hg (by simp only [World.size_alloc]; omega) (fun j hj => (U.lt j hj).1)⟩
  · cases h : v.ownBlock with
    | none => exact .inl rfl
    | some x => exact .inr fun e1 => D x e1.symm h
  · obtain rfl := Option.some.inj hx
    rcases ha with ha | ha
    · exact D g ha hv
    · have := (V.lt g hv).2; omega
theorem lastV_appW (pre : List Rn) (x : Rn) : lastVW (pre ++ [x]) = x.2 := by unfold lastVW; simp
theorem str_nilP : str [] = ByteArray.empty := rfl
/-- What the first loop leaves: the firsts and the lasts of the runs. -/
theorem last_beh {pre : List Rn} {k : Nat} (hp : pre.length = k + 1) (t : List UInt8) : behV (pre.getLast?.map (·.2)) t = lessL (succL (lastVW pre)) t := by
  unfold lastVW
  cases h : pre.getLast? with
  | none => rw [List.getLast?_eq_none_iff] at h; rw [h] at hp; cases hp
  | some r => rfl
theorem stc1 (x : List UInt8) : stc [x] = [.string (str x)] := rfl

set_option maxRecDepth 100000 in
set_option maxHeartbeats 12800000 in
theorem rparse_any (T : List UInt8) (w : World) (hT : T.length ≤ 50000) : Calls Tryz.prog 19 #[.string (str T)] w (PlOut T w) := by
  have hst : ((str T).toList == [45]) = decide (T = [45]) := by
    rw [ByteArray.toList_eq, str_list, Bool.eq_iff_iff, beq_iff_eq, decide_eq_true_iff]
  by_cases hd : T = [45]
  · rw [decide_eq_true hd] at hst
    have HV : Hid (parseV T = ([], 0)) := Lib.hid (by rw [hd]; rfl)
    obtain ⟨S, hS⟩ : ∃ S, str T = S := ⟨_, rfl⟩
    rw [hS] at hst ⊢
    clear hd hS
    go_enter Tryz.func19, Tryz.ntmps19
    go_wp2_with fail
    go_returns
    exact ⟨_, by rw [HV.out]; rfl, by rw [HV.out]; exact .inl ⟨rfl, rfl⟩, Below.refl _ _⟩
  rw [decide_eq_false hd] at hst
  have HD : Hid (T ≠ [45]) := Lib.hid hd
  have CP : Hid (∀ (s : List UInt8) (c : UInt8) (cv : Int) W, cv = (c.toNat : Int) → s.length ≤ 50000 → Calls Tryz.prog 42 #[.string (str s), .int .u8 cv] W fun e w' => ∃ v, e = .returned v ∧ StrsAt w' v (cutF c [] s) ∧ Below W.heap.size W w') := Lib.hid fun s c cv W hcv hs => by
    have h := parts_any (str s) c cv hcv W (by rw [str_size]; omega)
    rw [str_list] at h; exact h
  have CN : Hid (∀ (a : List UInt8) W, a.length ≤ 50000 → (45 : UInt8) ∉ a → Calls Tryz.prog 43 #[.string (str a)] W fun e w' => e = .returned (.bool (natL a)) ∧ w' = W) := Lib.hid fun a W ha h45 => by
    have h := decimal_any (str a) W (by rw [str_size]; unfold maxLen; omega)
    rw [decB_list, str_list, decL_no h45] at h
    exact h.mono fun e w' ⟨h1, h2⟩ => ⟨h1, h2.symm⟩
  have CL : Hid (∀ (a b : List UInt8) W, Calls Tryz.prog 44 #[.string (str a), .string (str b)] W fun e w' => e = .returned (.bool (lessL a b)) ∧ w' = W) := Lib.hid fun a b W => less_any a b W
  have CX : Hid (∀ (x : List UInt8) W, x.length ≤ 50000 → Calls Tryz.prog 45 #[.string (str x)] W fun e w' => e = .returned (.string (str (succL x))) ∧ Below W.heap.size W w') := Lib.hid fun x W hx => next_any x W (by omega)
  have CD : Hid (∀ W, Calls Tryz.prog 37 #[.int .i64 1000000000] W fun e w' => e = .returned (.string (str (Lib.itoa 1000000000))) ∧ Below W.heap.size W w') := Lib.hid fun W => rdigits_any _ 1000000000 W (Nat.le_refl _) ⟨by omega, by omega⟩
  have CI : Hid (∀ (x : List UInt8) W, x.length ≤ 50000 → Calls Tryz.prog 46 #[.string (str x), .int .i64 0, .int .i64 1000000000] W fun e w' => (∃ c, e = .returned (.tuple #[.int .i64 (numV x), .int .i64 c])) ∧ Below W.heap.size W w') := Lib.hid fun x W hx => by
    refine (rint_any (str x) 0 1000000000 W (by rw [str_size]; omega)).mono ?_
    rintro e w' ⟨h1, h2⟩
    rw [str_list] at h1
    exact ⟨⟨_, h1⟩, h2⟩
  have CPT := Lib.hid (CP.out T 44 44 w rfl hT)
  obtain ⟨L, hL⟩ : ∃ L, cutF 44 [] T = L := ⟨_, rfl⟩
  have HLM : Hid (∀ x ∈ L, x.length ≤ 50000) := Lib.hid fun x hx => by rw [← hL] at hx; have := cutF_mem hx; simp at this; omega
  have hLn : L.length ≤ 60000 ∧ 1 ≤ L.length := by rw [← hL]; have := (cutF_len (c := 44) (l := T) (cur := [])); omega
  have HPF := Lib.hid (fun h => parse_form (T := T) hd (hL ▸ h))
  have HPR := Lib.hid (fun rs h => parse_range (T := T) (rs := rs) hd (hL ▸ h))
  have HPL := Lib.hid (fun rs h => parse_long (T := T) (rs := rs) hd (hL ▸ h))
  have HPG := Lib.hid (fun rs l h => parse_good (T := T) (rs := rs) (l := l) hd (hL ▸ h))
  rw [hL] at CPT
  obtain ⟨n, hn⟩ : ∃ n, L.length = n := ⟨_, rfl⟩
  rw [hn] at hLn
  have HN := Lib.hid hn
  obtain ⟨i0, hi, hj0, hj1, hj2⟩ := info_partsP infoStrP
  obtain ⟨S, hS⟩ : ∃ S, str T = S := ⟨_, rfl⟩
  rw [hS] at hst CPT ⊢
  clear hL hd hS hT
  go_enter Tryz.func19, Tryz.ntmps19
  go_wp2_with fail
  refine CPT.out.mono ?_
  rintro e w1 ⟨v, rfl, hst1, hb1⟩
  rcases hst1 with ⟨_, hnil⟩ | ⟨G, O, cc, rfl, hG, hcells⟩
  · rw [hnil] at hn; simp at hn; omega
  rw [hn]
  have HC := Lib.hid hcells
  clear hcells hn
  go_wp2_with fail
  -- MARK1
  go_loopw [4, 5, 6, 8] (fun x4 x5 x6 x8 wr => ∃ (k : Nat) (pre : List Rn), x8 = .int .i64 k ∧ k ≤ n ∧ x4 = .string (str (lastVW pre)) ∧ Hid (pre.length = k) ∧ Hid (RunsAt L pre (L.drop k)) ∧ Hid (∀ r ∈ pre, r.1.length ≤ 50000 ∧ r.2.length ≤ 50000) ∧ (lastVW pre).length ≤ 50000 ∧ Hid (wr.ownsRow w1.heap.size 9 1 x5 k (stc (pre.map (·.1)))) ∧ Hid (wr.ownsRow w1.heap.size 9 1 x6 k (stc (pre.map (·.2)))) ∧ Hid (∀ x, x5.ownBlock = some x → x6.ownBlock = some x → False) ∧ Below w1.heap.size w1 wr) (fun _ _ _ x8 _ => n - (intOf x8).toNat)
  case atStart => exact ⟨0, [], rfl, Nat.zero_le _, rfl, Lib.hid rfl, Lib.hid (runsAt_start L), Lib.hid (fun r h => by cases h), Nat.zero_le _, Lib.hid ⟨rfl, .inl ⟨rfl, rfl⟩⟩, Lib.hid ⟨rfl, .inl ⟨rfl, rfl⟩⟩, Lib.hid (fun x h => by cases h), Below.refl _ _⟩
  case round =>
    obtain ⟨k, pre, rfl, hk, rfl, HP, HR, HPM, hql, HF, HS, HA, hB⟩ := hrel
    obtain ⟨q, hq⟩ : ∃ q, lastVW pre = q := ⟨_, rfl⟩
    rw [hq] at hql ⊢
    have HQ := Lib.hid hq
    clear hq
    obtain ⟨fa, fc, rfl⟩ := own_lenP HF.out
    obtain ⟨sa, sc, rfl⟩ := own_lenP HS.out
    by_cases hlt : k < n
    · obtain ⟨x, hx⟩ : ∃ x, L[k]? = some x := ⟨_, List.getElem?_eq_getElem (by rw [HN.out]; exact hlt)⟩
      have hdr : L.drop k = x :: L.drop (k + 1) := by
        have h1 : k < L.length := by rw [HN.out]; exact hlt
        rw [List.drop_eq_getElem_cons h1]; rw [List.getElem?_eq_getElem h1] at hx; rw [Option.some.inj hx]
      have HR2 := HR.out
      rw [hdr] at HR2
      have HRX := Lib.hid HR2
      have hxl := HLM.out x (List.mem_of_getElem? hx)
      have hcx : wr.cell? ⟨G, O + k, none⟩ = some (.string (str x)) := (hB.cell (p := ⟨G, O + k, none⟩) hG).trans (HC.out _ _ (stc_at hx))
      have CPx := Lib.hid (CP.out x 45 45 wr rfl hxl)
      clear HR HR2 hdr hx
      go_wp2_with fail
      refine CPx.out.mono ?_
      rintro e w2 ⟨v9, rfl, hst9, hb2⟩
      have hB2 := hB.trans (hb2.mono hB.size)
      have HF2 := Lib.hid (own_below HF.out hb2)
      have HS2 := Lib.hid (own_below HS.out hb2)
      have hE45 : ∀ y ∈ cutF 45 [] x, (45 : UInt8) ∉ y ∧ y.length ≤ 50000 := fun y hy => ⟨cutF_nomem (by simp) hy, by have := cutF_mem hy; simp at this; omega⟩
      have hEl := (cutF_len (c := 45) (l := x) (cur := []))
      rcases hst9 with ⟨_, hnil⟩ | ⟨g9, o9, c9, rfl, hg9, hc9⟩
      · rw [hnil] at hEl; simp at hEl
      clear CPx hcx HF HS
      rcases hE : cutF 45 [] x with _ | ⟨a, _ | ⟨b, _ | ⟨c, E⟩⟩⟩
      · rw [hE] at hEl; simp at hEl
      · -- one number
        rw [hE] at hc9 hE45
        have h45a := (hE45 a (by simp)).1
        have hla := (hE45 a (by simp)).2
        have d0 : w2.cell? ⟨g9, o9, none⟩ = some (.string (str a)) := hc9 0 _ rfl
        have hRV : runV x = if natL a then some (a, a) else none := by unfold runV; rw [hE]
        clear hc9 hE45 hEl hE
        cases hna : natL a with
        | false =>
          rw [hna] at hRV
          have hVx : runV x = none := hRV
          clear hRV
          have HX : Hid (parseV T = ([], 6)) := Lib.hid (HPF.out (runsAt_bad HRX.out (.inl hVx)))
          go_wp2_with fail
          go_quiet ((first | (go_at_call 43; exact Calls.quiet_of_same (CN.out _ _ (by assumption) (by assumption))) | (go_at_call 44; exact Calls.quiet_of_same (CL.out _ _ _))))
          go_wp2_with fail
          go_returns
          exact ⟨_, by rw [HX.out]; rfl, by rw [HX.out]; exact .inl ⟨rfl, rfl⟩, hb1.trans ((hB2.trans ((below_drewN w2 _).mono hB2.size)).mono hb1.size)⟩
        | true =>
          rw [hna] at hRV
          have hVx : runV x = some (a, a) := hRV
          clear hRV
          go_wp2_with fail
          go_quiet ((first | (go_at_call 43; exact Calls.quiet_of_same (CN.out _ _ (by assumption) (by assumption))) | (go_at_call 44; exact Calls.quiet_of_same (CL.out _ _ _))))
          obtain ⟨w3, hw3⟩ : ∃ w3, w3 = w2.drewN nq := ⟨_, rfl⟩
          have hb23 : Below w2.heap.size w2 w3 := by rw [hw3]; exact below_drewN w2 _
          have hB3 := hB2.trans (hb23.mono hB2.size)
          have HF3 := Lib.hid (own_below HF2.out hb23)
          have HS3 := Lib.hid (own_below HS2.out hb23)
          have f0 : w3.cell? ⟨g9, o9, none⟩ = some (.string (str a)) := (hb23.cell (p := ⟨g9, o9, none⟩) hg9).trans d0
          have hg93 : g9 < w3.heap.size := Nat.lt_of_lt_of_le hg9 hb23.size
          rw [← hw3]
          clear hw3 HF2 HS2
          rcases Nat.eq_zero_or_pos k with hk0 | hkp
          · subst hk0
            have hpre : pre = [] := List.eq_nil_of_length_eq_zero HP.out
            have HR2 := Lib.hid (runsAt_step HRX.out hVx (by rw [hpre]; rfl))
            clear hVx hpre
            go_wp2_with fail
            go_quiet (fail)
            obtain ⟨w4, hw4⟩ : ∃ w4, w4 = w3.drewN nq := ⟨_, rfl⟩
            have hb34 : Below w3.heap.size w3 w4 := by rw [hw4]; exact below_drewN w3 _
            rw [← hw4]
            clear hw4
            have hB4 := hB3.trans (hb34.mono hB3.size)
            have HF4 := Lib.hid (own_below HF3.out hb34)
            have HS4 := Lib.hid (own_below HS3.out hb34)
            have g0 : w4.cell? ⟨g9, o9, none⟩ = some (.string (str a)) := (hb34.cell (p := ⟨g9, o9, none⟩) hg93).trans f0
            clear HF3 HS3 f0 hb34
            have hkk : 0 ≤ 60000 := by omega
            go_wp2_with (first
              | (at_builtin; refine wpList_append_lies _ rfl _ _ 46 rfl w1.heap.size 9 i0 (.string ⟨#[]⟩) 1 16 Tryz.underlying46 hi hj0 hj1 hj2 rfl (by decide) (.slice fa (0) fc) (0) _ rfl (HF4.out.alloc _) ⟨w4.heap.size, 0, none⟩ 1 1 [.string (str a)] rfl rfl (new_cells w4 [.string (str a)] _) (by simp [Value.oneCell']) (by omega) (by unfold maxLen; omega) (by omega) (by rw [World.size_alloc]; have := hB4.size; omega) (w4.heap.size + 1) (by simp) ?_; intro g5 cap5 w5 hown5 hgrow5 hat5 hlt5; obtain ⟨S5, D5, hB5⟩ := grow_by _ hB4 hB4.size HF4.out HS4.out HA.out hgrow5 hat5; have HF5 := Lib.hid hown5; have HS5 := Lib.hid S5; have HA5 : Hid (∀ x, some g5 = some x → (Value.slice sa (0) sc).ownBlock = some x → False) := Lib.hid D5; clear hown5 hgrow5 hat5 S5 D5 hlt5 g0)
              | (at_builtin; refine wpList_append_lies _ rfl _ _ 46 rfl w1.heap.size 9 i0 (.string ⟨#[]⟩) 1 16 Tryz.underlying46 hi hj0 hj1 hj2 rfl (by decide) (.slice sa (0) sc) (0) _ rfl (HS5.out.alloc _) ⟨w5.heap.size, 0, none⟩ 1 1 [.string (str a)] rfl rfl (new_cells w5 [.string (str a)] _) (by simp [Value.oneCell']) (by omega) (by unfold maxLen; omega) (by omega) (by rw [World.size_alloc]; have := hB5.size; omega) (w5.heap.size + 1) (by simp) ?_; intro g6 cap6 w6 hown6 hgrow6 hat6 hlt6; obtain ⟨S6, D6, hB6⟩ := grow_by _ hB5 hB5.size HS5.out HF5.out (fun x h1 h2 => HA5.out x h2 h1) hgrow6 hat6; have HS6 := Lib.hid hown6; have HF6 := Lib.hid S6; have HA6 := Lib.hid D6; clear hown6 hgrow6 hat6 S6 D6 hlt6))
            -- MARKT
            refine ⟨⟨0 + 1, pre ++ [(a, a)], by go_num, by omega, by rw [lastV_appW], Lib.hid (by rw [List.length_append, HP.out]; rfl), HR2, Lib.hid ?_, by rw [lastV_appW]; exact hla, Lib.hid ?_, Lib.hid ?_, Lib.hid (fun x h1 h2 => HA6.out x h2 h1), hB6⟩, by simp [intOf]; omega⟩
            · intro r hr
              rcases List.mem_append.1 hr with h | h
              · exact HPM.out r h
              · rw [List.mem_singleton.1 h]; exact ⟨hla, hla⟩
            · rw [List.map_append, stc_app]; exact HF6.out
            · rw [List.map_append, stc_app]; exact HS6.out
          · obtain ⟨p, rfl⟩ : ∃ p, k = p + 1 := ⟨k - 1, by omega⟩
            have HBH := Lib.hid (last_beh HP.out)
            have hkp2 : decide ((0 : Int) < (p : Int) + 1) = true := decide_eq_true (by omega)
            cases hbeh : lessL (succL q) a with
            | false =>
              have HX : Hid (parseV T = ([], 6)) := Lib.hid (HPF.out (runsAt_bad HRX.out (.inr ⟨_, hVx, by rw [HBH.out, HQ.out]; exact hbeh⟩)))
              clear hVx
              go_wp2_with fail
              go_region_held3 (fun w' => w'.cell? ⟨g9, o9, none⟩ = some (.string (str a))) (go_keep)
                (first
                  | (go_at_call 45; refine (CX.out q _ hql).mono ?_; rintro e w4 ⟨rfl, hb4⟩; have e0 : w4.cell? ⟨g9, o9, none⟩ = some (.string (str a)) := (hb4.cell (p := ⟨g9, o9, none⟩) hg93).trans f0)
                  | (go_at_call 44; refine (CL.out _ _ _).mono ?_; rintro e w6 ⟨rfl, hw6⟩; have hw7 := hw6.symm; subst hw7))
              all_goals
                have hb34 : Below w3.heap.size w3 w4 := ⟨hb4.os, hb4.tape, hb4.output, hb4.size, hb4.block⟩
                go_wp2_with fail
                go_returns
                exact ⟨_, by rw [HX.out]; rfl, by rw [HX.out]; exact .inl ⟨rfl, rfl⟩, hb1.trans ((hB3.trans (hb34.mono hB3.size)).mono hb1.size)⟩
            | true =>
              have HR2 := Lib.hid (runsAt_step HRX.out hVx (by rw [HBH.out, HQ.out]; exact hbeh))
              clear hVx
              go_wp2_with fail
              go_region_held3 (fun w' => w'.cell? ⟨g9, o9, none⟩ = some (.string (str a))) (go_keep)
                (first
                  | (go_at_call 45; refine (CX.out q _ hql).mono ?_; rintro e w4 ⟨rfl, hb4⟩; have e0 : w4.cell? ⟨g9, o9, none⟩ = some (.string (str a)) := (hb4.cell (p := ⟨g9, o9, none⟩) hg93).trans f0)
                  | (go_at_call 44; refine (CL.out _ _ _).mono ?_; rintro e w6 ⟨rfl, hw6⟩; have hw7 := hw6.symm; subst hw7))
              all_goals
                have hb34 : Below w3.heap.size w3 w4 := ⟨hb4.os, hb4.tape, hb4.output, hb4.size, hb4.block⟩
                clear hb4 e0
                have hB4 := hB3.trans (hb34.mono hB3.size)
                have HF4 := Lib.hid (own_below HF3.out hb34)
                have HS4 := Lib.hid (own_below HS3.out hb34)
                have g0 : w4.cell? ⟨g9, o9, none⟩ = some (.string (str a)) := (hb34.cell (p := ⟨g9, o9, none⟩) hg93).trans f0
                clear HF3 HS3 f0 hb34
                have hkk : p + 1 ≤ 60000 := by omega
                go_wp2_with (first
                  | (at_builtin; refine wpList_append_lies _ rfl _ _ 46 rfl w1.heap.size 9 i0 (.string ⟨#[]⟩) 1 16 Tryz.underlying46 hi hj0 hj1 hj2 rfl (by decide) (.slice fa (p + 1) fc) (p + 1) _ rfl (HF4.out.alloc _) ⟨w4.heap.size, 0, none⟩ 1 1 [.string (str a)] rfl rfl (new_cells w4 [.string (str a)] _) (by simp [Value.oneCell']) (by omega) (by unfold maxLen; omega) (by omega) (by rw [World.size_alloc]; have := hB4.size; omega) (w4.heap.size + 1) (by simp) ?_; intro g5 cap5 w5 hown5 hgrow5 hat5 hlt5; obtain ⟨S5, D5, hB5⟩ := grow_by _ hB4 hB4.size HF4.out HS4.out HA.out hgrow5 hat5; have HF5 := Lib.hid hown5; have HS5 := Lib.hid S5; have HA5 : Hid (∀ x, some g5 = some x → (Value.slice sa (p + 1) sc).ownBlock = some x → False) := Lib.hid D5; clear hown5 hgrow5 hat5 S5 D5 hlt5 g0)
                  | (at_builtin; refine wpList_append_lies _ rfl _ _ 46 rfl w1.heap.size 9 i0 (.string ⟨#[]⟩) 1 16 Tryz.underlying46 hi hj0 hj1 hj2 rfl (by decide) (.slice sa (p + 1) sc) (p + 1) _ rfl (HS5.out.alloc _) ⟨w5.heap.size, 0, none⟩ 1 1 [.string (str a)] rfl rfl (new_cells w5 [.string (str a)] _) (by simp [Value.oneCell']) (by omega) (by unfold maxLen; omega) (by omega) (by rw [World.size_alloc]; have := hB5.size; omega) (w5.heap.size + 1) (by simp) ?_; intro g6 cap6 w6 hown6 hgrow6 hat6 hlt6; obtain ⟨S6, D6, hB6⟩ := grow_by _ hB5 hB5.size HS5.out HF5.out (fun x h1 h2 => HA5.out x h2 h1) hgrow6 hat6; have HS6 := Lib.hid hown6; have HF6 := Lib.hid S6; have HA6 := Lib.hid D6; clear hown6 hgrow6 hat6 S6 D6 hlt6))
                -- MARKT
                refine ⟨⟨p + 1 + 1, pre ++ [(a, a)], by go_num, by omega, by rw [lastV_appW], Lib.hid (by rw [List.length_append, HP.out]; rfl), HR2, Lib.hid ?_, by rw [lastV_appW]; exact hla, Lib.hid ?_, Lib.hid ?_, Lib.hid (fun x h1 h2 => HA6.out x h2 h1), hB6⟩, by simp [intOf]; omega⟩
                · intro r hr
                  rcases List.mem_append.1 hr with h | h
                  · exact HPM.out r h
                  · rw [List.mem_singleton.1 h]; exact ⟨hla, hla⟩
                · rw [List.map_append, stc_app]; exact HF6.out
                · rw [List.map_append, stc_app]; exact HS6.out
      · -- two numbers
        rw [hE] at hc9 hE45
        have h45a := (hE45 a (by simp)).1
        have hla := (hE45 a (by simp)).2
        have h45b := (hE45 b (by simp)).1
        have hlb := (hE45 b (by simp)).2
        have d0 : w2.cell? ⟨g9, o9, none⟩ = some (.string (str a)) := hc9 0 _ rfl
        have d1 : w2.cell? ⟨g9, o9 + 1, none⟩ = some (.string (str b)) := hc9 1 _ rfl
        have hRV : runV x = if natL a && natL b && lessL a b then some (a, b) else none := by unfold runV; rw [hE]
        clear hc9 hE45 hEl hE
        cases hna : natL a with
        | false =>
          have hVx : runV x = none := by rw [hRV, hna]; rfl
          clear hRV
          have HX : Hid (parseV T = ([], 6)) := Lib.hid (HPF.out (runsAt_bad HRX.out (.inl hVx)))
          go_wp2_with fail
          go_quiet ((first | (go_at_call 43; exact Calls.quiet_of_same (CN.out _ _ (by assumption) (by assumption))) | (go_at_call 44; exact Calls.quiet_of_same (CL.out _ _ _))))
          go_wp2_with fail
          go_returns
          exact ⟨_, by rw [HX.out]; rfl, by rw [HX.out]; exact .inl ⟨rfl, rfl⟩, hb1.trans ((hB2.trans ((below_drewN w2 _).mono hB2.size)).mono hb1.size)⟩
        | true =>
        cases hnb : natL b with
        | false =>
          have hVx : runV x = none := by rw [hRV, hna, hnb]; rfl
          clear hRV
          have HX : Hid (parseV T = ([], 6)) := Lib.hid (HPF.out (runsAt_bad HRX.out (.inl hVx)))
          go_wp2_with fail
          go_quiet ((first | (go_at_call 43; exact Calls.quiet_of_same (CN.out _ _ (by assumption) (by assumption))) | (go_at_call 44; exact Calls.quiet_of_same (CL.out _ _ _))))
          go_wp2_with fail
          go_returns
          exact ⟨_, by rw [HX.out]; rfl, by rw [HX.out]; exact .inl ⟨rfl, rfl⟩, hb1.trans ((hB2.trans ((below_drewN w2 _).mono hB2.size)).mono hb1.size)⟩
        | true =>
        cases hab : lessL a b with
        | false =>
          have hVx : runV x = none := by rw [hRV, hna, hnb, hab]; rfl
          clear hRV
          have HX : Hid (parseV T = ([], 6)) := Lib.hid (HPF.out (runsAt_bad HRX.out (.inl hVx)))
          go_wp2_with fail
          go_quiet ((first | (go_at_call 43; exact Calls.quiet_of_same (CN.out _ _ (by assumption) (by assumption))) | (go_at_call 44; exact Calls.quiet_of_same (CL.out _ _ _))))
          go_wp2_with fail
          go_returns
          exact ⟨_, by rw [HX.out]; rfl, by rw [HX.out]; exact .inl ⟨rfl, rfl⟩, hb1.trans ((hB2.trans ((below_drewN w2 _).mono hB2.size)).mono hb1.size)⟩
        | true =>
          have hVx : runV x = some (a, b) := by rw [hRV, hna, hnb, hab]; rfl
          clear hRV
          go_wp2_with fail
          go_quiet ((first | (go_at_call 43; exact Calls.quiet_of_same (CN.out _ _ (by assumption) (by assumption))) | (go_at_call 44; exact Calls.quiet_of_same (CL.out _ _ _))))
          obtain ⟨w3, hw3⟩ : ∃ w3, w3 = w2.drewN nq := ⟨_, rfl⟩
          have hb23 : Below w2.heap.size w2 w3 := by rw [hw3]; exact below_drewN w2 _
          have hB3 := hB2.trans (hb23.mono hB2.size)
          have HF3 := Lib.hid (own_below HF2.out hb23)
          have HS3 := Lib.hid (own_below HS2.out hb23)
          have f0 : w3.cell? ⟨g9, o9, none⟩ = some (.string (str a)) := (hb23.cell (p := ⟨g9, o9, none⟩) hg9).trans d0
          have f1 : w3.cell? ⟨g9, o9 + 1, none⟩ = some (.string (str b)) := (hb23.cell (p := ⟨g9, o9 + 1, none⟩) hg9).trans d1
          have hg93 : g9 < w3.heap.size := Nat.lt_of_lt_of_le hg9 hb23.size
          rw [← hw3]
          clear hw3 HF2 HS2
          rcases Nat.eq_zero_or_pos k with hk0 | hkp
          · subst hk0
            have hpre : pre = [] := List.eq_nil_of_length_eq_zero HP.out
            have HR2 := Lib.hid (runsAt_step HRX.out hVx (by rw [hpre]; rfl))
            clear hVx hpre
            go_wp2_with fail
            go_quiet (fail)
            obtain ⟨w4, hw4⟩ : ∃ w4, w4 = w3.drewN nq := ⟨_, rfl⟩
            have hb34 : Below w3.heap.size w3 w4 := by rw [hw4]; exact below_drewN w3 _
            rw [← hw4]
            clear hw4
            have hB4 := hB3.trans (hb34.mono hB3.size)
            have HF4 := Lib.hid (own_below HF3.out hb34)
            have HS4 := Lib.hid (own_below HS3.out hb34)
            have g0 : w4.cell? ⟨g9, o9, none⟩ = some (.string (str a)) := (hb34.cell (p := ⟨g9, o9, none⟩) hg93).trans f0
            have g1 : w4.cell? ⟨g9, o9 + 1, none⟩ = some (.string (str b)) := (hb34.cell (p := ⟨g9, o9 + 1, none⟩) hg93).trans f1
            clear HF3 HS3 f0 hb34
            have hkk : 0 ≤ 60000 := by omega
            go_wp2_with (first
              | (at_builtin; refine wpList_append_lies _ rfl _ _ 46 rfl w1.heap.size 9 i0 (.string ⟨#[]⟩) 1 16 Tryz.underlying46 hi hj0 hj1 hj2 rfl (by decide) (.slice fa (0) fc) (0) _ rfl (HF4.out.alloc _) ⟨w4.heap.size, 0, none⟩ 1 1 [.string (str a)] rfl rfl (new_cells w4 [.string (str a)] _) (by simp [Value.oneCell']) (by omega) (by unfold maxLen; omega) (by omega) (by rw [World.size_alloc]; have := hB4.size; omega) (w4.heap.size + 1) (by simp) ?_; intro g5 cap5 w5 hown5 hgrow5 hat5 hlt5; obtain ⟨S5, D5, hB5⟩ := grow_by _ hB4 hB4.size HF4.out HS4.out HA.out hgrow5 hat5; have HF5 := Lib.hid hown5; have HS5 := Lib.hid S5; have HA5 : Hid (∀ x, some g5 = some x → (Value.slice sa (0) sc).ownBlock = some x → False) := Lib.hid D5; clear hown5 hgrow5 hat5 S5 D5 hlt5 g0)
              | (at_builtin; refine wpList_append_lies _ rfl _ _ 46 rfl w1.heap.size 9 i0 (.string ⟨#[]⟩) 1 16 Tryz.underlying46 hi hj0 hj1 hj2 rfl (by decide) (.slice sa (0) sc) (0) _ rfl (HS5.out.alloc _) ⟨w5.heap.size, 0, none⟩ 1 1 [.string (str b)] rfl rfl (new_cells w5 [.string (str b)] _) (by simp [Value.oneCell']) (by omega) (by unfold maxLen; omega) (by omega) (by rw [World.size_alloc]; have := hB5.size; omega) (w5.heap.size + 1) (by simp) ?_; intro g6 cap6 w6 hown6 hgrow6 hat6 hlt6; obtain ⟨S6, D6, hB6⟩ := grow_by _ hB5 hB5.size HS5.out HF5.out (fun x h1 h2 => HA5.out x h2 h1) hgrow6 hat6; have HS6 := Lib.hid hown6; have HF6 := Lib.hid S6; have HA6 := Lib.hid D6; clear hown6 hgrow6 hat6 S6 D6 hlt6))
            -- MARKT
            refine ⟨⟨0 + 1, pre ++ [(a, b)], by go_num, by omega, by rw [lastV_appW], Lib.hid (by rw [List.length_append, HP.out]; rfl), HR2, Lib.hid ?_, by rw [lastV_appW]; exact hlb, Lib.hid ?_, Lib.hid ?_, Lib.hid (fun x h1 h2 => HA6.out x h2 h1), hB6⟩, by simp [intOf]; omega⟩
            · intro r hr
              rcases List.mem_append.1 hr with h | h
              · exact HPM.out r h
              · rw [List.mem_singleton.1 h]; exact ⟨hla, hlb⟩
            · rw [List.map_append, stc_app]; exact HF6.out
            · rw [List.map_append, stc_app]; exact HS6.out
          · obtain ⟨p, rfl⟩ : ∃ p, k = p + 1 := ⟨k - 1, by omega⟩
            have HBH := Lib.hid (last_beh HP.out)
            have hkp2 : decide ((0 : Int) < (p : Int) + 1) = true := decide_eq_true (by omega)
            cases hbeh : lessL (succL q) a with
            | false =>
              have HX : Hid (parseV T = ([], 6)) := Lib.hid (HPF.out (runsAt_bad HRX.out (.inr ⟨_, hVx, by rw [HBH.out, HQ.out]; exact hbeh⟩)))
              clear hVx
              go_wp2_with fail
              go_region_held3 (fun w' => w'.cell? ⟨g9, o9, none⟩ = some (.string (str a))) (go_keep)
                (first
                  | (go_at_call 45; refine (CX.out q _ hql).mono ?_; rintro e w4 ⟨rfl, hb4⟩; have e0 : w4.cell? ⟨g9, o9, none⟩ = some (.string (str a)) := (hb4.cell (p := ⟨g9, o9, none⟩) hg93).trans f0)
                  | (go_at_call 44; refine (CL.out _ _ _).mono ?_; rintro e w6 ⟨rfl, hw6⟩; have hw7 := hw6.symm; subst hw7))
              all_goals
                have hb34 : Below w3.heap.size w3 w4 := ⟨hb4.os, hb4.tape, hb4.output, hb4.size, hb4.block⟩
                go_wp2_with fail
                go_returns
                exact ⟨_, by rw [HX.out]; rfl, by rw [HX.out]; exact .inl ⟨rfl, rfl⟩, hb1.trans ((hB3.trans (hb34.mono hB3.size)).mono hb1.size)⟩
            | true =>
              have HR2 := Lib.hid (runsAt_step HRX.out hVx (by rw [HBH.out, HQ.out]; exact hbeh))
              clear hVx
              go_wp2_with fail
              go_region_held3 (fun w' => w'.cell? ⟨g9, o9, none⟩ = some (.string (str a))) (go_keep)
                (first
                  | (go_at_call 45; refine (CX.out q _ hql).mono ?_; rintro e w4 ⟨rfl, hb4⟩; have e0 : w4.cell? ⟨g9, o9, none⟩ = some (.string (str a)) := (hb4.cell (p := ⟨g9, o9, none⟩) hg93).trans f0)
                  | (go_at_call 44; refine (CL.out _ _ _).mono ?_; rintro e w6 ⟨rfl, hw6⟩; have hw7 := hw6.symm; subst hw7))
              all_goals
                have hb34 : Below w3.heap.size w3 w4 := ⟨hb4.os, hb4.tape, hb4.output, hb4.size, hb4.block⟩
                clear hb4 e0
                have hB4 := hB3.trans (hb34.mono hB3.size)
                have HF4 := Lib.hid (own_below HF3.out hb34)
                have HS4 := Lib.hid (own_below HS3.out hb34)
                have g0 : w4.cell? ⟨g9, o9, none⟩ = some (.string (str a)) := (hb34.cell (p := ⟨g9, o9, none⟩) hg93).trans f0
                have g1 : w4.cell? ⟨g9, o9 + 1, none⟩ = some (.string (str b)) := (hb34.cell (p := ⟨g9, o9 + 1, none⟩) hg93).trans f1
                clear HF3 HS3 f0 hb34
                have hkk : p + 1 ≤ 60000 := by omega
                go_wp2_with (first
                  | (at_builtin; refine wpList_append_lies _ rfl _ _ 46 rfl w1.heap.size 9 i0 (.string ⟨#[]⟩) 1 16 Tryz.underlying46 hi hj0 hj1 hj2 rfl (by decide) (.slice fa (p + 1) fc) (p + 1) _ rfl (HF4.out.alloc _) ⟨w4.heap.size, 0, none⟩ 1 1 [.string (str a)] rfl rfl (new_cells w4 [.string (str a)] _) (by simp [Value.oneCell']) (by omega) (by unfold maxLen; omega) (by omega) (by rw [World.size_alloc]; have := hB4.size; omega) (w4.heap.size + 1) (by simp) ?_; intro g5 cap5 w5 hown5 hgrow5 hat5 hlt5; obtain ⟨S5, D5, hB5⟩ := grow_by _ hB4 hB4.size HF4.out HS4.out HA.out hgrow5 hat5; have HF5 := Lib.hid hown5; have HS5 := Lib.hid S5; have HA5 : Hid (∀ x, some g5 = some x → (Value.slice sa (p + 1) sc).ownBlock = some x → False) := Lib.hid D5; clear hown5 hgrow5 hat5 S5 D5 hlt5 g0)
                  | (at_builtin; refine wpList_append_lies _ rfl _ _ 46 rfl w1.heap.size 9 i0 (.string ⟨#[]⟩) 1 16 Tryz.underlying46 hi hj0 hj1 hj2 rfl (by decide) (.slice sa (p + 1) sc) (p + 1) _ rfl (HS5.out.alloc _) ⟨w5.heap.size, 0, none⟩ 1 1 [.string (str b)] rfl rfl (new_cells w5 [.string (str b)] _) (by simp [Value.oneCell']) (by omega) (by unfold maxLen; omega) (by omega) (by rw [World.size_alloc]; have := hB5.size; omega) (w5.heap.size + 1) (by simp) ?_; intro g6 cap6 w6 hown6 hgrow6 hat6 hlt6; obtain ⟨S6, D6, hB6⟩ := grow_by _ hB5 hB5.size HS5.out HF5.out (fun x h1 h2 => HA5.out x h2 h1) hgrow6 hat6; have HS6 := Lib.hid hown6; have HF6 := Lib.hid S6; have HA6 := Lib.hid D6; clear hown6 hgrow6 hat6 S6 D6 hlt6))
                -- MARKT
                refine ⟨⟨p + 1 + 1, pre ++ [(a, b)], by go_num, by omega, by rw [lastV_appW], Lib.hid (by rw [List.length_append, HP.out]; rfl), HR2, Lib.hid ?_, by rw [lastV_appW]; exact hlb, Lib.hid ?_, Lib.hid ?_, Lib.hid (fun x h1 h2 => HA6.out x h2 h1), hB6⟩, by simp [intOf]; omega⟩
                · intro r hr
                  rcases List.mem_append.1 hr with h | h
                  · exact HPM.out r h
                  · rw [List.mem_singleton.1 h]; exact ⟨hla, hlb⟩
                · rw [List.map_append, stc_app]; exact HF6.out
                · rw [List.map_append, stc_app]; exact HS6.out
      · -- more
        have hVx : runV x = none := by unfold runV; rw [hE]
        obtain ⟨z, hz⟩ : ∃ z, (a :: b :: c :: E).length = z := ⟨_, rfl⟩
        have hz3 : 2 < z := by rw [← hz]; simp
        rw [hz]
        have hzd : decide ((2 : Int) < (z : Int)) = true := decide_eq_true (by omega)
        clear hc9 hE45 hEl hE hz hz3
        have HX : Hid (parseV T = ([], 6)) := Lib.hid (HPF.out (runsAt_bad HRX.out (.inl hVx)))
        go_wp2_with fail
        go_quiet (fail)
        go_wp2_with fail
        go_returns
        exact ⟨_, by rw [HX.out]; rfl, by rw [HX.out]; exact .inl ⟨rfl, rfl⟩, hb1.trans ((hB2.trans ((below_drewN w2 _).mono hB2.size)).mono hb1.size)⟩
    · obtain rfl : k = n := by omega
      have hnil : L.drop k = [] := List.drop_of_length_le (by rw [HN.out]; exact Nat.le_refl _)
      have hRS : runsV none L = some pre := by have := HR.out; rw [hnil] at this; exact runsAt_end this
      have HPR2 := Lib.hid (fun h => HPR.out pre hRS h)
      have HPL2 := Lib.hid (fun h1 h2 => HPL.out pre hRS h1 h2)
      have HPG2 := Lib.hid (fun l h1 h2 => HPG.out pre l hRS h1 h2)
      rw [HQ.out] at HPR2 HPL2 HPG2
      have hFS := StrsAt.own (l := pre.map (·.1)) (by rw [List.length_map, HP.out]; exact HF.out)
      have hSS := StrsAt.own (l := pre.map (·.2)) (by rw [List.length_map, HP.out]; exact HS.out)
      rcases hFS with ⟨_, hn0⟩ | ⟨gf, of, cf, hvf, hgf, hcf⟩
      · rw [List.map_eq_nil_iff] at hn0; have := HP.out; rw [hn0] at this; simp at this; omega
      rcases hSS with ⟨_, hn0⟩ | ⟨gs, os, cs, hvs, hgs, hcs⟩
      · rw [List.map_eq_nil_iff] at hn0; have := HP.out; rw [hn0] at this; simp at this; omega
      obtain ⟨rfl, hq1, rfl⟩ := Value.slice.inj hvf
      obtain ⟨rfl, hq2, rfl⟩ := Value.slice.inj hvs
      have HCF : Hid (∀ j r, pre[j]? = some r → wr.cell? ⟨gf, of + j, none⟩ = some (.string (str r.1))) := Lib.hid fun j r hr => hcf _ _ (stc_at (by rw [List.getElem?_map, hr]; rfl))
      have HCS : Hid (∀ j r, pre[j]? = some r → wr.cell? ⟨gs, os + j, none⟩ = some (.string (str r.2))) := Lib.hid fun j r hr => hcs _ _ (stc_at (by rw [List.getElem?_map, hr]; rfl))
      obtain ⟨j0, hi2, hk0, hk1, hk2⟩ := info_partsP infoIntW
      have hBw : Below w.heap.size w wr := hb1.trans (hB.mono hb1.size)
      clear hq1 hq2 hcf hcs hvf hvs hnil hRS HF HS HA HPR HPL HPG HPF CPT CP CN CX HR
      go_wp2_with fail
      refine (CD.out _).mono ?_
      rintro e w7 ⟨rfl, hb7⟩
      have HCF7 : Hid (gf < w7.heap.size ∧ ∀ j r, pre[j]? = some r → w7.cell? ⟨gf, of + j, none⟩ = some (.string (str r.1))) := Lib.hid ⟨Nat.lt_of_lt_of_le hgf hb7.size, fun j r hr => (hb7.cell (p := ⟨gf, of + j, none⟩) hgf).trans (HCF.out j r hr)⟩
      have HCS7 : Hid (gs < w7.heap.size ∧ ∀ j r, pre[j]? = some r → w7.cell? ⟨gs, os + j, none⟩ = some (.string (str r.2))) := Lib.hid ⟨Nat.lt_of_lt_of_le hgs hb7.size, fun j r hr => (hb7.cell (p := ⟨gs, os + j, none⟩) hgs).trans (HCS.out j r hr)⟩
      have hBw7 := hBw.trans (hb7.mono hBw.size)
      clear HCF HCS hb7 hgf hgs
      go_wp2_with fail
      refine (CL.out _ _ _).mono ?_
      rintro e w8 ⟨rfl, hw8⟩
      have hw9 := hw8.symm
      subst hw9
      cases hgr : lessL (Lib.itoa 1000000000) q with
      | true =>
        have HV := Lib.hid (HPR2.out hgr)
        go_wp2_with fail
        go_returns
        exact ⟨_, by rw [HV.out]; rfl, by rw [HV.out]; exact .inl ⟨rfl, rfl⟩, hBw7⟩
      | false =>
        have HLo := Lib.hid (fun h => HPL2.out hgr h)
        have HGo := Lib.hid (fun l h => HPG2.out l hgr h)
        clear HPR2 HPL2 HPG2 hgr CD CL hBw
        go_wp2_with fail
        -- MARK5
        go_loopw [10, 11] (fun x6 x32 wr => ∃ (j : Nat) (out : List Int), x32 = .int .i64 j ∧ j ≤ k ∧ Hid (ExpAt pre out j) ∧ Hid (wr.ownsRow w7.heap.size 3 1 x6 out.length (itc out)) ∧ Below w7.heap.size w7 wr) (fun _ x32 _ => k - (intOf x32).toNat)
        case atStart => exact ⟨0, [], rfl, Nat.zero_le _, Lib.hid (expAt_start pre), Lib.hid ⟨rfl, .inl ⟨rfl, rfl⟩⟩, Below.refl _ _⟩
        case round =>
          obtain ⟨j, out, rfl, hj, HE, HO, hB9⟩ := hrel
          obtain ⟨o, ho⟩ : ∃ o, out.length = o := ⟨_, rfl⟩
          have ho500 : o ≤ 500 := by rw [← ho]; exact HE.out.1
          rw [ho] at HO
          have HOL := Lib.hid ho
          clear ho
          obtain ⟨oa, oc, rfl⟩ := own_lenP HO.out
          by_cases hlt2 : j < k
          · obtain ⟨r, hr⟩ : ∃ r, pre[j]? = some r := ⟨_, List.getElem?_eq_getElem (by rw [HP.out]; exact hlt2)⟩
            have hlt' : (j : Int) < (k : Int) := by omega
            obtain ⟨a, b⟩ := r
            have hrl := HPM.out _ (List.mem_of_getElem? hr)
            have hla : a.length ≤ 50000 := hrl.1
            have hlb : b.length ≤ 50000 := hrl.2
            have c0 : wr.cell? ⟨gf, of + j, none⟩ = some (.string (str a)) := (hB9.cell (p := ⟨gf, of + j, none⟩) HCF7.out.1).trans (HCF7.out.2 _ _ hr)
            have c1 : wr.cell? ⟨gs, os + j, none⟩ = some (.string (str b)) := (hB9.cell (p := ⟨gs, os + j, none⟩) HCS7.out.1).trans (HCS7.out.2 _ _ hr)
            have hgs9 : gs < wr.heap.size := Nat.lt_of_lt_of_le HCS7.out.1 hB9.size
            have HRJ := Lib.hid hr
            obtain ⟨x, hx⟩ : ∃ x, numV a = x := ⟨_, rfl⟩
            obtain ⟨y, hy⟩ : ∃ y, numV b = y := ⟨_, rfl⟩
            have hxr : 0 ≤ x ∧ x ≤ 1000000000 := by rw [← hx]; exact numV_range a
            have hyr : 0 ≤ y ∧ y ≤ 1000000000 := by rw [← hy]; exact numV_range b
            have CIa := Lib.hid (fun W => CI.out a W hla)
            have CIb := Lib.hid (fun W => CI.out b W hlb)
            rw [hx] at CIa
            rw [hy] at CIb
            have HXY : Hid (numV a = x ∧ numV b = y) := Lib.hid ⟨hx, hy⟩
            clear hr hx hy hrl hla hlb
            go_wp2_with fail
            refine (CIa.out _).mono ?_
            rintro e w4 ⟨⟨ca, rfl⟩, hb4⟩
            have d1 := (hb4.cell (p := ⟨gs, os + j, none⟩) hgs9).trans c1
            go_wp2_with fail
            refine (CIb.out _).mono ?_
            rintro e w5 ⟨⟨cb, rfl⟩, hb5⟩
            have HO5 := Lib.hid (own_below (own_below HO.out hb4) hb5)
            have hB5 : Below w7.heap.size w7 w5 := (hB9.trans (hb4.mono hB9.size)).trans (hb5.mono (Nat.le_trans hB9.size hb4.size))
            clear hb5 hb4 c0 c1 d1 CIa CIb HO hB9
            go_wp2_with fail
            -- MARK6
            go_loopw [10, 16] (fun x6 x11 wr2 => ∃ c : Nat, x11 = .int .i64 (x + (c : Int)) ∧ c ≤ (y - x + 1).toNat ∧ o + c ≤ 500 ∧ Hid (wr2.ownsRow w7.heap.size 3 1 x6 (o + c) (itc (out ++ (uptoV x y).take c))) ∧ Below w7.heap.size w7 wr2) (fun _ x11 _ => (y - intOf x11 + 1).toNat)
            case atStart => exact ⟨0, by go_num, Nat.zero_le _, ho500, by rw [List.take_zero, List.append_nil]; exact HO5, hB5⟩
            case round =>
              obtain ⟨c, rfl, hc, hoc, HO6, hB6⟩ := hrel
              obtain ⟨sa2, sc2, rfl⟩ := own_lenP HO6.out
              by_cases hle : x + (c : Int) ≤ y
              · by_cases h500 : o + c = 500
                · have HV := Lib.hid (HLo.out (expAt_bad HE.out HRJ.out (by simp only; rw [HXY.out.1, HXY.out.2, HOL.out]; omega)))
                  have hd5 : ((o : Int) + (c : Int) == 500) = true := by rw [beq_iff_eq]; omega
                  go_wp2_with fail
                  go_returns
                  exact ⟨_, by rw [HV.out]; rfl, by rw [HV.out]; exact .inl ⟨rfl, rfl⟩, hBw7.trans (hB6.mono hBw7.size)⟩
                · have hd5 : ((o : Int) + (c : Int) == 500) = false := by rw [beq_eq_false_iff_ne]; omega
                  have hat := uptoV_at x y c hle
                  have HT : Hid ((uptoV x y).take (c + 1) = (uptoV x y).take c ++ [x + (c : Int)]) := Lib.hid (by rw [List.take_add_one, hat]; rfl)
                  have hw3 : IntKind.i64.wrap (x + (c : Int) + 1) = x + (c : Int) + 1 := IntWalk.i64_in _ ⟨by omega, by omega⟩
                  clear hat
                  go_wp2_with (at_builtin; refine wpList_append_lies _ rfl _ _ 28 rfl w7.heap.size 3 j0 (.int .i64 0) 1 8 Tryz.underlying28 hi2 hk0 hk1 hk2 rfl (by decide) _ _ _ rfl (HO6.out.alloc _) ⟨wr.heap.size, 0, none⟩ 1 1 [.int .i64 (x + (c : Int))] rfl rfl (new_cells wr [.int .i64 (x + (c : Int))] _) (by simp [Value.oneCell']) (by omega) (by unfold maxLen; omega) (by omega) (by rw [World.size_alloc]; have := hB6.size; omega) (wr.heap.size + 1) (by simp) ?_; intro g1 cap1 wA hownA hgrowA hatA hltA; have HBA : Below w7.heap.size w7 wA := (hB6.alloc hB6.size _).grown hgrowA (by rw [World.size_alloc]; have := hB6.size; omega) (fun j hj => (HO6.out.lt j hj).1); have HOA := Lib.hid hownA; clear hownA hgrowA hatA)
                  exact ⟨⟨c + 1, by go_num, by omega, by omega, Lib.hid (by
                    rw [HT.out, ← List.append_assoc]
                    have := HOA.out
                    unfold itc at this ⊢
                    rw [List.map_append]
                    exact this), HBA⟩, by simp [intOf]; omega⟩
              · have hcn : c = (y - x + 1).toNat := by omega
                have HT : Hid ((uptoV x y).take c = uptoV x y) := Lib.hid (List.take_of_length_le (by rw [uptoV_len]; omega))
                rw [HT.out] at HO6
                have HE2 := Lib.hid (expAt_step HE.out HRJ.out (by simp only; rw [HXY.out.1, HXY.out.2, HOL.out]; omega))
                go_wp2_with fail
                exact ⟨⟨j + 1, out ++ uptoV x y, by go_num, by omega, by rw [HXY.out.1, HXY.out.2] at HE2; exact HE2, by rw [List.length_append, HOL.out, uptoV_len, ← hcn]; exact HO6, hB6⟩, by simp [intOf]; omega⟩
          · obtain rfl : j = k := by omega
            have HV := Lib.hid (HGo.out out (expAt_end HE.out (by rw [HP.out]; exact Nat.le_refl _)))
            go_wp2_with fail
            go_returns
            exact ⟨_, by rw [HV.out]; rfl, by rw [HV.out]; exact ints_ownW (by rw [HOL.out]; exact HO.out), hBw7.trans (hB9.mono hBw7.size)⟩
end Go.Proofs.YtchnmbfeaaialaaGreatDoor
