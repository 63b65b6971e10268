/- The law BindsOthers. -/
import Derived.Test.YtbkkmcfpjpbhaaaVlc
namespace Go.Proofs.Ytbkkmcfpjpbhaaa
open Go.RowKit Go.PlainAid

theorem app_nil1 (i0 : TypeInfo) (hi : Try.prog.info? 24 = some i0) (N c : Nat) (ty : TypeId) (W : World) : (Builtin.append_ #[22, 22] ty #[.slice (some ⟨N, 0, none⟩) 1 1, .slice none 0 c]).run Try.prog W = .ok (.slice (some ⟨N, 0, none⟩) 1 1) W :=
  run_append_nothing W _ _ ty _ i0 Try.underlying22 hi _ 1 1 (Nat.le_refl _) _ (Src.ofNil W Try.underlying22 c)
set_option maxRecDepth 100000 in
set_option maxHeartbeats 12800000 in
theorem lawOt_any (v : Value) (T : List Bd) (SN SS : ByteArray) (w : World) (h : BsAt w v T) :
    Calls Try.prog 8 #[v, .string SN, .string SS] w fun e w' => e = .returned (.bool true) ∧ Below w.heap.size w w' := by
  have CAw := Lib.hid (fun W => awakeB_any W)
  obtain ⟨n, hn, _⟩ := str_of SN
  obtain ⟨s, hs0, _⟩ := str_of SS
  have CF := Lib.hid (fun W v2 (hW : Below w.heap.size w W) (h2 : SsAt W v2 [n, s]) => far_any v v2 T [n, s] W (h.below hW (Nat.le_refl _)) h2 (by simp))
  have HV := Lib.hid (fun W (hW : Below w.heap.size w W) => h.below hW (Nat.le_refl _))
  have HA : Hid (#[Value.string SN, .string SS] = ([n, s].map fun x => Value.string (str x)).toArray) := Lib.hid (by rw [← hn, ← hs0]; rfl)
  have HFar : Hid (farB T [n, s] = false → SmB T ∧ T.length ≤ 1005 ∧ n.length ≤ 100000 ∧ s.length ≤ 100000) := Lib.hid fun e => by
    obtain ⟨_, h2, h3, h4⟩ := far_no e
    have e1 := h4 n (by simp)
    have e2 := h4 s (by simp)
    exact ⟨smB_ofV h3, h2, by omega, by omega⟩
  have RB := Lib.hid (fun (e2 : s.length ≤ 100000) W u U (hU : BsAt W u U) (hs : SmB U) => Resolve_any u U n s W hU hs e2)
  have CC := Lib.hid (fun (hs : SmB T) W (hW : Below w.heap.size w W) => bcheck_any v T W (HV.out W hW) hs)
  have CS := Lib.hid (fun (e2 : s.length ≤ 100000) W => rcheck_any s W (by omega))
  have AD := Lib.hid (fun (hs : SmB T) (e1 : n.length ≤ 100000) (e2 : s.length ≤ 100000) W (hW : Below w.heap.size w W) => Add_any v T ⟨n, s, 1, 0⟩ W (HV.out W hW) hs e1 e2)
  obtain ⟨a0, c0, hv, -⟩ := h.slice
  obtain ⟨m, hm⟩ : ∃ m, T.length = m := ⟨_, rfl⟩
  have HN := Lib.hid hm
  rw [hm] at hv HFar
  obtain ⟨F, hF⟩ : ∃ F, farB T [n, s] = F := ⟨_, rfl⟩
  rw [hF] at CF HFar
  rw [hs0] at CS
  rw [hn, hs0] at RB
  simp only [bdA_eq] at AD
  rw [hn, hs0] at AD
  subst hv
  clear h hm hF
  by_cases hFt : F = true
  · subst hFt
    go_enter Try.func8, Try.ntmps8
    go_wp2_with fail
    refine (CF.out _ _ (below_b1 w _) (ss_new w [n, s] 2 _ rfl _ HA.out _ rfl)).mono ?_
    rintro e w1 ⟨rfl, hb1⟩
    have hw1 : Below w.heap.size w w1 := (below_b1 w _).trans (hb1.mono (below_b1 w _).size)
    go_wp2_with fail
    refine (CAw.out _).mono ?_
    rintro e wz ⟨rfl, hbz⟩
    go_wp2_with fail
    go_ret
    exact ⟨rfl, below_step hw1 hbz⟩
  have hFf : F = false := by cases F <;> simp_all
  subst hFf
  obtain ⟨hs, hlm, e1, e2⟩ := HFar.out rfl
  have RB1 := Lib.hid (fun W (hW : Below w.heap.size w W) => RB.out e2 W _ T (HV.out W hW) hs)
  have RBx := Lib.hid (fun W u U (hU : BsAt W u U) (hsU : SmB U) => RB.out e2 W u U hU hsU)
  have CC1 := Lib.hid (CC.out hs)
  have CS1 := Lib.hid (CS.out e2)
  have AD1 := Lib.hid (AD.out hs e1 e2)
  have HS := Lib.hid hs
  have HS2 := Lib.hid (hs.snoc (b := ⟨n, s, 1, 0⟩) e1 e2)
  unfold chkV at CC1
  unfold resV at RB1 RBx
  unfold GivesB at AD1
  by_cases h0 : askB T s = 0
  · obtain ⟨ho, hse⟩ := ask_ok h0
    have hl1 : m ≤ 1000 := by rw [← HN.out]; exact ho.few
    rw [chk_ok ho] at CC1
    rw [hse] at CS1
    rw [resE_ok h0] at RB1
    -- the three tables mean the same
    have hfew := ok_few ho n
    have hrev := ok_rev ho
    have Q1 := res_same (s := s) ho hfew (mem_few (T := T) (n := n))
    have Q2 := res_same (n := n) (s := s) ho hrev (mem_rev (T := T) (n := n))
    have hrf : resE (fewB T n) n s = resB (fewB T n) n s := resE_ok (by rw [askB_ok (by rw [chk_ok hfew])]; exact hse)
    have hrr : resE T.reverse n s = resB T.reverse n s := resE_ok (by rw [askB_ok (by rw [chk_ok hrev])]; exact hse)
    have RBf := Lib.hid (fun W u (hU : BsAt W u (fewB T n)) => RBx.out W u _ hU (fun x hx => HS.out x (List.mem_filter.1 hx).1))
    have RBr := Lib.hid (fun W u (hU : BsAt W u T.reverse) => RBx.out W u _ hU (fun x hx => HS.out x (List.mem_reverse.1 hx)))
    rw [hrf] at RBf
    rw [hrr] at RBr
    have HAdd : Hid ((addE T ⟨n, s, 1, 0⟩).2 = 0 → (addE T ⟨n, s, 1, 0⟩).1 = T ++ [⟨n, s, 1, 0⟩] ∧ resE (T ++ [⟨n, s, 1, 0⟩]) n s = (m, 0)) := Lib.hid fun e => by
      unfold addE at e ⊢
      rw [chk_ok ho] at e ⊢
      simp only [ne_eq, not_true_eq_false, if_false] at e ⊢
      by_cases e3 : (chkB (T ++ [⟨n, s, 1, 0⟩])).2 = 0
      · rw [if_neg (by simpa using e3)]
        have ho2 := (chk_iff _).1 e3
        refine ⟨rfl, ?_⟩
        rw [resE_ok (by rw [askB_ok e3]; exact hse), res_added ho2 hse, HN.out]
      · rw [if_pos e3] at e; exact absurd e e3
    have RBm := Lib.hid (fun W u (hU : BsAt W u (T ++ [⟨n, s, 1, 0⟩])) => RBx.out W u _ hU HS2.out)
    obtain ⟨⟨ri, re⟩, hr⟩ : ∃ r, resB T n s = r := ⟨_, rfl⟩
    obtain ⟨⟨fi, fe⟩, hf⟩ : ∃ r, resB (fewB T n) n s = r := ⟨_, rfl⟩
    obtain ⟨⟨vi, ve⟩, hvv⟩ : ∃ r, resB T.reverse n s = r := ⟨_, rfl⟩
    rw [hr] at RB1 Q1 Q2
    rw [hf] at RBf Q1
    rw [hvv] at RBr Q2
    obtain ⟨q1, Q1⟩ := Q1
    obtain ⟨q2, Q2⟩ := Q2
    simp only at RB1 RBf RBr q1 q2 CC1
    rw [q1] at RBf Q1
    rw [q2] at RBr Q2
    have HQ1 := Lib.hid Q1
    have HQ2 := Lib.hid Q2
    have HO := Lib.hid ho
    obtain ⟨⟨L, ae⟩, hL⟩ : ∃ r, addE T ⟨n, s, 1, 0⟩ = r := ⟨_, rfl⟩
    rw [hL] at AD1 HAdd
    simp only at AD1 HAdd
    have HLf : Hid ((fewB T n).length ≤ 1000) := Lib.hid hfew.few
    obtain ⟨i0, hi, hj0, hj1, hj2⟩ := info_parts2 infoBd
    have HNil := Lib.hid (fun N c ty W => app_nil1 i0 hi N c ty W)
    have hqn : ∀ x : Bd, ((str x.n).toList == SN.toList) = decide (x.n = n) := fun x => by rw [← hn]; exact str_beqV _ _
    have HQn := Lib.hid hqn
    have CF0 := CF
    clear hs hlm e1 e2 CC CS AD RB CF HFar hfew hrev hrf hrr hr hf hvv Q1 Q2 ho hse h0 hL hn hs0 q1 q2 hqn hFt RBx
    go_enter Try.func8, Try.ntmps8
    go_wp2_with fail
    refine (CF0.out _ _ (below_b1 w _) (ss_new w [n, s] 2 _ rfl _ HA.out _ rfl)).mono ?_
    rintro e w1 ⟨rfl, hb1⟩
    have hw1 : Below w.heap.size w w1 := (below_b1 w _).trans (hb1.mono (below_b1 w _).size)
    go_wp2_with fail
    refine (RB1.out _ hw1).mono ?_
    rintro e w2 ⟨rfl, hb2⟩
    have hw2 := below_step hw1 hb2
    go_wp2_with fail
    refine (CC1.out _ hw2).mono ?_
    rintro e w3 ⟨rfl, hb3⟩
    have hw3 := below_step hw2 hb3
    go_wp2_with fail
    refine (CS1.out _).mono ?_
    rintro e w4 ⟨rfl, hb4⟩
    have hw4 := below_step hw3 hb4
    go_wp2_with fail
    -- MARK1
    go_loopw [11, 12, 13] (fun x11 x12 x13 wr => ∃ (k p B : Nat), x13 = .int .i64 (k : Int) ∧ k ≤ m ∧ w.heap.size ≤ B ∧ Hid ((fewB (T.take k) n).length = p) ∧ p ≤ k ∧ Hid (wr.ownsRow w.heap.size 24 4 x11 p (bcs (fewB (T.take k) n))) ∧ Hid (wr.ownsRow B 24 4 x12 k (bcs (T.take k).reverse)) ∧ Hid (x12 = .slice none 0 0 ↔ k = 0) ∧ Hid (∀ b, x11.ownBlock = some b → b < B) ∧ Below w.heap.size w wr) (fun _ _ x13 _ => m - (intOf x13).toNat)
    case atStart => exact ⟨0, 0, w.heap.size, rfl, Nat.zero_le _, Nat.le_refl _, Lib.hid rfl, Nat.zero_le _, Lib.hid (own_nilV _ _ _ _), Lib.hid (own_nilV _ _ _ _), Lib.hid ⟨fun _ => rfl, fun _ => rfl⟩, Lib.hid (fun b h => by cases h), hw4⟩
    case round =>
      obtain ⟨k, p, B, rfl, hk, hB, HP, hp, HO1, HO2, HZ, HBl, hb⟩ := hrel
      obtain ⟨fa, fc, rfl⟩ := own_len HO1.out
      obtain ⟨ta, tc, rfl⟩ := own_len HO2.out
      have hk0 : (0 : Int) ≤ (k : Int) := Int.natCast_nonneg _
      by_cases hlt : k < m
      · obtain ⟨x, hx⟩ : ∃ x, T[k]? = some x := ⟨_, List.getElem?_eq_getElem (by rw [HN.out]; exact hlt)⟩
        obtain ⟨g, off, rfl, hg, c0, c1, c2, c3⟩ := (HV.out wr hb).node hx
        have hk1 : (k : Int) < (m : Int) := by omega
        have HX0 := Lib.hid hx
        have HF1 := Lib.hid (few_take (n := n) hx)
        have HR1 := Lib.hid (rev_take hx)
        have hq := HQn.out x
        obtain ⟨bq, hbq⟩ : ∃ bq, decide (x.n = n) = bq := ⟨_, rfl⟩
        have HBQ := Lib.hid hbq
        rw [hbq] at hq
        obtain ⟨xn, xs, xp, xr⟩ := x
        simp only at c0 c1 c2 c3 hq
        obtain ⟨X, hX⟩ : ∃ X, str xn = X := ⟨_, rfl⟩
        obtain ⟨Y, hY⟩ : ∃ Y, str xs = Y := ⟨_, rfl⟩
        have HC : Hid (bdC ⟨xn, xs, xp, xr⟩ = [.string X, .string Y, .int .i64 xp, .int .i64 xr]) := Lib.hid (by unfold bdC; rw [hX, hY])
        rw [hX] at c0 hq
        rw [hY] at c1
        have HT1 : Hid (bcs (T.take (k + 1)).reverse = [.string X, .string Y, .int .i64 xp, .int .i64 xr] ++ bcs (T.take k).reverse) := Lib.hid (by rw [HR1.out, ← HC.out, ← bcs_one, ← bcs_app]; rfl)
        have HTl : Hid ((bcs (T.take k).reverse).length = k * 4) := Lib.hid (by rw [bcs_len, List.length_reverse, List.length_take, HN.out, Nat.min_eq_left (by omega)])
        have HT1s := Lib.hid (one_bcs (T.take k).reverse)
        have HXs := Lib.hid hX
        have HYs := Lib.hid hY
        clear hx hbq hX hY
        cases bq
        · have HF2 : Hid (fewB (T.take (k + 1)) n = fewB (T.take k) n) := Lib.hid (by rw [HF1.out, if_neg (by simpa using HBQ.out), List.append_nil])
          have HNw : Hid (wr.ownsRow w.heap.size 24 4 (.slice fa p fc) p (bcs (fewB (T.take (k + 1)) n))) := Lib.hid (by rw [HF2.out]; exact HO1.out)
          have HP2 : Hid ((fewB (T.take (k + 1)) n).length = p) := Lib.hid (by rw [HF2.out]; exact HP.out)
          have hbL : Below w.heap.size w (wr.alloc (.cells #[.string X, .string Y, .int .i64 xp, .int .i64 xr] 24)) := hb.alloc hb.size _
          have hsW := hb.size
          have HLit : Hid ((wr.alloc (.cells #[.string X, .string Y, .int .i64 xp, .int .i64 xr] 24)).ownsRow wr.heap.size 24 4 (.slice (some ⟨wr.heap.size, 0, none⟩) 1 1) 1 [Value.string X, .string Y, .int .i64 xp, .int .i64 xr]) := Lib.hid (World.ownsRow_lit (base := wr.heap.size) (e := 24) (size := 4) wr _ 1 (Nat.le_refl _) (by unfold maxLen; omega) rfl)
          have HFL : Hid ((wr.alloc (.cells #[.string X, .string Y, .int .i64 xp, .int .i64 xr] 24)).ownsRow w.heap.size 24 4 (.slice fa p fc) p (bcs (fewB (T.take (k + 1)) n))) := Lib.hid (HNw.out.alloc _)
          have HLt : Hid (∀ b, (Value.slice fa p fc).ownBlock = some b → b < wr.heap.size) := Lib.hid fun b hb9 => (HNw.out.lt b hb9).2
          by_cases hz : k = 0
          · have HZ0 := HZ.out.2 hz
            have HT0 : Hid (bcs (T.take (k + 1)).reverse = [Value.string X, .string Y, .int .i64 xp, .int .i64 xr]) := Lib.hid (by rw [HT1.out, hz]; rfl)
            obtain ⟨rfl, -, rfl⟩ := Value.slice.inj HZ0
            subst hz
            simp only [Nat.zero_mul, Nat.add_zero] at c0 c1 c2 c3
            go_wp2_with (at_builtin; refine Lib.wpList_append_run _ rfl _ _ _ _ rfl (.slice (some ⟨_, 0, none⟩) 1 1) (.slice none 0 0) rfl rfl _ _ (HNil.out _ _ _ _) ?_)
            -- MARK3
            exact ⟨⟨0 + 1, p, wr.heap.size, by go_num, by omega, hsW, HP2, by omega, HFL, Lib.hid (by rw [HT0.out]; exact HLit.out), Lib.hid ⟨fun e => (by cases e), fun e => (by cases e)⟩, HLt, hbL⟩, by simp [intOf]; omega⟩
          · have hk9 : 0 < k := by omega
            obtain ⟨gt, rfl⟩ : ∃ gt, ta = some ⟨gt, 0, none⟩ := by
              rcases own_form HO2.out with ⟨e, e2⟩ | ⟨gt, ct, e, _⟩
              · exact absurd e2 hz
              · exact ⟨gt, (Value.slice.inj e).1⟩
            have HCt : Hid (∀ j u, (bcs (T.take k).reverse)[j]? = some u → (wr.alloc (.cells #[.string X, .string Y, .int .i64 xp, .int .i64 xr] 24)).cell? ((⟨gt, 0, none⟩ : Addr).add j) = some u) := Lib.hid ((HO2.out.alloc _).cells rfl)
            clear hz
            go_wp2_with (at_builtin; refine wpList_append_own _ rfl _ _ 22 rfl wr.heap.size 24 i0 zeroBv 4 48 Try.underlying22 hi hj0 hj1 hj2 rfl (by decide) _ _ _ rfl HLit.out ⟨gt, 0, none⟩ k tc (bcs (T.take k).reverse) rfl HTl.out HCt.out HT1s.out (by unfold maxLen; omega) (by omega) (by rw [World.size_alloc]; omega) ?_; intro v5 w5 hown5 hgrow5 hnil5; rw [← HT1.out, Nat.add_comm 1 k] at hown5; obtain ⟨ta5, tc5, rfl⟩ := own_len hown5; have HO5 := Lib.hid hown5; have hb5 : Below w.heap.size w w5 := hbL.grown hgrow5 hbL.size (fun q hq => by cases hq; exact hsW); have HF5 : Hid (w5.ownsRow w.heap.size 24 4 (.slice fa p fc) p (bcs (fewB (T.take (k + 1)) n))) := Lib.hid (HFL.out.kept hgrow5 (.inr (fun e => by have h9 := HLt.out _ e; exact absurd h9 (Nat.lt_irrefl _)))); clear hown5 hgrow5 hnil5)
            -- MARK4
            have HZ5 : Hid (Value.slice ta5 (k + 1) tc5 = .slice none 0 0 ↔ k + 1 = 0) := Lib.hid ⟨fun e => (by cases e), fun e => (by omega)⟩
            exact ⟨⟨k + 1, p, wr.heap.size, by go_num, by omega, hsW, HP2, by omega, HF5, HO5, HZ5, HLt, hb5⟩, by simp [intOf]; omega⟩
        · have HF2 : Hid (fewB (T.take (k + 1)) n = fewB (T.take k) n ++ [⟨xn, xs, xp, xr⟩]) := Lib.hid (by rw [HF1.out, if_pos (by simpa using HBQ.out)])
          have HF3 : Hid (bcs (fewB (T.take (k + 1)) n) = bcs (fewB (T.take k) n) ++ [.string X, .string Y, .int .i64 xp, .int .i64 xr]) := Lib.hid (by rw [HF2.out, bcs_app, bcs_one, HC.out])
          have HXX : Hid (T[k]? = some ⟨xn, xs, xp, xr⟩) := HX0
          have HP2 : Hid ((fewB (T.take (k + 1)) n).length = p + 1) := Lib.hid (by rw [HF2.out, List.length_append, HP.out]; rfl)
          have hne : (Value.slice ta k tc).ownBlock = none ∨ (Value.slice ta k tc).ownBlock ≠ (Value.slice fa p fc).ownBlock := by
            cases hob : (Value.slice ta k tc).ownBlock with
            | none => exact .inl rfl
            | some b =>
              refine .inr fun e => ?_
              have h1 := HBl.out b e.symm
              have h2 := (HO2.out.lt b hob).1
              omega
          have HNE := Lib.hid hne
          clear hne
          go_upto_region 13 with (at_builtin; refine wpList_append_own _ rfl _ _ 22 rfl w.heap.size 24 i0 zeroBv 4 48 Try.underlying22 hi hj0 hj1 hj2 rfl (by decide) _ _ _ rfl (HO1.out.alloc _) ⟨wr.heap.size, 0, none⟩ 1 1 [Value.string X, .string Y, .int .i64 xp, .int .i64 xr] rfl rfl (new_cells wr [Value.string X, .string Y, .int .i64 xp, .int .i64 xr] _) (by simp [Value.oneCell']) (by unfold maxLen; omega) (by omega) (by rw [World.size_alloc]; have := hb.size; omega) ?_; intro v4 w4 hown4 hgrow4 _; rw [← HF3.out] at hown4; obtain ⟨fa4, fc4, rfl⟩ := own_len hown4; have HO4 := Lib.hid hown4; have hb4 : Below w.heap.size w w4 := (hb.alloc hb.size _).grown hgrow4 (by rw [World.size_alloc]; have := hb.size; omega) (fun q hq => (HO1.out.lt q hq).1); have HO24 : Hid (w4.ownsRow B 24 4 (.slice ta k tc) k (bcs (T.take k).reverse)) := Lib.hid ((HO2.out.alloc _).kept hgrow4 HNE.out); clear hown4 hgrow4)
          -- MARK2
          obtain ⟨g', off', e', hg', c0, c1, c2, c3⟩ := (HV.out w4 hb4).node HXX.out
          cases e'
          simp only at c0 c1 c2 c3
          rw [HXs.out] at c0
          rw [HYs.out] at c1
          have hbL : Below w.heap.size w (w4.alloc (.cells #[.string X, .string Y, .int .i64 xp, .int .i64 xr] 24)) := hb4.alloc hb4.size _
          have hsW := hb4.size
          have HLit : Hid ((w4.alloc (.cells #[.string X, .string Y, .int .i64 xp, .int .i64 xr] 24)).ownsRow w4.heap.size 24 4 (.slice (some ⟨w4.heap.size, 0, none⟩) 1 1) 1 [Value.string X, .string Y, .int .i64 xp, .int .i64 xr]) := Lib.hid (World.ownsRow_lit (base := w4.heap.size) (e := 24) (size := 4) w4 _ 1 (Nat.le_refl _) (by unfold maxLen; omega) rfl)
          have HFL : Hid ((w4.alloc (.cells #[.string X, .string Y, .int .i64 xp, .int .i64 xr] 24)).ownsRow w.heap.size 24 4 (.slice fa4 (p + 1) fc4) (p + 1) (bcs (fewB (T.take (k + 1)) n))) := Lib.hid (HO4.out.alloc _)
          have HLt : Hid (∀ b, (Value.slice fa4 (p + 1) fc4).ownBlock = some b → b < w4.heap.size) := Lib.hid fun b hb9 => (HO4.out.lt b hb9).2
          by_cases hz : k = 0
          · have HZ0 := HZ.out.2 hz
            have HT0 : Hid (bcs (T.take (k + 1)).reverse = [Value.string X, .string Y, .int .i64 xp, .int .i64 xr]) := Lib.hid (by rw [HT1.out, hz]; rfl)
            obtain ⟨rfl, -, rfl⟩ := Value.slice.inj HZ0
            subst hz
            simp only [Nat.zero_mul, Nat.add_zero] at c0 c1 c2 c3
            go_wp2_with (at_builtin; refine Lib.wpList_append_run _ rfl _ _ _ _ rfl (.slice (some ⟨_, 0, none⟩) 1 1) (.slice none 0 0) rfl rfl _ _ (HNil.out _ _ _ _) ?_)
            -- MARK3
            exact ⟨⟨0 + 1, p + 1, w4.heap.size, by go_num, by omega, hsW, HP2, by omega, HFL, Lib.hid (by rw [HT0.out]; exact HLit.out), Lib.hid ⟨fun e => (by cases e), fun e => (by cases e)⟩, HLt, hbL⟩, by simp [intOf]; omega⟩
          · have hk9 : 0 < k := by omega
            obtain ⟨gt, rfl⟩ : ∃ gt, ta = some ⟨gt, 0, none⟩ := by
              rcases own_form HO24.out with ⟨e, e2⟩ | ⟨gt, ct, e, _⟩
              · exact absurd e2 hz
              · exact ⟨gt, (Value.slice.inj e).1⟩
            have HCt : Hid (∀ j u, (bcs (T.take k).reverse)[j]? = some u → (w4.alloc (.cells #[.string X, .string Y, .int .i64 xp, .int .i64 xr] 24)).cell? ((⟨gt, 0, none⟩ : Addr).add j) = some u) := Lib.hid ((HO24.out.alloc _).cells rfl)
            clear hz
            go_wp2_with (at_builtin; refine wpList_append_own _ rfl _ _ 22 rfl w4.heap.size 24 i0 zeroBv 4 48 Try.underlying22 hi hj0 hj1 hj2 rfl (by decide) _ _ _ rfl HLit.out ⟨gt, 0, none⟩ k tc (bcs (T.take k).reverse) rfl HTl.out HCt.out HT1s.out (by unfold maxLen; omega) (by omega) (by rw [World.size_alloc]; omega) ?_; intro v5 w5 hown5 hgrow5 hnil5; rw [← HT1.out, Nat.add_comm 1 k] at hown5; obtain ⟨ta5, tc5, rfl⟩ := own_len hown5; have HO5 := Lib.hid hown5; have hb5 : Below w.heap.size w w5 := hbL.grown hgrow5 hbL.size (fun q hq => by cases hq; exact hsW); have HF5 : Hid (w5.ownsRow w.heap.size 24 4 (.slice fa4 (p + 1) fc4) (p + 1) (bcs (fewB (T.take (k + 1)) n))) := Lib.hid (HFL.out.kept hgrow5 (.inr (fun e => by have h9 := HLt.out _ e; exact absurd h9 (Nat.lt_irrefl _)))); clear hown5 hgrow5 hnil5)
            -- MARK4
            have HZ5 : Hid (Value.slice ta5 (k + 1) tc5 = .slice none 0 0 ↔ k + 1 = 0) := Lib.hid ⟨fun e => (by cases e), fun e => (by omega)⟩
            exact ⟨⟨k + 1, p + 1, w4.heap.size, by go_num, by omega, hsW, HP2, by omega, HF5, HO5, HZ5, HLt, hb5⟩, by simp [intOf]; omega⟩
      · obtain rfl : k = m := by omega
        have htk : T.take k = T := List.take_of_length_le (by rw [HN.out]; exact Nat.le_refl _)
        rw [htk] at HP HO1 HO2
        have HBf := Lib.hid (bs_own HO1.out HP.out)
        have HBr := Lib.hid (bs_own HO2.out (by rw [List.length_reverse]; exact HN.out))
        have HpL : Hid ((fewB T n).length = p) := HP
        clear htk
        go_wp2_with fail
        refine (RBf.out _ _ HBf.out).mono ?_
        rintro e w5 ⟨rfl, hb5⟩
        have hw5 := below_step hb hb5
        go_wp2_with fail
        refine (RBr.out _ _ (HBr.out.below hb5 (Nat.le_refl _))).mono ?_
        rintro e w6 ⟨rfl, hb6⟩
        have hw6 := below_step hw5 hb6
        have hb56 := below_step hb5 hb6
        have HRV : Hid (T.reverse.length = k) := Lib.hid (by rw [List.length_reverse]; exact HN.out)
        have hnn : (re != re) = false := by simp
        by_cases hre : re = 0
        · subst hre
          obtain ⟨x, hx1, hx2⟩ := HQ1.out ri fi rfl rfl
          obtain ⟨y, hy1, hy2⟩ := HQ2.out ri vi rfl rfl
          rw [hx1] at hy1
          obtain rfl := Option.some.inj hy1
          have i1 : (ri : Int) < (k : Int) := by have := (List.getElem?_eq_some_iff.1 hx1).1; have := HN.out; omega
          have i2 : (fi : Int) < (p : Int) := by have := (List.getElem?_eq_some_iff.1 hx2).1; have := HpL.out; omega
          have i3 : (vi : Int) < (k : Int) := by have := (List.getElem?_eq_some_iff.1 hy2).1; have := HRV.out; omega
          have j1 : (0 : Int) ≤ (ri : Int) := Int.natCast_nonneg _
          have j2 : (0 : Int) ≤ (fi : Int) := Int.natCast_nonneg _
          have j3 : (0 : Int) ≤ (vi : Int) := Int.natCast_nonneg _
          have k1 : ¬ k ≤ ri := by omega
          have k2 : ¬ p ≤ fi := by omega
          have k3 : ¬ k ≤ vi := by omega
          have g1 : decide ((ri : Int) < 0) = false := decide_eq_false (by omega)
          have g2 : decide ((fi : Int) < 0) = false := decide_eq_false (by omega)
          have g3 : decide ((vi : Int) < 0) = false := decide_eq_false (by omega)
          have g4 : decide ((k : Int) ≤ (ri : Int)) = false := decide_eq_false (by omega)
          have g5 : decide ((p : Int) ≤ (fi : Int)) = false := decide_eq_false (by omega)
          have g6 : decide ((k : Int) ≤ (vi : Int)) = false := decide_eq_false (by omega)
          obtain ⟨ga, oa, rfl, _, c0, c1, c2, c3⟩ := (HV.out _ hw6).node hx1
          obtain ⟨gb, ob, rfl, _, d0, d1, d2, d3⟩ := (HBf.out.below hb56 (Nat.le_refl _)).node hx2
          obtain ⟨gc, oc, rfl, _, e0, e1, e2, e3⟩ := (HBr.out.below hb56 (Nat.le_refl _)).node hy2
          have hneq := bd_ne x x
          rw [decide_eq_true rfl, bdA_eq] at hneq
          simp only [Bool.not_true] at hneq
          obtain ⟨xn, xs, xp, xr⟩ := x
          simp only at c0 c1 c2 c3 d0 d1 d2 d3 e0 e1 e2 e3 hneq
          obtain ⟨X, hX⟩ : ∃ X, str xn = X := ⟨_, rfl⟩
          obtain ⟨Y, hY⟩ : ∃ Y, str xs = Y := ⟨_, rfl⟩
          rw [hX] at c0 d0 e0 hneq
          rw [hY] at c1 d1 e1 hneq
          clear hx1 hx2 hy1 hy2 hX hY HQ1 HQ2 HO1 HO2 HZ HBl HP
          go_wp2_with fail
          -- MARK5
          go_quiet (fail)
          have hwq : Below w.heap.size w (w6.drewN nq) := ⟨hw6.os, hw6.tape, hw6.output, hw6.size, hw6.block⟩
          go_wp2_with fail
          refine (AD1.out _ hwq).mono ?_
          rintro e w7 ⟨v7, rfl, HO7, hb7⟩
          have hw7 := below_step hwq hb7
          by_cases ha : ae = 0
          · subst ha
            obtain ⟨eL, eR⟩ := HAdd.out rfl
            have HLk : Hid (L.length = k + 1) := Lib.hid (by rw [eL, List.length_append, HN.out]; rfl)
            rw [eR] at RBm
            rw [← eL] at RBm
            have HB7 := Lib.hid (bs_own HO7.out rfl)
            obtain ⟨a7, c7, rfl⟩ := own_len HO7.out
            have hw64 : IntKind.i64.wrap ((k : Int) + 1) = (k : Int) + 1 := by rw [IntKind.wrap_i64]; omega
            obtain ⟨q, hq⟩ : ∃ q, L.length = q := ⟨_, rfl⟩
            rw [hq] at HB7 HLk
            rw [hq]
            have hqk := HLk.out
            subst hqk
            clear HO7 hq eL eR HAdd
            go_wp2_with fail
            refine (RBm.out _ _ HB7.out).mono ?_
            rintro e w8 ⟨rfl, hb8⟩
            have hw8 := below_step hw7 hb8
            go_wp2_with fail
            refine (CAw.out _).mono ?_
            rintro e wz ⟨rfl, hbz⟩
            go_wp2_with fail
            go_ret
            exact ⟨rfl, below_step hw8 hbz⟩
          · have hne : (ae != 0) = true := bne_iff_ne.2 ha
            obtain ⟨a7, c7, rfl⟩ := own_len HO7.out
            go_wp2_with fail
            refine (CAw.out _).mono ?_
            rintro e wz ⟨rfl, hbz⟩
            go_wp2_with fail
            go_ret
            exact ⟨rfl, below_step hw7 hbz⟩
        · have hzq : (re == 0) = false := beq_eq_false_iff_ne.2 hre
          clear HQ1 HQ2 HO1 HO2 HZ HBl HP
          go_wp2_with fail
          go_quiet (fail)
          have hwq : Below w.heap.size w (w6.drewN nq) := ⟨hw6.os, hw6.tape, hw6.output, hw6.size, hw6.block⟩
          go_wp2_with fail
          refine (AD1.out _ hwq).mono ?_
          rintro e w7 ⟨v7, rfl, HO7, hb7⟩
          have hw7 := below_step hwq hb7
          by_cases ha : ae = 0
          · subst ha
            obtain ⟨eL, eR⟩ := HAdd.out rfl
            have HLk : Hid (L.length = k + 1) := Lib.hid (by rw [eL, List.length_append, HN.out]; rfl)
            rw [eR] at RBm
            rw [← eL] at RBm
            have HB7 := Lib.hid (bs_own HO7.out rfl)
            obtain ⟨a7, c7, rfl⟩ := own_len HO7.out
            have hw64 : IntKind.i64.wrap ((k : Int) + 1) = (k : Int) + 1 := by rw [IntKind.wrap_i64]; omega
            obtain ⟨q, hq⟩ : ∃ q, L.length = q := ⟨_, rfl⟩
            rw [hq] at HB7 HLk
            rw [hq]
            have hqk := HLk.out
            subst hqk
            clear HO7 hq eL eR HAdd
            go_wp2_with fail
            refine (RBm.out _ _ HB7.out).mono ?_
            rintro e w8 ⟨rfl, hb8⟩
            have hw8 := below_step hw7 hb8
            go_wp2_with fail
            refine (CAw.out _).mono ?_
            rintro e wz ⟨rfl, hbz⟩
            go_wp2_with fail
            go_ret
            exact ⟨rfl, below_step hw8 hbz⟩
          · have hne : (ae != 0) = true := bne_iff_ne.2 ha
            obtain ⟨a7, c7, rfl⟩ := own_len HO7.out
            go_wp2_with fail
            refine (CAw.out _).mono ?_
            rintro e wz ⟨rfl, hbz⟩
            go_wp2_with fail
            go_ret
            exact ⟨rfl, below_step hw7 hbz⟩
  · -- the table, or the set, has an error
    obtain ⟨⟨ri, re⟩, hr⟩ : ∃ r, resE T n s = r := ⟨_, rfl⟩
    have hre : re = askB T s := by rw [resE_no h0] at hr; exact (Prod.mk.inj hr).2.symm
    have hre0 : re ≠ 0 := by rw [hre]; exact h0
    have hne : (re != 0) = true := bne_iff_ne.2 hre0
    rw [hr] at RB1
    simp only at RB1
    obtain ⟨⟨ci, ce⟩, hc⟩ : ∃ c, chkB T = c := ⟨_, rfl⟩
    rw [hc] at CC1
    simp only at CC1
    have HSe : Hid (ce = 0 → chkE s ≠ 0) := Lib.hid fun e h => h0 (by rw [askB_ok (by rw [hc]; exact e)]; exact h)
    obtain ⟨se, hse⟩ : ∃ e, chkE s = e := ⟨_, rfl⟩
    rw [hse] at CS1 HSe
    have CF0 := CF
    clear hs hlm e1 e2 CC CS AD RB CF HFar RBx AD1 hr hre hre0 hc hse h0 hn hs0 hFt HS2
    by_cases hz : ce = 0
    · have hn2 : (se != 0) = true := bne_iff_ne.2 (HSe.out hz)
      subst hz
      go_enter Try.func8, Try.ntmps8
      go_wp2_with fail
      refine (CF0.out _ _ (below_b1 w _) (ss_new w [n, s] 2 _ rfl _ HA.out _ rfl)).mono ?_
      rintro e w1 ⟨rfl, hb1⟩
      have hw1 : Below w.heap.size w w1 := (below_b1 w _).trans (hb1.mono (below_b1 w _).size)
      go_wp2_with fail
      refine (RB1.out _ hw1).mono ?_
      rintro e w2 ⟨rfl, hb2⟩
      have hw2 := below_step hw1 hb2
      go_wp2_with fail
      refine (CC1.out _ hw2).mono ?_
      rintro e w3 ⟨rfl, hb3⟩
      have hw3 := below_step hw2 hb3
      go_wp2_with fail
      refine (CS1.out _).mono ?_
      rintro e w4 ⟨rfl, hb4⟩
      have hw4 := below_step hw3 hb4
      go_wp2_with fail
      refine (CAw.out _).mono ?_
      rintro e wz ⟨rfl, hbz⟩
      go_wp2_with fail
      go_ret
      exact ⟨rfl, below_step hw4 hbz⟩
    · have hn2 : (ce != 0) = true := bne_iff_ne.2 hz
      go_enter Try.func8, Try.ntmps8
      go_wp2_with fail
      refine (CF0.out _ _ (below_b1 w _) (ss_new w [n, s] 2 _ rfl _ HA.out _ rfl)).mono ?_
      rintro e w1 ⟨rfl, hb1⟩
      have hw1 : Below w.heap.size w w1 := (below_b1 w _).trans (hb1.mono (below_b1 w _).size)
      go_wp2_with fail
      refine (RB1.out _ hw1).mono ?_
      rintro e w2 ⟨rfl, hb2⟩
      have hw2 := below_step hw1 hb2
      go_wp2_with fail
      refine (CC1.out _ hw2).mono ?_
      rintro e w3 ⟨rfl, hb3⟩
      have hw3 := below_step hw2 hb3
      go_wp2_with fail
      refine (CAw.out _).mono ?_
      rintro e wz ⟨rfl, hbz⟩
      go_wp2_with fail
      go_ret
      exact ⟨rfl, below_step hw3 hbz⟩
-- MARK9
end Go.Proofs.Ytbkkmcfpjpbhaaa
