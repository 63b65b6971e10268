/- The reference of layer 11: asked, candidates, Candidates, Of. -/
import Derived.Test.YtbkkmcfpjpbhaaaVs
namespace Go.Proofs.Ytbkkmcfpjpbhaaa
open Go.RowKit Go.PlainAid

set_option maxRecDepth 50000 in
theorem rasked_any (v : Value) (T : List Bd) (s : List UInt8) (w : World) (h : BsAt w v T) (hs : SmB T) (hs2 : s.length ≤ 100000) :
    Calls Try.prog 36 #[v, .string (str s)] w fun e w' => e = .returned (.int .i64 (askB T s)) ∧ Below w.heap.size w w' := by
  have C := Lib.hid (rbCheck_any v T w h hs)
  have CC := Lib.hid (fun W => rcheck_any s W (by omega))
  obtain ⟨a0, c0, hv, -⟩ := h.slice
  obtain ⟨m, hm⟩ : ∃ m, T.length = m := ⟨_, rfl⟩
  rw [hm] at hv
  subst hv
  unfold chkV at C
  obtain ⟨⟨i, er⟩, hr⟩ : ∃ r, chkB T = r := ⟨_, rfl⟩
  have HE0 : Hid ((chkB T).2 = 0 → askB T s = chkE s) := Lib.hid fun e => askB_ok e s
  have HE1 : Hid ((chkB T).2 ≠ 0 → askB T s = (chkB T).2) := Lib.hid fun e => askB_no e s
  obtain ⟨R, hR⟩ : ∃ R, askB T s = R := ⟨_, rfl⟩
  rw [hR] at HE0 HE1 ⊢
  rw [hr] at C HE0 HE1
  simp only at C HE0 HE1
  obtain ⟨SS, hSS⟩ : ∃ S, str s = S := ⟨_, rfl⟩
  rw [hSS] at CC ⊢
  clear h hs hs2 hr hR hSS hm
  by_cases h0 : er = 0
  · have HW := Lib.hid (HE0.out h0)
    subst h0
    clear HE0 HE1
    go_enter Try.func36, Try.ntmps36
    go_wp2_with fail
    refine C.out.mono ?_
    rintro e w1 ⟨rfl, hb1⟩
    go_wp2_with fail
    refine (CC.out _).mono ?_
    rintro e w2 ⟨rfl, hb2⟩
    go_wp2_with fail
    go_ret
    exact ⟨ret_int HW.out.symm, below_step hb1 hb2⟩
  · have HW := Lib.hid (HE1.out h0)
    have hne : (er == 0) = false := beq_eq_false_iff_ne.2 h0
    clear HE0 HE1
    go_enter Try.func36, Try.ntmps36
    go_wp2_with fail
    refine C.out.mono ?_
    rintro e w1 ⟨rfl, hb1⟩
    go_wp2_with fail
    go_ret
    exact ⟨ret_int HW.out.symm, hb1⟩
set_option maxRecDepth 100000 in
set_option maxHeartbeats 3200000 in
theorem rcands_any (v : Value) (T : List Bd) (n s : List UInt8) (w : World) (h : BsAt w v T) (hs : SmB T) (hl : T.length ≤ 2000) (hs2 : s.length ≤ 100000) :
    Calls Try.prog 37 #[v, .string (str n), .string (str s)] w (GivesN (candB T n s) w) := by
  have HV := Lib.hid (fun W (hW : Below w.heap.size w W) => h.below hW (Nat.le_refl _))
  obtain ⟨a, c, rfl, hc⟩ := h.slice
  obtain ⟨m, hm⟩ : ∃ m, T.length = m := ⟨_, rfl⟩
  have HN := Lib.hid hm
  have CW := Lib.hid (fun x (hx : x ∈ T) W => rSub_any x.s s W (hs x hx).2 hs2)
  have HSu := Lib.hid (candG_succ T n s)
  unfold candB
  rw [hm] at hl hc HV ⊢
  obtain ⟨C, hC⟩ : ∃ C, candG T n s = C := ⟨_, rfl⟩
  rw [hC] at HSu ⊢
  have HC0 : Hid (C 0 = []) := Lib.hid (by rw [← hC]; rfl)
  obtain ⟨NN, hNN⟩ : ∃ NN, str n = NN := ⟨_, rfl⟩
  obtain ⟨SS, hSS⟩ : ∃ SS, str s = SS := ⟨_, rfl⟩
  have HNN := Lib.hid hNN
  rw [hSS] at CW
  rw [hNN, hSS]
  obtain ⟨i0, hi, hj0, hj1, hj2⟩ := info_parts2 infoInt
  clear h hm hs hs2 hC hNN hSS
  go_enter Try.func37, Try.ntmps37
  go_wp2_with fail
  go_loopw [7, 8] (fun x7 x8 wr => ∃ (k p : Nat), x8 = .int .i64 (k : Int) ∧ k ≤ m ∧ Hid ((C k).length = p) ∧ p ≤ k ∧ Hid (wr.ownsRow w.heap.size 3 1 x7 p (natC (C k))) ∧ Below w.heap.size w wr) (fun _ x8 _ => m - (intOf x8).toNat)
  case atStart => exact ⟨0, 0, rfl, Nat.zero_le _, Lib.hid (by rw [HC0.out]; rfl), Nat.zero_le _, Lib.hid (by rw [HC0.out]; exact own_nilV _ _ _ _), Below.refl _ _⟩
  case round =>
    obtain ⟨k, p, rfl, hk, HP, hp, HO, hb⟩ := hrel
    obtain ⟨va, vc, rfl⟩ := own_len HO.out
    have hk0 : (0 : Int) ≤ (k : Int) := Int.natCast_nonneg _
    by_cases hlt : k < m
    · obtain ⟨x, hx⟩ : ∃ x, T[k]? = some x := ⟨_, List.getElem?_eq_getElem (by rw [HN.out]; exact hlt)⟩
      obtain ⟨g, off, rfl, hg, c0, c1, _, _⟩ := (HV.out wr hb).node hx
      have CX := Lib.hid (CW.out x (List.mem_of_getElem? hx))
      have HH := Lib.hid (hasB_at (n := n) (s := s) hx)
      have HSk := Lib.hid (HSu.out k)
      have hk1 : (k : Int) < (m : Int) := by omega
      obtain ⟨xn, xs, xp, xr⟩ := x
      have hq := str_beqV xn n
      obtain ⟨bq, hbq⟩ : ∃ bq, decide (xn = n) = bq := ⟨_, rfl⟩
      simp only at c0 c1 CX HH
      unfold subB at HH
      obtain ⟨⟨bs, es⟩, hbs⟩ : ∃ r, subS xs s = r := ⟨_, rfl⟩
      obtain ⟨X, hX⟩ : ∃ X, str xn = X := ⟨_, rfl⟩
      obtain ⟨Y, hY⟩ : ∃ Y, str xs = Y := ⟨_, rfl⟩
      rw [hbq, hbs] at HH
      rw [hbs, hY] at CX
      rw [hX] at c0
      rw [hY] at c1
      rw [hX, HNN.out, hbq] at hq
      simp only at CX HH
      clear hx hbq hbs hX hY
      go_wp2_with fail
      refine (CX.out _).mono ?_
      rintro e w1 ⟨rfl, hb1⟩
      have hbw1 : Below w.heap.size w w1 := below_step hb hb1
      have HO1 : Hid (w1.ownsRow w.heap.size 3 1 (.slice va p vc) p (natC (C k))) := Lib.hid (own_below HO.out hb1)
      have d0 := (hb1.cell (p := ⟨g, off + k * 4, none⟩) hg).trans c0
      cases bq
      · have HT : Hid (C (k + 1) = C k) := Lib.hid (by rw [HSk.out, HH.out, if_neg (by simp), List.append_nil])
        go_wp2_with fail
        exact ⟨⟨k + 1, p, by go_num, by omega, Lib.hid (by rw [HT.out]; exact HP.out), by omega, Lib.hid (by rw [HT.out]; exact HO1.out), hbw1⟩, by simp [intOf]; omega⟩
      · cases bs
        · have HT : Hid (C (k + 1) = C k) := Lib.hid (by rw [HSk.out, HH.out, if_neg (by simp), List.append_nil])
          go_wp2_with fail
          exact ⟨⟨k + 1, p, by go_num, by omega, Lib.hid (by rw [HT.out]; exact HP.out), by omega, Lib.hid (by rw [HT.out]; exact HO1.out), hbw1⟩, by simp [intOf]; omega⟩
        · have HT : Hid (C (k + 1) = C k ++ [k]) := Lib.hid (by rw [HSk.out, HH.out, if_pos (by simp)])
          have HTn : Hid (natC (C (k + 1)) = natC (C k) ++ [.int .i64 (k : Int)]) := Lib.hid (by rw [HT.out, natC_snoc])
          have HP1 : Hid ((C (k + 1)).length = p + 1) := Lib.hid (by rw [HT.out, List.length_append, HP.out]; rfl)
          go_wp2_with (at_builtin; refine wpList_append_own _ rfl _ _ 34 rfl w.heap.size 3 i0 (.int .i64 0) 1 8 Try.underlying34 hi hj0 hj1 hj2 rfl (by decide) _ _ _ rfl (HO1.out.alloc _) ⟨w1.heap.size, 0, none⟩ 1 1 [.int .i64 (k : Int)] rfl rfl (new_cells w1 [.int .i64 (k : Int)] _) (by simp [Value.oneCell']) (by unfold maxLen; omega) (by omega) (by rw [World.size_alloc]; have := hbw1.size; omega) ?_; intro v4 w4 hown4 hgrow4 _; rw [← HTn.out] at hown4; have hb4 : Below w.heap.size w w4 := (hbw1.alloc hbw1.size _).grown hgrow4 (by rw [World.size_alloc]; have := hbw1.size; omega) (fun q hq => (HO1.out.lt q hq).1); have HO4 := Lib.hid hown4; clear hown4 hgrow4)
          exact ⟨⟨k + 1, p + 1, by go_num, by omega, HP1, by omega, HO4, hb4⟩, by simp [intOf]; omega⟩
    · obtain rfl : k = m := by omega
      go_wp2_with fail
      go_ret
      exact ⟨_, rfl, Lib.hid (by rw [HP.out]; exact HO.out), hb⟩
set_option maxRecDepth 100000 in
set_option maxHeartbeats 3200000 in
theorem rCandidates_any (v : Value) (T : List Bd) (n s : List UInt8) (w : World) (h : BsAt w v T) (hs : SmB T) (hs2 : s.length ≤ 100000) :
    Calls Try.prog 18 #[v, .string (str n), .string (str s)] w (GivesNE (candE T n s) w) := by
  have CW := Lib.hid (rasked_any v T s w h hs hs2)
  obtain ⟨a0, c0, hv, -⟩ := h.slice
  obtain ⟨NN, hNN⟩ : ∃ NN, str n = NN := ⟨_, rfl⟩
  obtain ⟨SS, hSS⟩ : ∃ SS, str s = SS := ⟨_, rfl⟩
  rw [hSS] at CW
  by_cases h0 : askB T s = 0
  · have ho := (ask_ok h0).1
    have CC := Lib.hid (fun W (hW : Below w.heap.size w W) => rcands_any v T n s W (h.below hW (Nat.le_refl _)) hs (by have := ho.few; omega) hs2)
    rw [candE_ok h0]
    rw [h0] at CW
    rw [hNN, hSS] at CC
    rw [hNN, hSS]
    obtain ⟨m, hm⟩ : ∃ m, T.length = m := ⟨_, rfl⟩
    rw [hm] at hv
    obtain ⟨C, hC⟩ : ∃ C, candB T n s = C := ⟨_, rfl⟩
    rw [hC] at CC ⊢
    subst hv
    clear h hs hs2 hNN hSS h0 ho hm hC
    go_enter Try.func18, Try.ntmps18
    go_wp2_with fail
    refine CW.out.mono ?_
    rintro e w1 ⟨rfl, hbw1⟩
    go_wp2_with fail
    refine (CC.out _ hbw1).mono ?_
    rintro e w2 ⟨va, rfl, HO, hb2⟩
    have HO2 : Hid (w2.ownsRow w.heap.size 3 1 va C.length (natC C)) := Lib.hid (World.ownsRow.mono HO.out hbw1.size)
    go_wp2_with fail
    go_ret2
    exact ⟨_, rfl, HO2, below_step hbw1 hb2⟩
  · rw [candE_no h0]
    rw [hNN, hSS]
    obtain ⟨m, hm⟩ : ∃ m, T.length = m := ⟨_, rfl⟩
    rw [hm] at hv
    obtain ⟨er, her⟩ : ∃ er, askB T s = er := ⟨_, rfl⟩
    rw [her] at CW h0 ⊢
    have hne : (er != 0) = true := bne_iff_ne.2 h0
    subst hv
    clear h hs hs2 hNN hSS h0 hm her
    go_enter Try.func18, Try.ntmps18
    go_wp2_with fail
    refine CW.out.mono ?_
    rintro e w1 ⟨rfl, hbw1⟩
    go_wp2_with fail
    go_ret2
    exact ⟨_, rfl, Lib.hid (own_nilV _ _ _ _), hbw1⟩
set_option maxRecDepth 100000 in
set_option maxHeartbeats 3200000 in
theorem rOfB_any (v : Value) (T : List Bd) (p r : Int) (w : World) (h : BsAt w v T) (hs : SmB T) :
    Calls Try.prog 25 #[v, .int .i64 p, .int .i64 r] w (GivesNE (ofE T p r) w) := by
  have HV := Lib.hid (fun W (hW : Below w.heap.size w W) => h.below hW (Nat.le_refl _))
  have CW := Lib.hid (rbCheck_any v T w h hs)
  unfold chkV at CW
  obtain ⟨a0, c0, rfl, hc⟩ := h.slice
  by_cases h0 : (chkB T).2 = 0
  · have ho := (chk_iff T).1 h0
    have hl : T.length ≤ 2000 := by have := ho.few; omega
    rw [ofE_ok h0]
    rw [chk_ok ho] at CW
    simp only at CW
    obtain ⟨m, hm⟩ : ∃ m, T.length = m := ⟨_, rfl⟩
    have HN := Lib.hid hm
    have HSu := Lib.hid (ofB_succ T p r)
    rw [hm] at hl hc CW HV ⊢
    obtain ⟨C, hC⟩ : ∃ C, ofB T p r = C := ⟨_, rfl⟩
    rw [hC] at HSu ⊢
    have HC0 : Hid (C 0 = []) := Lib.hid (by rw [← hC]; rfl)
    obtain ⟨i0, hi, hj0, hj1, hj2⟩ := info_parts2 infoInt
    clear h hm hs hC h0 ho
    go_enter Try.func25, Try.ntmps25
    go_wp2_with fail
    refine CW.out.mono ?_
    rintro e w0 ⟨rfl, hb0⟩
    go_wp2_with fail
    go_loopw [10, 11] (fun x10 x11 wr => ∃ (k q : Nat), x11 = .int .i64 (k : Int) ∧ k ≤ m ∧ Hid ((C k).length = q) ∧ q ≤ k ∧ Hid (wr.ownsRow w.heap.size 3 1 x10 q (natC (C k))) ∧ Below w.heap.size w wr) (fun _ x11 _ => m - (intOf x11).toNat)
    case atStart => exact ⟨0, 0, rfl, Nat.zero_le _, Lib.hid (by rw [HC0.out]; rfl), Nat.zero_le _, Lib.hid (by rw [HC0.out]; exact own_nilV _ _ _ _), hb0⟩
    case round =>
      obtain ⟨k, q, rfl, hk, HP, hp, HO, hb⟩ := hrel
      obtain ⟨va, vc, rfl⟩ := own_len HO.out
      have hk0 : (0 : Int) ≤ (k : Int) := Int.natCast_nonneg _
      by_cases hlt : k < m
      · obtain ⟨x, hx⟩ : ∃ x, T[k]? = some x := ⟨_, List.getElem?_eq_getElem (by rw [HN.out]; exact hlt)⟩
        obtain ⟨g, off, rfl, hg, _, _, c2, c3⟩ := (HV.out wr hb).node hx
        have HH := Lib.hid (isB_at (p := p) (r := r) hx)
        have HSk := Lib.hid (HSu.out k)
        have hk1 : (k : Int) < (m : Int) := by omega
        obtain ⟨xn, xs, xp, xr⟩ := x
        simp only at c2 c3 HH
        clear hx
        by_cases e1 : xp = p
        · have b1 : (xp == p) = true := beq_iff_eq.2 e1
          by_cases e2 : xr = r
          · have b2 : (xr == r) = true := beq_iff_eq.2 e2
            have HT : Hid (C (k + 1) = C k ++ [k]) := Lib.hid (by rw [HSk.out, HH.out, if_pos (by simp [e1, e2])])
            have HTn : Hid (natC (C (k + 1)) = natC (C k) ++ [.int .i64 (k : Int)]) := Lib.hid (by rw [HT.out, natC_snoc])
            have HP1 : Hid ((C (k + 1)).length = q + 1) := Lib.hid (by rw [HT.out, List.length_append, HP.out]; rfl)
            clear e1 e2
            go_wp2_with (at_builtin; refine wpList_append_own _ rfl _ _ 34 rfl w.heap.size 3 i0 (.int .i64 0) 1 8 Try.underlying34 hi hj0 hj1 hj2 rfl (by decide) _ _ _ rfl (HO.out.alloc _) ⟨wr.heap.size, 0, none⟩ 1 1 [.int .i64 (k : Int)] rfl rfl (new_cells wr [.int .i64 (k : Int)] _) (by simp [Value.oneCell']) (by unfold maxLen; omega) (by omega) (by rw [World.size_alloc]; have := hb.size; omega) ?_; intro v4 w4 hown4 hgrow4 _; rw [← HTn.out] at hown4; have hb4 : Below w.heap.size w w4 := (hb.alloc hb.size _).grown hgrow4 (by rw [World.size_alloc]; have := hb.size; omega) (fun q hq => (HO.out.lt q hq).1); have HO4 := Lib.hid hown4; clear hown4 hgrow4)
            exact ⟨⟨k + 1, q + 1, by go_num, by omega, HP1, by omega, HO4, hb4⟩, by simp [intOf]; omega⟩
          · have b2 : (xr == r) = false := beq_eq_false_iff_ne.2 e2
            have HT : Hid (C (k + 1) = C k) := Lib.hid (by rw [HSk.out, HH.out, if_neg (by simp [e2]), List.append_nil])
            clear e1 e2
            go_wp2_with fail
            exact ⟨⟨k + 1, q, by go_num, by omega, Lib.hid (by rw [HT.out]; exact HP.out), by omega, Lib.hid (by rw [HT.out]; exact HO.out), hb⟩, by simp [intOf]; omega⟩
        · have b1 : (xp == p) = false := beq_eq_false_iff_ne.2 e1
          have HT : Hid (C (k + 1) = C k) := Lib.hid (by rw [HSk.out, HH.out, if_neg (by simp [e1]), List.append_nil])
          clear e1
          go_wp2_with fail
          exact ⟨⟨k + 1, q, by go_num, by omega, Lib.hid (by rw [HT.out]; exact HP.out), by omega, Lib.hid (by rw [HT.out]; exact HO.out), hb⟩, by simp [intOf]; omega⟩
      · obtain rfl : k = m := by omega
        go_wp2_with fail
        go_ret2
        exact ⟨_, rfl, Lib.hid (by rw [HP.out]; exact HO.out), hb⟩
  · rw [ofE_no h0]
    obtain ⟨⟨i, er⟩, her⟩ : ∃ er, chkB T = er := ⟨_, rfl⟩
    rw [her] at CW h0 ⊢
    simp only at CW h0 ⊢
    have hne : (er != 0) = true := bne_iff_ne.2 h0
    obtain ⟨m, hm⟩ : ∃ m, T.length = m := ⟨_, rfl⟩
    rw [hm] at CW ⊢
    clear h hs h0 hm her HV hc
    go_enter Try.func25, Try.ntmps25
    go_wp2_with fail
    refine CW.out.mono ?_
    rintro e w1 ⟨rfl, hb1⟩
    go_wp2_with fail
    go_ret2
    exact ⟨_, rfl, Lib.hid (own_nilV _ _ _ _), hb1⟩
-- MARK9
end Go.Proofs.Ytbkkmcfpjpbhaaa
