/- binds.Candidates, Resolve, Of. -/
import Derived.Test.YtbkkmcfpjpbhaaaVf
import Derived.Deep.Onto
namespace Go.Proofs.Ytbkkmcfpjpbhaaa
open Go.RowKit Go.PlainAid

/-- A list of numbers and an error. -/
def GivesNE (r : List Nat × Int) (w : World) (e : Ending) (w' : World) : Prop := ∃ v, e = .returned (.tuple #[v, .int .i64 r.2]) ∧ Hid (w'.ownsRow w.heap.size 3 1 v r.1.length (natC r.1)) ∧ Below w.heap.size w w'
theorem own_nilV (W : World) (B : Nat) (t : TypeId) (z : Nat) : W.ownsRow B t z (.slice none 0 0) 0 [] := ⟨by rw [Nat.zero_mul]; rfl, .inl ⟨rfl, rfl⟩⟩
theorem new_cellsX (w : World) (l : List Value) (t : TypeId) (n : Nat) (hn : w.heap.size = n) : ∀ j u, l[j]? = some u → (w.alloc (.cells l.toArray t)).cell? ((⟨n, 0, none⟩ : Addr).add j) = some u := by
  subst hn; exact new_cells w l t
def candE (T : List Bd) (n s : List UInt8) : List Nat × Int := if askB T s ≠ 0 then ([], askB T s) else (candB T n s, 0)
def resE (T : List Bd) (n s : List UInt8) : Nat × Int := if askB T s ≠ 0 then (0, askB T s) else resB T n s
def ofE (T : List Bd) (p r : Int) : List Nat × Int := if (chkB T).2 ≠ 0 then ([], (chkB T).2) else (ofB T p r T.length, 0)
theorem candE_no {T : List Bd} {n s : List UInt8} (h : askB T s ≠ 0) : candE T n s = ([], askB T s) := by unfold candE; rw [if_pos h]
theorem candE_ok {T : List Bd} {n s : List UInt8} (h : askB T s = 0) : candE T n s = (candB T n s, 0) := by unfold candE; rw [if_neg (by simpa using h)]
theorem resE_no {T : List Bd} {n s : List UInt8} (h : askB T s ≠ 0) : resE T n s = (0, askB T s) := by unfold resE; rw [if_pos h]
theorem resE_ok {T : List Bd} {n s : List UInt8} (h : askB T s = 0) : resE T n s = resB T n s := by unfold resE; rw [if_neg (by simpa using h)]
theorem ofE_no {T : List Bd} {p r : Int} (h : (chkB T).2 ≠ 0) : ofE T p r = ([], (chkB T).2) := by unfold ofE; rw [if_pos h]
theorem ofE_ok {T : List Bd} {p r : Int} (h : (chkB T).2 = 0) : ofE T p r = (ofB T p r T.length, 0) := by unfold ofE; rw [if_neg (by simpa using h)]
theorem with_one (T : List Bd) (s : List UInt8) : withE T [s] = askB T s := by
  unfold withE askB setsE setsE
  by_cases h : chkE s = 0
  · rw [h]; simp
  · rw [if_pos h]
theorem with_none (T : List Bd) : withE T [] = (chkB T).2 := by
  unfold withE setsE
  by_cases h : (chkB T).2 = 0
  · rw [h]; simp
  · rw [if_pos h]
theorem ask_ok {T : List Bd} {s : List UInt8} (h : askB T s = 0) : OkB T ∧ chkE s = 0 := by
  by_cases h1 : (chkB T).2 = 0
  · rw [askB_ok h1] at h; exact ⟨(chk_iff T).1 h1, h⟩
  · rw [askB_no h1] at h; exact absurd h h1
set_option maxRecDepth 100000 in
set_option maxHeartbeats 3200000 in
theorem Candidates_any (v : Value) (T : List Bd) (n s : List UInt8) (w : World) (h : BsAt w v T) (hs : SmB T) (hs2 : s.length ≤ 100000) :
    Calls Try.prog 17 #[v, .string (str n), .string (str s)] w (GivesNE (candE T n s) w) := by
  have CW : Hid (∀ W v2, Below w.heap.size w W → SsAt W v2 [s] → Calls Try.prog 33 #[v, v2] W fun e w' => e = .returned (.int .i64 (askB T s)) ∧ Below W.heap.size W w') := Lib.hid fun W v2 hW h2 => by
    have := checkWith_any v v2 T [s] W (h.below hW (Nat.le_refl _)) hs h2 (by simpa using hs2) (by simp)
    rw [with_one] at this; exact this
  obtain ⟨a0, c0, hv, _⟩ := h.slice
  obtain ⟨NN, hNN⟩ : ∃ NN, str n = NN := ⟨_, rfl⟩
  obtain ⟨SS, hSS⟩ : ∃ SS, str s = SS := ⟨_, rfl⟩
  have HA : Hid (#[Value.string SS] = ([s].map fun x => Value.string (str x)).toArray) := Lib.hid (by rw [← hSS]; rfl)
  by_cases h0 : askB T s = 0
  · have ho := (ask_ok h0).1
    have CC := Lib.hid (fun W (hW : Below w.heap.size w W) => cands_any v T n s W (h.below hW (Nat.le_refl _)) hs (by have := ho.few; omega) hs2)
    rw [candE_ok h0]
    rw [h0] at CW
    rw [hNN, hSS] at CC
    rw [hNN, hSS]
    obtain ⟨m, hm⟩ : ∃ m, T.length = m := ⟨_, rfl⟩
    rw [hm] at hv
    obtain ⟨C, hC⟩ : ∃ C, candB T n s = C := ⟨_, rfl⟩
    rw [hC] at CC ⊢
    subst hv
    clear h hs hs2 hNN hSS h0 ho hm hC
    go_enter Try.func17, Try.ntmps17
    go_wp2_with fail
    -- MARK1
    refine (CW.out _ _ (below_b1 _ _) (ss_new w [s] 1 _ rfl _ HA.out _ rfl)).mono ?_
    rintro e w1 ⟨rfl, hb1⟩
    have hbw1 : Below w.heap.size w w1 := (below_b1 w _).trans (hb1.mono (below_b1 w _).size)
    go_wp2_with fail
    refine (CC.out _ hbw1).mono ?_
    rintro e w2 ⟨va, rfl, HO, hb2⟩
    have HO2 : Hid (w2.ownsRow w.heap.size 3 1 va C.length (natC C)) := Lib.hid (World.ownsRow.mono HO.out hbw1.size)
    go_wp2_with fail
    go_ret2
    exact ⟨_, rfl, HO2, below_step hbw1 hb2⟩
  · rw [candE_no h0]
    rw [hNN, hSS]
    obtain ⟨m, hm⟩ : ∃ m, T.length = m := ⟨_, rfl⟩
    rw [hm] at hv
    obtain ⟨er, her⟩ : ∃ er, askB T s = er := ⟨_, rfl⟩
    rw [her] at CW h0 ⊢
    have hne : (er != 0) = true := bne_iff_ne.2 h0
    subst hv
    clear h hs hs2 hNN hSS h0 hm her
    go_enter Try.func17, Try.ntmps17
    go_wp2_with fail
    refine (CW.out _ _ (below_b1 _ _) (ss_new w [s] 1 _ rfl _ HA.out _ rfl)).mono ?_
    rintro e w1 ⟨rfl, hb1⟩
    have hbw1 : Below w.heap.size w w1 := (below_b1 w _).trans (hb1.mono (below_b1 w _).size)
    go_wp2_with fail
    go_ret2
    exact ⟨_, rfl, Lib.hid (own_nilV _ _ _ _), hbw1⟩
set_option maxRecDepth 100000 in
set_option maxHeartbeats 3200000 in
theorem Resolve_any (v : Value) (T : List Bd) (n s : List UInt8) (w : World) (h : BsAt w v T) (hs : SmB T) (hs2 : s.length ≤ 100000) :
    Calls Try.prog 19 #[v, .string (str n), .string (str s)] w fun e w' => e = .returned (resV (resE T n s)) ∧ Below w.heap.size w w' := by
  have CW : Hid (∀ W v2, Below w.heap.size w W → SsAt W v2 [s] → Calls Try.prog 33 #[v, v2] W fun e w' => e = .returned (.int .i64 (askB T s)) ∧ Below W.heap.size W w') := Lib.hid fun W v2 hW h2 => by
    have := checkWith_any v v2 T [s] W (h.below hW (Nat.le_refl _)) hs h2 (by simpa using hs2) (by simp)
    rw [with_one] at this; exact this
  obtain ⟨a0, c0, hv, _⟩ := h.slice
  obtain ⟨NN, hNN⟩ : ∃ NN, str n = NN := ⟨_, rfl⟩
  obtain ⟨SS, hSS⟩ : ∃ SS, str s = SS := ⟨_, rfl⟩
  have HA : Hid (#[Value.string SS] = ([s].map fun x => Value.string (str x)).toArray) := Lib.hid (by rw [← hSS]; rfl)
  by_cases h0 : askB T s = 0
  · have ho := (ask_ok h0).1
    have CC := Lib.hid (fun W (hW : Below w.heap.size w W) => resolve_any v T n s W (h.below hW (Nat.le_refl _)) hs ho hs2)
    rw [resE_ok h0]
    rw [h0] at CW
    rw [hNN, hSS] at CC
    rw [hNN, hSS]
    obtain ⟨m, hm⟩ : ∃ m, T.length = m := ⟨_, rfl⟩
    rw [hm] at hv
    obtain ⟨C, hC⟩ : ∃ C, resB T n s = C := ⟨_, rfl⟩
    rw [hC] at CC ⊢
    unfold resV at CC ⊢
    subst hv
    clear h hs hs2 hNN hSS h0 ho hm hC
    go_enter Try.func19, Try.ntmps19
    go_wp2_with fail
    -- MARK1
    refine (CW.out _ _ (below_b1 _ _) (ss_new w [s] 1 _ rfl _ HA.out _ rfl)).mono ?_
    rintro e w1 ⟨rfl, hb1⟩
    have hbw1 : Below w.heap.size w w1 := (below_b1 w _).trans (hb1.mono (below_b1 w _).size)
    go_wp2_with fail
    refine (CC.out _ hbw1).mono ?_
    rintro e w2 ⟨rfl, hb2⟩
    go_wp2_with fail
    go_ret2
    exact ⟨rfl, below_step hbw1 hb2⟩
  · rw [resE_no h0]
    rw [hNN, hSS]
    obtain ⟨m, hm⟩ : ∃ m, T.length = m := ⟨_, rfl⟩
    rw [hm] at hv
    obtain ⟨er, her⟩ : ∃ er, askB T s = er := ⟨_, rfl⟩
    rw [her] at CW h0 ⊢
    have hne : (er != 0) = true := bne_iff_ne.2 h0
    subst hv
    clear h hs hs2 hNN hSS h0 hm her
    go_enter Try.func19, Try.ntmps19
    go_wp2_with fail
    refine (CW.out _ _ (below_b1 _ _) (ss_new w [s] 1 _ rfl _ HA.out _ rfl)).mono ?_
    rintro e w1 ⟨rfl, hb1⟩
    have hbw1 : Below w.heap.size w w1 := (below_b1 w _).trans (hb1.mono (below_b1 w _).size)
    go_wp2_with fail
    go_ret2
    exact ⟨rfl, hbw1⟩
set_option maxRecDepth 100000 in
set_option maxHeartbeats 3200000 in
theorem Of_any (v : Value) (T : List Bd) (p r : Int) (w : World) (h : BsAt w v T) (hs : SmB T) :
    Calls Try.prog 24 #[v, .int .i64 p, .int .i64 r] w (GivesNE (ofE T p r) w) := by
  have HV := Lib.hid (fun W (hW : Below w.heap.size w W) => h.below hW (Nat.le_refl _))
  have CW : Hid (Calls Try.prog 33 #[v, .slice none 0 0] w fun e w' => e = .returned (.int .i64 (chkB T).2) ∧ Below w.heap.size w w') := Lib.hid (by
    have := checkWith_any v (.slice none 0 0) T [] w h hs (ss_nil w) (by simp) (by simp)
    rw [with_none] at this; exact this)
  obtain ⟨a0, c0, rfl, hc⟩ := h.slice
  by_cases h0 : (chkB T).2 = 0
  · have ho := (chk_iff T).1 h0
    have hl : T.length ≤ 2000 := by have := ho.few; omega
    rw [ofE_ok h0]
    rw [h0] at CW
    obtain ⟨m, hm⟩ : ∃ m, T.length = m := ⟨_, rfl⟩
    have HN := Lib.hid hm
    have HSu := Lib.hid (ofB_succ T p r)
    rw [hm] at hl hc CW HV ⊢
    obtain ⟨C, hC⟩ : ∃ C, ofB T p r = C := ⟨_, rfl⟩
    rw [hC] at HSu ⊢
    have HC0 : Hid (C 0 = []) := Lib.hid (by rw [← hC]; rfl)
    obtain ⟨i0, hi, hj0, hj1, hj2⟩ := info_parts2 infoInt
    clear h hm hs hC h0 ho
    go_enter Try.func24, Try.ntmps24
    go_wp2_with fail
    refine CW.out.mono ?_
    rintro e w0 ⟨rfl, hb0⟩
    go_wp2_with fail
    -- MARK5
    go_loopw [9, 19] (fun x9 x19 wr => ∃ (k q : Nat), x19 = .int .i64 (k : Int) ∧ k ≤ m ∧ Hid ((C k).length = q) ∧ q ≤ k ∧ Hid (wr.ownsRow w.heap.size 3 1 x9 q (natC (C k))) ∧ Below w.heap.size w wr) (fun _ x19 _ => m - (intOf x19).toNat)
    case atStart => exact ⟨0, 0, rfl, Nat.zero_le _, Lib.hid (by rw [HC0.out]; rfl), Nat.zero_le _, Lib.hid (by rw [HC0.out]; exact own_nilV _ _ _ _), hb0⟩
    case round =>
      obtain ⟨k, q, rfl, hk, HP, hp, HO, hb⟩ := hrel
      obtain ⟨va, vc, rfl⟩ := own_len HO.out
      have hk0 : (0 : Int) ≤ (k : Int) := Int.natCast_nonneg _
      by_cases hlt : k < m
      · obtain ⟨x, hx⟩ : ∃ x, T[k]? = some x := ⟨_, List.getElem?_eq_getElem (by rw [HN.out]; exact hlt)⟩
        obtain ⟨g, off, rfl, hg, c0, c1, c2, c3⟩ := (HV.out wr hb).node hx
        have HH := Lib.hid (isB_at (p := p) (r := r) hx)
        have HSk := Lib.hid (HSu.out k)
        have hk1 : (k : Int) < (m : Int) := by omega
        obtain ⟨xn, xs, xp, xr⟩ := x
        obtain ⟨X, hX⟩ : ∃ X, str xn = X := ⟨_, rfl⟩
        obtain ⟨Y, hY⟩ : ∃ Y, str xs = Y := ⟨_, rfl⟩
        simp only at c0 c1 c2 c3 HH
        rw [hX] at c0
        rw [hY] at c1
        have hbx := World.alloc_heap_new wr (.cells #[.string X, .string Y, .int .i64 xp, .int .i64 xr] 24)
        have hba : Below w.heap.size w (wr.alloc (.cells #[.string X, .string Y, .int .i64 xp, .int .i64 xr] 24)) := hb.alloc hb.size _
        have HOa : Hid ((wr.alloc (.cells #[.string X, .string Y, .int .i64 xp, .int .i64 xr] 24)).ownsRow w.heap.size 3 1 (.slice va q vc) q (natC (C k))) := Lib.hid (HO.out.alloc _)
        clear hx hX hY
        by_cases e1 : xp = p
        · have b1 : (xp == p) = true := beq_iff_eq.2 e1
          by_cases e2 : xr = r
          · have b2 : (xr == r) = true := beq_iff_eq.2 e2
            have HT : Hid (C (k + 1) = C k ++ [k]) := Lib.hid (by rw [HSk.out, HH.out, if_pos (by simp [e1, e2])])
            have HTn : Hid (natC (C (k + 1)) = natC (C k) ++ [.int .i64 (k : Int)]) := Lib.hid (by rw [HT.out, natC_snoc])
            have HP1 : Hid ((C (k + 1)).length = q + 1) := Lib.hid (by rw [HT.out, List.length_append, HP.out]; rfl)
            clear e1 e2 hbx
            go_wp2_with (at_builtin; refine wpList_append_own _ rfl _ _ 34 rfl w.heap.size 3 i0 (.int .i64 0) 1 8 Try.underlying34 hi hj0 hj1 hj2 rfl (by decide) _ _ _ rfl (HOa.out.alloc _) ⟨wr.heap.size + 1, 0, none⟩ 1 1 [.int .i64 (k : Int)] rfl rfl (new_cellsX _ [.int .i64 (k : Int)] _ _ (World.size_alloc _ _)) (by simp [Value.oneCell']) (by unfold maxLen; omega) (by omega) (by rw [World.size_alloc]; have := hba.size; omega) ?_; intro v4 w4 hown4 hgrow4 _; rw [← HTn.out] at hown4; have hb4 : Below w.heap.size w w4 := (hba.alloc hba.size _).grown hgrow4 (by rw [World.size_alloc]; have := hba.size; omega) (fun q hq => (HOa.out.lt q hq).1); have HO4 := Lib.hid hown4; clear hown4 hgrow4)
            exact ⟨⟨k + 1, q + 1, by go_num, by omega, HP1, by omega, HO4, hb4⟩, by simp [intOf]; omega⟩
          · have b2 : (xr == r) = false := beq_eq_false_iff_ne.2 e2
            have HT : Hid (C (k + 1) = C k) := Lib.hid (by rw [HSk.out, HH.out, if_neg (by simp [e2]), List.append_nil])
            clear e1 e2
            go_wp2_with fail
            exact ⟨⟨k + 1, q, by go_num, by omega, Lib.hid (by rw [HT.out]; exact HP.out), by omega, Lib.hid (by rw [HT.out]; exact HOa.out), hba⟩, by simp [intOf]; omega⟩
        · have b1 : (xp == p) = false := beq_eq_false_iff_ne.2 e1
          have HT : Hid (C (k + 1) = C k) := Lib.hid (by rw [HSk.out, HH.out, if_neg (by simp [e1]), List.append_nil])
          clear e1
          go_wp2_with fail
          exact ⟨⟨k + 1, q, by go_num, by omega, Lib.hid (by rw [HT.out]; exact HP.out), by omega, Lib.hid (by rw [HT.out]; exact HOa.out), hba⟩, by simp [intOf]; omega⟩
      · obtain rfl : k = m := by omega
        go_wp2_with fail
        go_ret2
        exact ⟨_, rfl, Lib.hid (by rw [HP.out]; exact HO.out), hb⟩
  · rw [ofE_no h0]
    obtain ⟨er, her⟩ : ∃ er, (chkB T).2 = er := ⟨_, rfl⟩
    rw [her] at CW h0 ⊢
    have hne : (er != 0) = true := bne_iff_ne.2 h0
    obtain ⟨m, hm⟩ : ∃ m, T.length = m := ⟨_, rfl⟩
    rw [hm] at CW ⊢
    clear h hs h0 hm her HV hc
    go_enter Try.func24, Try.ntmps24
    go_wp2_with fail
    refine CW.out.mono ?_
    rintro e w1 ⟨rfl, hb1⟩
    go_wp2_with fail
    go_ret2
    exact ⟨_, rfl, Lib.hid (own_nilV _ _ _ _), hb1⟩
-- MARK9
end Go.Proofs.Ytbkkmcfpjpbhaaa
