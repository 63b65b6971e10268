/- The reference's Symbols. -/
import Derived.Test.YtkngkajojcmmlaaGreatDoorZl
import Derived.Deep.RegionHeld3
import Derived.Lib.AppendZeros
import Derived.Sort.Walk0
namespace Go.Proofs.YtkngkajojcmmlaaGreatDoor
open Go.RowKit Go.Shelf Go.PlainAid

theorem step_append_run {P : Program} {ops : Array Oper} {o : Oper} {a : Act} {w : World} {K : Act → World → Prop} {Q : Exit → Act → World → Prop} {E : Prop} (hgd : o.guard = none) (s x : Operand) (t tn : TypeId)
    (ho : o.op = .call { callee := .builtin .append, args := #[s, x], argTypes := #[t, tn] }) (vs vx : Value) (hs : a.eval s = vs) (hx : a.eval x = vx)
    (v' : Value) (w' : World) (hr : (Builtin.append_ #[t, tn] o.type #[vs, vx]).run P w = .ok v' w') (h : K (a.put o.dst v') w') :
    if Region.wanted o (yielded ops a.tmps) = true then Oper.wp P o a w K Q else E := by
  have hw : Region.wanted o (yielded ops a.tmps) = true := by simp [Region.wanted, hgd]
  rw [if_pos hw]
  exact Lib.wp_append_run w s x t tn ho vs vx hs hx v' w' hr h
/-- Strings put behind a row of the call's own. -/
theorem app_str (W : World) (B n k c : Nat) (v : Value) (a : Option Addr) (xs ys : Ls) (ho : W.ownsRow B 9 1 v n (strV xs)) (hnil : a = none → k = 0 ∧ c = 0)
    (hc : ∀ ad, a = some ad → ∀ (j : Nat) (u : Value), (strV ys)[j]? = some u → W.cell? (ad.add j) = some u) (hk : ys.length = k) (hb : n + k ≤ 2000) (hB : B ≤ W.heap.size) :
    ∃ (a' : Option Addr) (c' : Nat) (w' : World), (Builtin.append_ #[23, 23] 23 #[v, .slice a k c]).run Tryz.prog W = .ok (.slice a' (n + k) c') w' ∧ w'.ownsRow B 9 1 (.slice a' (n + k) c') (n + k) (strV (xs ++ ys)) ∧ Below B W w' := by
  obtain ⟨i0, hi, hz0, hz1, hz2⟩ := info_parts2 infoStr
  cases a with
  | none =>
    obtain ⟨rfl, rfl⟩ := hnil rfl
    have hys := List.length_eq_zero_iff.1 hk
    subst hys
    have hr := run_append_owned_none (P := Tryz.prog) (w := W) B 23 23 9 i0 1 Tryz.underlying23 hi v n (strV xs) ho
    obtain ⟨a', c', rfl⟩ := own_len ho
    exact ⟨a', c', W, hr, by rw [List.append_nil]; exact ho, Below.refl _ _⟩
  | some ad =>
    obtain ⟨v', w', hr, h2, h3, _⟩ := run_append_own (P := Tryz.prog) W B 23 23 9 i0 (.string ⟨#[]⟩) 1 16 Tryz.underlying23 hi hz0 hz1 hz2 rfl (by decide) v n (strV xs) ho ad k c (strV ys) (by rw [strV_len, hk, Nat.mul_one]) (hc ad rfl) (fun u hu => by obtain ⟨q, _, rfl⟩ := List.mem_map.1 hu; simp [Value.oneCell']) (by unfold maxLen; omega) (by omega) hB
    rw [← strV_app] at h2
    obtain ⟨a', c', rfl⟩ := own_len h2
    exact ⟨a', c', w', hr, h2, (Below.refl B W).grown h3 hB (fun j hj => (ho.lt j hj).1)⟩
theorem step_append_ex {P : Program} {ops : Array Oper} {o : Oper} {a : Act} {w : World} {K : Act → World → Prop} {Q : Exit → Act → World → Prop} {E : Prop} (hgd : o.guard = none) (s x : Operand) (t tn : TypeId)
    (ho : o.op = .call { callee := .builtin .append, args := #[s, x], argTypes := #[t, tn] }) (vs : Value) (va : Option Addr) (k c : Nat) (hs : a.eval s = vs) (hx : a.eval x = .slice va k c)
    {R : Value → World → Prop} (hr : ∃ v' w', (Builtin.append_ #[t, tn] o.type #[vs, .slice va k c]).run P w = .ok v' w' ∧ R v' w') (h : ∀ v' w', R v' w' → K (a.put o.dst v') w') :
    if Region.wanted o (yielded ops a.tmps) = true then Oper.wp P o a w K Q else E := by
  obtain ⟨v', w', h1, h2⟩ := hr
  exact step_append_run hgd s x t tn ho vs _ hs hx v' w' h1 (h v' w' h2)
theorem str_drop_at {l : Ls} {q j : Nat} {u : Value} (h : (strV (l.drop q))[j]? = some u) : (strV l)[q + j]? = some u := by
  unfold strV at h ⊢
  rw [List.getElem?_map] at h ⊢
  rw [List.getElem?_drop] at h
  exact h
theorem str_take_at {l : Ls} {q j : Nat} {u : Value} (h : (strV (l.take q))[j]? = some u) : (strV l)[j]? = some u := by
  unfold strV at h ⊢
  rw [List.getElem?_map, List.getElem?_take] at h
  rw [List.getElem?_map]
  split at h
  · exact h
  · cases h
/-- What the three appends of one insertion do. -/
theorem ins_run (wz : World) (B q m cb : Nat) (b : Option Addr) (l : Ls) (s : List UInt8) (zs : ByteArray) (hzs : str s = zs) (ho : wz.ownsRow B 9 1 (.slice b m cb) m (strV l)) (hl : l.length = m) (hq : q ≤ m) (hm : m ≤ 400) (hB : B ≤ wz.heap.size)
    (k : Nat) (hk : k = m - q) (a : Option Addr) (c : Nat) (ha : (a = none ∧ c = 0 ∧ m = 0) ∨ ∃ ad, a = some ad ∧ (m = q ∨ ∃ gb, b = some ⟨gb, 0, none⟩ ∧ ad = ⟨gb, q, none⟩)) :
    ∃ v3 w3, (Builtin.append_ #[23, 23] 23 #[.slice (some ⟨wz.heap.size, 0, none⟩) 1 1, .slice a k c]).run Tryz.prog (wz.alloc (.cells #[.string zs] 9)).drew = .ok v3 w3 ∧
      (Below wz.heap.size wz w3 ∧ ∃ a3 c3 a5 c5 w5 a6 c6 w6, v3 = .slice a3 (1 + k) c3 ∧
        (Builtin.append_ #[23, 23] 23 #[.slice (some ⟨w3.heap.size, 0, none⟩) 0 0, .slice b q cb]).run Tryz.prog (w3.alloc (.cells #[] 9)) = .ok (.slice a5 q c5) w5 ∧
        (Builtin.append_ #[23, 23] 23 #[.slice a5 q c5, .slice a3 (1 + k) c3]).run Tryz.prog w5 = .ok (.slice a6 (m + 1) c6) w6 ∧
        w6.ownsRow B 9 1 (.slice a6 (m + 1) c6) (m + 1) (strV (insS l q s)) ∧ Below B wz w6) := by
  subst hzs hk
  have hA : Below wz.heap.size wz (wz.alloc (.cells #[.string (str s)] 9)).drew := ((Below.refl _ wz).alloc (Nat.le_refl _) _).drew
  have o1 : (wz.alloc (.cells #[.string (str s)] 9)).drew.ownsRow wz.heap.size 9 1 (.slice (some ⟨wz.heap.size, 0, none⟩) 1 1) 1 (strV [s]) := own_mk wz [.string (str s)] 9 1 rfl (by decide)
  obtain ⟨a3, c3, w3, r3, o3, b3⟩ := app_str _ wz.heap.size 1 (m - q) c _ a [s] (l.drop q) o1 (by
      rcases ha with ⟨_, h2, h3⟩ | ⟨ad, h2, _⟩
      · exact fun _ => ⟨by omega, h2⟩
      · rw [h2]; exact fun h => by cases h) (fun ad had j u hj => by
      rcases ha with ⟨h1, _⟩ | ⟨ad', h1, h2⟩
      · rw [h1] at had; cases had
      · rw [h1] at had
        cases had
        rcases h2 with h2 | ⟨gb, rfl, rfl⟩
        · rw [List.drop_of_length_le (by omega)] at hj; cases hj
        · rw [Go.WideShapes.add_plain]
          exact own_cell (own_below ho hA) (str_drop_at hj)) (by rw [List.length_drop, hl]) (by omega) hA.size
  refine ⟨_, w3, r3, hA.trans b3, a3, c3, ?_⟩
  have hB3 : Below B wz w3 := (hA.mono hB).trans (b3.mono hB)
  have hB3' : Below wz.heap.size wz w3 := hA.trans b3
  have hB4 : Below B wz (w3.alloc (.cells #[] 9)) := hB3.alloc (Nat.le_trans hB hB3.size) _
  have hB4' : Below wz.heap.size wz (w3.alloc (.cells #[] 9)) := hB3'.alloc hB3'.size _
  have h34 : Below w3.heap.size w3 (w3.alloc (.cells #[] 9)) := (Below.refl _ w3).alloc (Nat.le_refl _) _
  have hBs : B ≤ w3.heap.size := Nat.le_trans hB hB3.size
  obtain ⟨a5, c5, w5, r5, o5, b5⟩ := app_str (w3.alloc (.cells #[] 9)) w3.heap.size 0 q cb _ b [] (l.take q) (own_empty w3 9 1 w3.heap.size (Nat.le_refl _)) (by
      rcases own_form ho with ⟨e, h0⟩ | ⟨g, c', e, _⟩
      · exact fun _ => ⟨by omega, by cases e; rfl⟩
      · exact fun h => by rw [h] at e; cases e) (fun ad had j u hj => by
      rcases own_form ho with ⟨e, h0⟩ | ⟨g, c', e, _⟩
      · rw [had] at e; cases e
      · rw [had] at e
        cases e
        subst had
        rw [Go.WideShapes.add_plain, Nat.zero_add]
        exact own_cell (own_below ho hB4') (str_take_at hj)) (by rw [List.length_take, hl]; omega) (by omega) h34.size
  rw [Nat.zero_add] at r5 o5
  rw [List.nil_append] at o5
  have o3' := own_below o3 (h34.trans b5)
  obtain ⟨a6, c6, w6, r6, o6, b6⟩ := app_str w5 w3.heap.size q (1 + (m - q)) c3 _ a3 (l.take q) ([s] ++ l.drop q) o5 (by
      rcases own_form o3 with ⟨e, h0⟩ | ⟨g, c', e, _⟩
      · omega
      · exact fun h => by rw [h] at e; cases e) (fun ad had j u hj => by
      rcases own_form o3 with ⟨e, h0⟩ | ⟨g, c', e, _⟩
      · omega
      · rw [had] at e
        cases e
        subst had
        rw [Go.WideShapes.add_plain, Nat.zero_add]
        exact own_cell o3' hj) (by rw [List.length_append, List.length_drop, hl]; rfl) (by omega) (Nat.le_trans h34.size b5.size)
  rw [show q + (1 + (m - q)) = m + 1 by omega] at r6 o6
  exact ⟨a5, c5, w5, a6, c6, w6, rfl, r5, r6, ⟨o6.1, o6.2.imp id fun ⟨g, cap, cur, e, hg, h⟩ => ⟨g, cap, cur, e, Nat.le_trans hBs hg, h⟩⟩, (hB4.trans (b5.mono hBs)).trans (b6.mono hBs)⟩
theorem sym_asc {l m : Ls} (h : SymS m l) {k j : Nat} {x y : List UInt8} (hkj : k < j) (hx : l[k]? = some x) (hy : l[j]? = some y) : x < y := by
  obtain ⟨h1, e1⟩ := List.getElem?_eq_some_iff.1 hx
  obtain ⟨h2, e2⟩ := List.getElem?_eq_some_iff.1 hy
  rw [← e1, ← e2]
  exact List.pairwise_iff_getElem.1 h.1 k j h1 h2 hkj
theorem blt_dec (x y : List UInt8) : Op.bytesLess (str x).toList (str y).toList = decide (x < y) := by
  rw [ByteArray.toList_eq, ByteArray.toList_eq, str_list, str_list]; exact bytesLess_eq x y
set_option maxRecDepth 50000 in
set_option maxHeartbeats 6400000 in
theorem rSymbols_any (v : Value) (t : List Nd) (w : World) (h : NdsAt w v t) (KB : KidsB t) :
    Calls Tryz.prog 10 #[v] w (SymV t w) := by
  have C1 := Lib.hid (RCheck_any symS v t w h (Lib.hid (rsymAll w)) (Lib.hid KB))
  unfold chkTV at C1
  obtain ⟨ci, hci⟩ : ∃ ci, (chkT symS t).1 = ci := ⟨_, rfl⟩
  rw [hci] at C1
  by_cases hc : (chkT symS t).2 = 0
  · have h400 := (chkT_ok hc).2.2.1
    obtain ⟨g, o, c, rfl, hg, hcl⟩ := h.some (chkT_ok hc).2.1
    have HC := Lib.hid hcl
    have HK := Lib.hid hc
    rw [hc] at C1
    obtain ⟨n, hn⟩ : ∃ n, t.length = n := ⟨_, rfl⟩
    have HN := Lib.hid hn
    rw [hn] at C1 h400 ⊢
    clear hn h hcl hc KB hci
    go_enter Tryz.func10, Tryz.ntmps10
    go_wp2_with fail
    refine C1.out.mono ?_
    rintro e w2 ⟨rfl, hB2⟩
    clear C1
    go_wp2_with fail
    -- MARK1
    obtain ⟨B, hB⟩ : ∃ B, w2.heap.size = B := ⟨_, rfl⟩
    have HB0 : Hid (w2.heap.size = B) := Lib.hid hB
    have HwB : Hid (w.heap.size ≤ B) := Lib.hid (by rw [← hB]; exact hB2.size)
    have hbel0 : Below B w2 w2 := Below.refl _ _
    clear hB
    go_loopw [6, 7] (fun x6 x7 wr => ∃ (i m : Nat) (b : Option Addr) (cb : Nat) (l : Ls), x7 = .int .i64 (i : Int) ∧ x6 = .slice b m cb ∧ i ≤ n ∧ m ≤ i ∧ Hid (l.length = m) ∧ Hid (SymS (symL (t.take i)) l) ∧ Hid (wr.ownsRow B 9 1 (.slice b m cb) m (strV l)) ∧ Hid (Below B w2 wr)) (fun _ x7 _ => n - (intOf x7).toNat)
    case atStart => exact ⟨0, 0, none, 0, [], rfl, rfl, Nat.zero_le _, Nat.le_refl _, Lib.hid rfl, Lib.hid ⟨List.Pairwise.nil, fun x => by rw [List.take_zero]; exact Iff.rfl⟩, Lib.hid ⟨rfl, .inl ⟨rfl, rfl⟩⟩, Lib.hid hbel0⟩
    case round =>
      obtain ⟨i, m, b, cb, l, rfl, rfl, hi, hmi, HL, HSy, HO, HBr⟩ := hrel
      have hBr := HBr.out
      have hbw : Below w.heap.size w wr := hB2.trans (hBr.mono HwB.out)
      have hszB : B ≤ wr.heap.size := by have := hBr.size; have := HB0.out; omega
      have hi0 : (0 : Int) ≤ (i : Int) := Int.natCast_nonneg _
      obtain ⟨wo, hwo⟩ : ∃ x, x = wr := ⟨_, rfl⟩
      subst hwo
      by_cases hlt : i < n
      · obtain ⟨x, hx⟩ : ∃ x, t[i]? = some x := ⟨_, List.getElem?_eq_getElem (by rw [HN.out]; exact hlt)⟩
        obtain ⟨d0, _, _, d3⟩ := dcs_at t hx
        have HX : Hid (∀ W, Below wo.heap.size wo W → W.cell? ⟨g, o + i * 4 + 3, none⟩ = some (.string (str x.2.2.2))) := Lib.hid fun W hW => by
          have hb := hbw.trans (hW.mono hbw.size)
          have := (hb.cell (p := ⟨g, o + (i * 4 + 3), none⟩) hg).trans (HC.out _ _ d3)
          rwa [← Nat.add_assoc] at this
        have c0 := (hbw.cell (p := ⟨g, o + i * 4, none⟩) hg).trans (HC.out _ _ d0)
        have HS := Lib.hid (symL_take hx)
        obtain ⟨x0, x1, x2, s⟩ := x
        simp only at c0 HX HS
        have hi1 : (i : Int) < (n : Int) := by omega
        have hd : decide ((i : Int) < (n : Int)) = true := decide_eq_true hi1
        clear d0 d3 hx hB2 hbel0
        by_cases h3 : x0 = 3
        · subst h3
          have hst : symL (t.take (i + 1)) = symL (t.take i) ++ [s] := by rw [HS.out, if_pos rfl]
          have HSt := Lib.hid hst
          have HCl : Hid (∀ W, Below wo.heap.size wo W → ∀ (k : Nat) (y : List UInt8), l[k]? = some y → ∃ gb, b = some ⟨gb, 0, none⟩ ∧ W.cell? ⟨gb, k, none⟩ = some (.string (str y))) := Lib.hid fun W hW k y hy => by
            have ho := own_below HO.out hW
            rcases own_form ho with ⟨_, h0⟩ | ⟨gb, cc, e, _, _⟩
            · have := (List.getElem?_eq_some_iff.1 hy).1; rw [HL.out] at this; omega
            · obtain ⟨rfl, _, rfl⟩ := Value.slice.inj e
              exact ⟨gb, rfl, own_cell ho (strV_at hy)⟩
          clear hst
          go_wp2_with fail
          -- MARK2
          go_loopw [8] (fun x8 wr => ∃ j : Nat, x8 = .int .i64 (j : Int) ∧ j ≤ m ∧ Hid (∀ (k : Nat) y, j ≤ k → l[k]? = some y → s < y) ∧ Below wo.heap.size wo wr) (fun x8 _ => (intOf x8).toNat)
          case atStart => exact ⟨m, rfl, Nat.le_refl _, Lib.hid (fun k y h1 h2 => by have := (List.getElem?_eq_some_iff.1 h2).1; rw [HL.out] at this; omega), Below.refl _ _⟩
          case round =>
            obtain ⟨j, rfl, hj, HJ, hbj⟩ := hrel
            have hj0 : (0 : Int) ≤ (j : Int) := Int.natCast_nonneg _
            have e3 := HX.out _ hbj
            cases j with
            | zero =>
              have HIns : Hid (SymS (symL (t.take (i + 1))) (insS l 0 s)) := Lib.hid (by rw [HSt.out]; exact ins_sym HSy.out (fun k x h => by omega) (fun k x _ h => HJ.out k x (Nat.zero_le _) h))
              have hoj := own_below HO.out hbj
              have hd0 : decide ((0 : Int) < ((0 : Nat) : Int)) = false := decide_eq_false (by omega)
              obtain ⟨zs, hzs⟩ : ∃ z, str s = z := ⟨_, rfl⟩
              rw [hzs] at e3
              have HZ := Lib.hid hzs
              rcases own_form hoj with ⟨e, rfl⟩ | ⟨gb, cb', e, _, _⟩
              · cases e
                clear hzs hoj
                go_wp2_with fail
                go_quiet (fail)
                go_wp2_with fail
                obtain ⟨wy, hwy⟩ : ∃ x, x = wr.drewN nq := ⟨_, rfl⟩
                have hby : Below wo.heap.size wo wy := by rw [hwy]; exact hbj.trans ((below_drewN wr nq).mono hbj.size)
                rw [← hwy]
                clear hwy
                have e3y := HX.out _ hby
                rw [HZ.out] at e3y
                go_wp2_with fail
                go_quiet (fail)
                go_wp2_with fail
                obtain ⟨wz, hwz⟩ : ∃ x, x = wy.drewN nq := ⟨_, rfl⟩
                have hbz : Below wo.heap.size wo wz := by rw [hwz]; exact hby.trans ((below_drewN wy nq).mono hby.size)
                rw [← hwz]
                clear hwz
                have e3z := HX.out _ hbz
                rw [HZ.out] at e3z
                have hgz : g < wz.heap.size := Nat.lt_of_lt_of_le hg (Nat.le_trans hbw.size hbz.size)
                have HR := Lib.hid (ins_run wz B 0 0 0 none l s zs HZ.out (own_below HO.out hbz) HL.out (by omega) (by omega) (by have := hbz.size; omega))
                have HFi := Lib.hid ((HBr.out.trans (hbz.mono hszB)))
                -- MARKA2
                go_region_held3 (fun w' => w'.cell? ⟨g, o + i * 4 + 3, none⟩ = some (.string zs)) (go_keep) (first
                  | (refine step_append_ex rfl _ _ _ _ rfl _ _ _ _ rfl rfl (HR.out _ (by omega) _ _ (by first | exact .inl ⟨rfl, rfl, rfl⟩ | exact .inr ⟨_, rfl, .inl (by omega)⟩ | exact .inr ⟨_, rfl, .inr ⟨_, rfl, rfl⟩⟩)) ?_; rintro v3 w3 ⟨hb3, a3, c3, a5, c5, w5, a6, c6, w6, rfl, r5, r6, o6, b6⟩; have k3 := (hb3.cell (p := ⟨g, o + i * 4 + 3, none⟩) hgz).trans e3z))
                all_goals go_wp2_with (first
                  | (at_builtin; refine Lib.wpList_append_run _ rfl _ _ _ _ rfl _ _ rfl rfl _ _ r5 ?_)
                  | (at_builtin; refine Lib.wpList_append_run _ rfl _ _ _ _ rfl _ _ rfl rfl _ _ r6 ?_))
                all_goals exact ⟨⟨i + 1, _, a6, c6, insS l (0) s, by go_num, rfl, by omega, by omega, Lib.hid (by unfold insS; rw [List.length_append, List.length_cons, List.length_take, List.length_drop, HL.out]; omega), HIns, Lib.hid o6, Lib.hid (HFi.out.trans b6)⟩, by simp [intOf]; omega⟩
              · cases e
                have hcap := (own_cap hoj).1
                have hcb0 : (0 : Int) ≤ (cb : Int) := Int.natCast_nonneg _
                have hm0 : (0 : Int) ≤ (m : Int) := Int.natCast_nonneg _
                clear hzs hoj
                go_wp2_with fail
                go_quiet (fail)
                go_wp2_with fail
                obtain ⟨wy, hwy⟩ : ∃ x, x = wr.drewN nq := ⟨_, rfl⟩
                have hby : Below wo.heap.size wo wy := by rw [hwy]; exact hbj.trans ((below_drewN wr nq).mono hbj.size)
                rw [← hwy]
                clear hwy
                have e3y := HX.out _ hby
                rw [HZ.out] at e3y
                go_wp2_with fail
                go_quiet (fail)
                go_wp2_with fail
                obtain ⟨wz, hwz⟩ : ∃ x, x = wy.drewN nq := ⟨_, rfl⟩
                have hbz : Below wo.heap.size wo wz := by rw [hwz]; exact hby.trans ((below_drewN wy nq).mono hby.size)
                rw [← hwz]
                clear hwz
                have e3z := HX.out _ hbz
                rw [HZ.out] at e3z
                have hgz : g < wz.heap.size := Nat.lt_of_lt_of_le hg (Nat.le_trans hbw.size hbz.size)
                have HR := Lib.hid (ins_run wz B (0) m cb _ l s zs HZ.out (own_below HO.out hbz) HL.out (by omega) (by omega) (by have := hbz.size; omega))
                have HFi := Lib.hid ((HBr.out.trans (hbz.mono hszB)))
                by_cases hce : cb = 0
                · obtain rfl : m = 0 := by omega
                  subst hce
                  -- MARKA3
                  go_region_held3 (fun w' => w'.cell? ⟨g, o + i * 4 + 3, none⟩ = some (.string zs)) (go_keep) (first
                    | (refine step_append_ex rfl _ _ _ _ rfl _ _ _ _ rfl rfl (HR.out _ (by omega) _ _ (by first | exact .inl ⟨rfl, rfl, rfl⟩ | exact .inr ⟨_, rfl, .inl (by omega)⟩ | exact .inr ⟨_, rfl, .inr ⟨_, rfl, rfl⟩⟩)) ?_; rintro v3 w3 ⟨hb3, a3, c3, a5, c5, w5, a6, c6, w6, rfl, r5, r6, o6, b6⟩; have k3 := (hb3.cell (p := ⟨g, o + i * 4 + 3, none⟩) hgz).trans e3z))
                  all_goals go_wp2_with (first
                    | (at_builtin; refine Lib.wpList_append_run _ rfl _ _ _ _ rfl _ _ rfl rfl _ _ r5 ?_)
                    | (at_builtin; refine Lib.wpList_append_run _ rfl _ _ _ _ rfl _ _ rfl rfl _ _ r6 ?_))
                  all_goals exact ⟨⟨i + 1, _, a6, c6, insS l (0) s, by go_num, rfl, by omega, by omega, Lib.hid (by unfold insS; rw [List.length_append, List.length_cons, List.length_take, List.length_drop, HL.out]; omega), HIns, Lib.hid o6, Lib.hid (HFi.out.trans b6)⟩, by simp [intOf]; omega⟩
                · have hq1 : ¬ (cb ≤ 0) := by omega
                  -- MARKA4
                  go_region_held3 (fun w' => w'.cell? ⟨g, o + i * 4 + 3, none⟩ = some (.string zs)) (go_keep) (first
                    | (refine step_append_ex rfl _ _ _ _ rfl _ _ _ _ rfl rfl (HR.out _ (by omega) _ _ (by first | exact .inl ⟨rfl, rfl, rfl⟩ | exact .inr ⟨_, rfl, .inl (by omega)⟩ | exact .inr ⟨_, rfl, .inr ⟨_, rfl, rfl⟩⟩)) ?_; rintro v3 w3 ⟨hb3, a3, c3, a5, c5, w5, a6, c6, w6, rfl, r5, r6, o6, b6⟩; have k3 := (hb3.cell (p := ⟨g, o + i * 4 + 3, none⟩) hgz).trans e3z))
                  all_goals go_wp2_with (first
                    | (at_builtin; refine Lib.wpList_append_run _ rfl _ _ _ _ rfl _ _ rfl rfl _ _ r5 ?_)
                    | (at_builtin; refine Lib.wpList_append_run _ rfl _ _ _ _ rfl _ _ rfl rfl _ _ r6 ?_))
                  all_goals exact ⟨⟨i + 1, _, a6, c6, insS l (0) s, by go_num, rfl, by omega, by omega, Lib.hid (by unfold insS; rw [List.length_append, List.length_cons, List.length_take, List.length_drop, HL.out]; omega), HIns, Lib.hid o6, Lib.hid (HFi.out.trans b6)⟩, by simp [intOf]; omega⟩
            | succ j =>
              obtain ⟨y, hy⟩ : ∃ y, l[j]? = some y := ⟨_, List.getElem?_eq_getElem (by rw [HL.out]; omega)⟩
              obtain ⟨gb, rfl, e4⟩ := HCl.out _ hbj j y hy
              have hdj : decide ((0 : Int) < ((j + 1 : Nat) : Int)) = true := decide_eq_true (by omega)
              have hw1 : ((j + 1 : Nat) : Int) - 1 = (j : Int) := by omega
              have hjm : (j : Int) < (m : Int) := by omega
              have hj0' : (0 : Int) ≤ (j : Int) := Int.natCast_nonneg _
              have hbl := blt_dec s y
              have hbe := str_beq y s
              obtain ⟨zs, hzs⟩ : ∃ z, str s = z := ⟨_, rfl⟩
              obtain ⟨zy, hzy⟩ : ∃ z, str y = z := ⟨_, rfl⟩
              have HZ := Lib.hid hzs
              rw [hzs, hzy] at hbl hbe
              rw [hzs] at e3
              rw [hzy] at e4
              have HY : Hid (∀ W, Below wo.heap.size wo W → W.cell? ⟨gb, j, none⟩ = some (.string zy)) := Lib.hid fun W hW => by
                obtain ⟨gb', e, h⟩ := HCl.out W hW j y hy
                cases e; rw [← hzy]; exact h
              by_cases hsy : s < y
              · rw [decide_eq_true hsy] at hbl
                have HJ2 : Hid (∀ (k : Nat) y, j ≤ k → l[k]? = some y → s < y) := Lib.hid fun k z h1 h2 => by
                  by_cases e : k = j
                  · subst e; rw [hy] at h2; rw [← Option.some.inj h2]; exact hsy
                  · exact HJ.out k z (by omega) h2
                clear hy hsy hbe hzs hzy
                go_wp2_with fail
                go_quiet (fail)
                go_wp2_with fail
                -- MARK3
                exact ⟨⟨j, by go_num, by omega, HJ2, hbj.trans ((below_drewN wr nq).mono hbj.size)⟩, by simp [intOf]⟩
              · rw [decide_eq_false hsy] at hbl
                by_cases hye : y = s
                · rw [decide_eq_true hye] at hbe
                  have HIn : Hid (SymS (symL (t.take (i + 1))) l) := Lib.hid (by rw [HSt.out]; exact ins_none HSy.out (hye ▸ List.mem_of_getElem? hy))
                  clear hy hsy hye hzs hzy
                  go_wp2_with fail
                  go_quiet (fail)
                  go_wp2_with fail
                  obtain ⟨wy, hwy⟩ : ∃ x, x = wr.drewN nq := ⟨_, rfl⟩
                  have hby : Below wo.heap.size wo wy := by rw [hwy]; exact hbj.trans ((below_drewN wr nq).mono hbj.size)
                  rw [← hwy]
                  clear hwy
                  have e3y := HX.out _ hby
                  rw [HZ.out] at e3y
                  have e4y := HY.out _ hby
                  go_wp2_with fail
                  go_quiet (fail)
                  go_wp2_with fail
                  -- MARKB2
                  exact ⟨⟨i + 1, m, _, _, l, by go_num, rfl, by omega, by omega, HL, HIn, Lib.hid (own_below HO.out (hby.trans ((below_drewN wy nq).mono hby.size))), Lib.hid (HBr.out.trans ((hby.trans ((below_drewN wy nq).mono hby.size)).mono hszB))⟩, by simp [intOf]; omega⟩
                · rw [decide_eq_false hye] at hbe
                  have hys : y < s := by
                    rcases s_cases s y with h | h | h
                    · exact absurd h hsy
                    · exact absurd h.symm hye
                    · exact h
                  have hlow : ∀ (k : Nat) x, k < j + 1 → l[k]? = some x → x < s := fun k x h hk => by
                    by_cases e : k = j
                    · rw [e, hy] at hk; rw [← Option.some.inj hk]; exact hys
                    · exact s_trans (sym_asc HSy.out (by omega) hk hy) hys
                  have HIns : Hid (SymS (symL (t.take (i + 1))) (insS l (j + 1) s)) := Lib.hid (by rw [HSt.out]; exact ins_sym HSy.out hlow HJ.out)
                  have hcap := (own_cap (own_below HO.out hbj)).1
                  have hq3 : ((j + 1 : Nat) : Int) ≤ (m : Int) := by omega
                  have hq4 : ((j + 1 : Nat) : Int) ≤ (cb : Int) := by omega
                  have hq5 : (0 : Int) ≤ ((j + 1 : Nat) : Int) := by omega
                  clear hy hsy hye hzs hzy hys hlow
                  go_wp2_with fail
                  go_quiet (fail)
                  go_wp2_with fail
                  obtain ⟨wy, hwy⟩ : ∃ x, x = wr.drewN nq := ⟨_, rfl⟩
                  have hby : Below wo.heap.size wo wy := by rw [hwy]; exact hbj.trans ((below_drewN wr nq).mono hbj.size)
                  rw [← hwy]
                  clear hwy
                  have e3y := HX.out _ hby
                  rw [HZ.out] at e3y
                  have e4y := HY.out _ hby
                  go_wp2_with fail
                  go_quiet (fail)
                  go_wp2_with fail
                  obtain ⟨wz, hwz⟩ : ∃ x, x = wy.drewN nq := ⟨_, rfl⟩
                  have hbz : Below wo.heap.size wo wz := by rw [hwz]; exact hby.trans ((below_drewN wy nq).mono hby.size)
                  rw [← hwz]
                  clear hwz
                  have e3z := HX.out _ hbz
                  rw [HZ.out] at e3z
                  have hgz : g < wz.heap.size := Nat.lt_of_lt_of_le hg (Nat.le_trans hbw.size hbz.size)
                  have HR := Lib.hid (ins_run wz B (j + 1) m cb _ l s zs HZ.out (own_below HO.out hbz) HL.out (by omega) (by omega) (by have := hbz.size; omega))
                  have HFi := Lib.hid ((HBr.out.trans (hbz.mono hszB)))
                  obtain ⟨q, hq⟩ : ∃ q, j + 1 = q := ⟨_, rfl⟩
                  rw [hq] at HIns hq3 hq4 hq5 HR hj ⊢
                  clear hdj hw1 hq HJ
                  by_cases hce : cb = q
                  · obtain rfl : m = q := by omega
                    subst hce
                    -- MARKB3
                    go_region_held3 (fun w' => w'.cell? ⟨g, o + i * 4 + 3, none⟩ = some (.string zs)) (go_keep) (first
                      | (refine step_append_ex rfl _ _ _ _ rfl _ _ _ _ rfl rfl (HR.out _ (by omega) _ _ (by first | exact .inl ⟨rfl, rfl, rfl⟩ | exact .inr ⟨_, rfl, .inl (by omega)⟩ | exact .inr ⟨_, rfl, .inr ⟨_, rfl, rfl⟩⟩)) ?_; rintro v3 w3 ⟨hb3, a3, c3, a5, c5, w5, a6, c6, w6, rfl, r5, r6, o6, b6⟩; have k3 := (hb3.cell (p := ⟨g, o + i * 4 + 3, none⟩) hgz).trans e3z))
                    all_goals go_wp2_with (first
                      | (at_builtin; refine Lib.wpList_append_run _ rfl _ _ _ _ rfl _ _ rfl rfl _ _ r5 ?_)
                      | (at_builtin; refine Lib.wpList_append_run _ rfl _ _ _ _ rfl _ _ rfl rfl _ _ r6 ?_))
                    all_goals exact ⟨⟨i + 1, _, a6, c6, _, by go_num, rfl, by omega, by omega, Lib.hid (by unfold insS; rw [List.length_append, List.length_cons, List.length_take, List.length_drop, HL.out]; omega), HIns, Lib.hid o6, Lib.hid (HFi.out.trans b6)⟩, by simp [intOf]; omega⟩
                  · have hq1 : ¬ (cb ≤ q) := by omega
                    -- MARKB4
                    go_region_held3 (fun w' => w'.cell? ⟨g, o + i * 4 + 3, none⟩ = some (.string zs)) (go_keep) (first
                      | (refine step_append_ex rfl _ _ _ _ rfl _ _ _ _ rfl rfl (HR.out _ (by omega) _ _ (by first | exact .inl ⟨rfl, rfl, rfl⟩ | exact .inr ⟨_, rfl, .inl (by omega)⟩ | exact .inr ⟨_, rfl, .inr ⟨_, rfl, rfl⟩⟩)) ?_; rintro v3 w3 ⟨hb3, a3, c3, a5, c5, w5, a6, c6, w6, rfl, r5, r6, o6, b6⟩; have k3 := (hb3.cell (p := ⟨g, o + i * 4 + 3, none⟩) hgz).trans e3z))
                    all_goals go_wp2_with (first
                      | (at_builtin; refine Lib.wpList_append_run _ rfl _ _ _ _ rfl _ _ rfl rfl _ _ r5 ?_)
                      | (at_builtin; refine Lib.wpList_append_run _ rfl _ _ _ _ rfl _ _ rfl rfl _ _ r6 ?_))
                    all_goals exact ⟨⟨i + 1, _, a6, c6, insS l q s, by go_num, rfl, by omega, by omega, Lib.hid (by unfold insS; rw [List.length_append, List.length_cons, List.length_take, List.length_drop, HL.out]; omega), HIns, Lib.hid o6, Lib.hid (HFi.out.trans b6)⟩, by simp [intOf]; omega⟩
        · have hne : (x0 != 3) = true := bne_iff_ne.2 h3
          have hst : symL (t.take (i + 1)) = symL (t.take i) := by rw [HS.out, if_neg h3, List.append_nil]
          have HSt := Lib.hid hst
          clear hst h3
          go_wp2_with fail
          -- MARK4
          exact ⟨⟨i + 1, m, _, _, l, by go_num, rfl, by omega, by omega, HL, Lib.hid (by rw [HSt.out]; exact HSy.out), HO, HBr⟩, by simp [intOf]; omega⟩
      · obtain rfl : i = n := by omega
        have hd : decide ((i : Int) < (i : Int)) = false := decide_eq_false (Int.lt_irrefl _)
        have HFin : Hid (SymS (symL t) l) := Lib.hid (by have := HSy.out; rwa [List.take_of_length_le (Nat.le_of_eq HN.out)] at this)
        have HRow := Lib.hid (str_own HO.out HL.out)
        go_wp2_with fail
        go_ret2
        -- MARK5
        exact ⟨l, b, cb, by rw [HK.out, HL.out]; rfl, by rw [HL.out]; exact HRow.out, fun _ => HFin.out, fun h => absurd HK.out h, by rw [HL.out]; omega, hbw⟩
  · obtain ⟨e2, he2⟩ : ∃ e2, (chkT symS t).2 = e2 := ⟨_, rfl⟩
    have HE := Lib.hid he2
    have HC2 := Lib.hid hc
    rw [he2] at C1 hc
    have hne : (e2 != 0) = true := bne_iff_ne.2 hc
    obtain ⟨a0, c0, rfl⟩ := h.slice
    clear h KB hc he2 hci
    go_enter Tryz.func10, Tryz.ntmps10
    go_wp2_with fail
    refine C1.out.mono ?_
    rintro e w2 ⟨rfl, hb2⟩
    go_wp2_with fail
    go_ret2
    exact ⟨[], none, 0, by rw [HE.out]; rfl, ⟨none, 0, rfl, .inl rfl⟩, fun h => absurd h HC2.out, fun _ => rfl, by simp, hb2⟩
end Go.Proofs.YtkngkajojcmmlaaGreatDoor
