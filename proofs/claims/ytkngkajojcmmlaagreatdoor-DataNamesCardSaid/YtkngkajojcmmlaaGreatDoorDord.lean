/- The reference's order and Compare. -/
import Derived.Test.YtkngkajojcmmlaaGreatDoorZl
import Derived.Test.YtkngkajojcmmlaaGreatDoorZk
import Derived.Deep.RegionHeld3
import Derived.Deep.DeepCutAuto
import Derived.Deep.CutBlock
namespace Go.Proofs.YtkngkajojcmmlaaGreatDoor
open Go.RowKit Go.Shelf Go.PlainAid

/-- A datum's nodes in memory. -/
structure NodAt (w : World) (g o n : Nat) (t : List Nd) : Prop where
  len : t.length = n
  tr : Tr (kidsL t)
  le : n ≤ 400
  lt : g < w.heap.size
  nds : ∀ j u, (dcs t)[j]? = some u → w.cell? ⟨g, o + j, none⟩ = some u
  pos : ∀ x ∈ t, 0 ≤ x.2.1
theorem NodAt.below {w w' : World} {g o n : Nat} {t : List Nd} (h : NodAt w g o n t) (hb : Below w.heap.size w w') : NodAt w' g o n t :=
  ⟨h.len, h.tr, h.le, Nat.lt_of_lt_of_le h.lt hb.size, fun j u hj => (hb.cell (p := ⟨g, o + j, none⟩) h.lt).trans (h.nds j u hj), h.pos⟩
theorem NodAt.kid {w : World} {g o n : Nat} {t : List Nd} (h : NodAt w g o n t) {p : Nat} {x : Nd} (hx : t[p]? = some x) : ((cnt (kidsL t) p : Nat) : Int) = x.2.1 := by
  rw [cnt_of (i := p) (c := x.2.1.toNat) (by unfold kidsL; rw [List.getElem?_map, hx]; rfl), Int.toNat_of_nonneg (h.pos x (List.mem_of_getElem? hx))]
/-- The reference's end, of what is behind node p. -/
theorem rend_at {w : World} {g o n p m cp r q : Nat} {t : List Nd} (h : NodAt w g o n t) (hm : p + m = n) (hr : r < m) (hq : endN (kidsL t) (p + r) = p + q) :
    Calls Tryz.prog 57 #[.slice (some ⟨g, o + p * 4, none⟩) m cp, .int .i64 (r : Int)] w fun e w' => e = .returned (.int .i64 (q : Int)) ∧ w = w' := by
  refine rend_sh g (o + p * 4) n p m cp (kidsL t) w (by rw [kidsL_len, h.len]) h.tr h.le hm (Lib.hid fun i hi => ?_) _ r q (Nat.le_refl _) hr hq
  obtain ⟨x, hx⟩ : ∃ x, t[p + i]? = some x := ⟨_, List.getElem?_eq_getElem (by rw [h.len]; omega)⟩
  rw [h.kid hx]
  have := h.nds _ _ (dcs_at t hx).2.1
  rw [show o + ((p + i) * 4 + 1) = o + p * 4 + i * 4 + 1 by omega] at this
  exact this
theorem ndS_1 {x y : Nd} (h : x.1 ≠ y.1) : ndS x y = if decide (x.1 < y.1) then -1 else 1 := by
  rw [ndS_eq, if_pos (fun e => h (sgn_0.1 e))]
  unfold sgn
  by_cases h1 : x.1 < y.1
  · rw [if_pos h1, decide_eq_true h1]; rfl
  · rw [if_neg h1, if_pos (by omega), decide_eq_false h1]; rfl
theorem ndS_2 {x y : Nd} (h1 : x.1 = y.1) (h : x.2.2.1 ≠ y.2.2.1) : ndS x y = if decide (x.2.2.1 < y.2.2.1) then -1 else 1 := by
  rw [ndS_eq, sgn_0.2 h1, if_neg (by simp), if_pos (fun e => h (sgn_0.1 e))]
  unfold sgn
  by_cases h1 : x.2.2.1 < y.2.2.1
  · rw [if_pos h1, decide_eq_true h1]; rfl
  · rw [if_neg h1, if_pos (by omega), decide_eq_false h1]; rfl
theorem ndS_3 {x y : Nd} (h1 : x.1 = y.1) (h2 : x.2.2.1 = y.2.2.1) (h : x.2.2.2 ≠ y.2.2.2) : ndS x y = if Op.bytesLess (str x.2.2.2).toList (str y.2.2.2).toList then -1 else 1 := by
  have hne : strS x.2.2.2 y.2.2.2 ≠ 0 := fun e => h (strS_0 e)
  rw [ndS_eq, sgn_0.2 h1, if_neg (by simp), sgn_0.2 h2, if_neg (by simp), if_pos hne, str_bless]
  have := strS_bd x.2.2.2 y.2.2.2
  by_cases h4 : strS x.2.2.2 y.2.2.2 < 0
  · rw [decide_eq_true h4, if_pos rfl]; omega
  · rw [decide_eq_false h4, if_neg (by simp)]; omega
theorem ndS_4 {x y : Nd} (h1 : x.1 = y.1) (h2 : x.2.2.1 = y.2.2.1) (h3 : x.2.2.2 = y.2.2.2) : ndS x y = 0 := by
  rw [ndS_eq, sgn_0.2 h1, if_neg (by simp), sgn_0.2 h2, if_neg (by simp), h3, strS_refl, if_neg (by simp)]
set_option maxRecDepth 50000 in
set_option maxHeartbeats 6400000 in
theorem rorder_go (ga oa na gb ob nb : Nat) (a b : List Nd) (w0 : World) (HA : Hid (NodAt w0 ga oa na a)) (HB : Hid (NodAt w0 gb ob nb b)) :
    ∀ (f p q ma ca mb cb : Nat) (w : World), Below w0.heap.size w0 w → 400 - p < f → p + ma = na → 0 < ma → ma ≤ ca → q + mb = nb → 0 < mb → mb ≤ cb →
    Calls Tryz.prog 26 #[.slice (some ⟨ga, oa + p * 4, none⟩) ma ca, .slice (some ⟨gb, ob + q * 4, none⟩) mb cb] w
      fun e w' => e = .returned (.int .i64 (ordF a b f p q)) ∧ Below w.heap.size w w' := by
  intro f
  induction f with
  | zero => intro p q ma ca mb cb w _ h; omega
  | succ f ih =>
    intro p q ma ca mb cb w hw hf hma hma0 hmc hmb hmb0 hmd
    have hp : p < na := by omega
    have hq : q < nb := by omega
    obtain ⟨x, hx⟩ : ∃ x, a[p]? = some x := ⟨_, List.getElem?_eq_getElem (by rw [HA.out.len]; exact hp)⟩
    obtain ⟨y, hy⟩ : ∃ y, b[q]? = some y := ⟨_, List.getElem?_eq_getElem (by rw [HB.out.len]; exact hq)⟩
    obtain ⟨kx, hkx⟩ : ∃ k, cnt (kidsL a) p = k := ⟨_, rfl⟩
    obtain ⟨ky, hky⟩ : ∃ k, cnt (kidsL b) q = k := ⟨_, rfl⟩
    have hx1 : x.2.1 = (kx : Int) := by rw [← hkx]; exact (HA.out.kid hx).symm
    have hy1 : y.2.1 = (ky : Int) := by rw [← hky]; exact (HB.out.kid hy).symm
    have hpl : p < (kidsL a).length := by rw [kidsL_len, HA.out.len]; exact hp
    have hql : q < (kidsL b).length := by rw [kidsL_len, HB.out.len]; exact hq
    have h400 := HA.out.le
    have hOrd : ordF a b (f + 1) p q = if ndS x y ≠ 0 then ndS x y else cmpL (ordF a b f) (kidsN (kidsL a) p) (kidsN (kidsL b) q) := by
      show (if ndS (ndAt a p) (ndAt b q) ≠ 0 then ndS (ndAt a p) (ndAt b q) else _) = _
      rw [ndAt_of hx, ndAt_of hy]
    obtain ⟨p0, p1, p2, p3⟩ := dcs_at a hx
    obtain ⟨q0, q1, q2, q3⟩ := dcs_at b hy
    have hAw := HA.out.below hw
    have hBw := HB.out.below hw
    have u0 := hAw.nds _ _ p0
    have u1 := hAw.nds _ _ p1
    have u2 := hAw.nds _ _ p2
    have u3 := hAw.nds _ _ p3
    have v0 := hBw.nds _ _ q0
    have v1 := hBw.nds _ _ q1
    have v2 := hBw.nds _ _ q2
    have v3 := hBw.nds _ _ q3
    rw [hx1] at u1
    rw [hy1] at v1
    have hga : ga < w.heap.size := hAw.lt
    have hgb : gb < w.heap.size := hBw.lt
    -- what the rounds need: of child k the node's place, the call, and where it ends
    have HKid : Hid (∀ k r s, k < kx → k < ky → posK (kidsL a) p k = p + r → posK (kidsL b) q k = q + s → 0 < r ∧ 0 < s ∧ r < ma ∧ s < mb ∧ (∃ r', posK (kidsL a) p (k + 1) = p + r' ∧ ∀ W, Below w0.heap.size w0 W → Calls Tryz.prog 57 #[.slice (some ⟨ga, oa + p * 4, none⟩) ma ca, .int .i64 (r : Int)] W fun e w' => e = .returned (.int .i64 (r' : Int)) ∧ W = w') ∧
        (∃ s', posK (kidsL b) q (k + 1) = q + s' ∧ ∀ W, Below w0.heap.size w0 W → Calls Tryz.prog 57 #[.slice (some ⟨gb, ob + q * 4, none⟩) mb cb, .int .i64 (s : Int)] W fun e w' => e = .returned (.int .i64 (s' : Int)) ∧ W = w') ∧
        ∀ W, Below w0.heap.size w0 W → Calls Tryz.prog 26 #[.slice (some ⟨ga, oa + p * 4 + r * 4, none⟩) (ma - r) (ca - r), .slice (some ⟨gb, ob + q * 4 + s * 4, none⟩) (mb - s) (cb - s)] W fun e w' => e = .returned (.int .i64 (ordF a b f (posK (kidsL a) p k) (posK (kidsL b) q k))) ∧ Below W.heap.size W w') := Lib.hid fun k r s h1 h2 hr hs => by
      obtain ⟨e1, e2, e3⟩ := HA.out.tr.pos_step hpl (k := k) (by omega)
      obtain ⟨f1, f2, f3⟩ := HB.out.tr.pos_step hql (k := k) (by omega)
      have e4 := HA.out.tr.pos_next hpl (k := k) (by omega)
      have f4 := HB.out.tr.pos_next hql (k := k) (by omega)
      rw [kidsL_len, HA.out.len] at e2
      rw [kidsL_len, HB.out.len] at f2
      refine ⟨by omega, by omega, by omega, by omega, ⟨posK (kidsL a) p (k + 1) - p, by omega, fun W hW => rend_at (HA.out.below hW) hma (by omega) (by rw [← hr, e3]; omega)⟩, ⟨posK (kidsL b) q (k + 1) - q, by omega, fun W hW => rend_at (HB.out.below hW) hmb (by omega) (by rw [← hs, f3]; omega)⟩, fun W hW => ?_⟩
      have := ih (p + r) (q + s) (ma - r) (ca - r) (mb - s) (cb - s) W hW (by omega) (by omega) (by omega) (by omega) (by omega) (by omega) (by omega)
      rw [← hr, ← hs] at this
      rw [show oa + p * 4 + r * 4 = oa + posK (kidsL a) p k * 4 by omega, show ob + q * 4 + s * 4 = ob + posK (kidsL b) q k * 4 by omega]
      exact this
    have HCm : Hid (∀ k, k < kx → k < ky → cmpL (ordF a b f) ((kidsN (kidsL a) p).drop k) ((kidsN (kidsL b) q).drop k) = if ordF a b f (posK (kidsL a) p k) (posK (kidsL b) q k) ≠ 0 then ordF a b f (posK (kidsL a) p k) (posK (kidsL b) q k) else cmpL (ordF a b f) ((kidsN (kidsL a) p).drop (k + 1)) ((kidsN (kidsL b) q).drop (k + 1))) := Lib.hid fun k h1 h2 =>
      cmpL_at (kidsN_at (by omega)) (kidsN_at (by omega))
    have HEnd : Hid (∀ k, (kx ≤ k ∨ ky ≤ k) → k ≤ kx → k ≤ ky → cmpL (ordF a b f) ((kidsN (kidsL a) p).drop k) ((kidsN (kidsL b) q).drop k) = sgn (kx : Int) (ky : Int)) := Lib.hid fun k h1 h2 h3 => by
      rw [cmpL_end (by rw [kidsN_len, kidsN_len, hkx, hky]; exact h1) (by rw [kidsN_len, hkx]; exact h2) (by rw [kidsN_len, hky]; exact h3), kidsN_len, kidsN_len, hkx, hky]
    have HS0 : Hid (posK (kidsL a) p 0 = p + 1 ∧ posK (kidsL b) q 0 = q + 1) := Lib.hid ⟨posK_start hpl, posK_start hql⟩
    have HW := Lib.hid hw
    have hk4 : kx ≤ 400 ∧ ky ≤ 400 := by
      have e1 := cnt_le HA.out.tr hpl
      have e2 := cnt_le HB.out.tr hql
      rw [kidsL_len, HA.out.len] at e1
      rw [kidsL_len, HB.out.len] at e2
      have := HB.out.le
      omega
    have CSg := Lib.hid (sign_any)
    obtain ⟨R, hR⟩ : ∃ R, ordF a b (f + 1) p q = R := ⟨_, rfl⟩
    rw [hR] at hOrd ⊢
    have HOrd := Lib.hid hOrd
    have c1 := Lib.hid (ndS_1 (x := x) (y := y))
    have c2 := Lib.hid (ndS_2 (x := x) (y := y))
    have c3 := Lib.hid (ndS_3 (x := x) (y := y))
    have c4 := Lib.hid (ndS_4 (x := x) (y := y))
    obtain ⟨x0, x1, x2, x3⟩ := x
    obtain ⟨y0, y1, y2, y3⟩ := y
    simp only [← Nat.add_assoc] at u0 u1 u2 u3 v0 v1 v2 v3 c1 c2 c3 c4
    obtain ⟨A0, hA0⟩ : ∃ A0, oa + p * 4 = A0 := ⟨_, rfl⟩
    obtain ⟨B0, hB0⟩ : ∃ B0, ob + q * 4 = B0 := ⟨_, rfl⟩
    rw [hA0] at u0 u1 u2 u3 HKid ⊢
    rw [hB0] at v0 v1 v2 v3 HKid ⊢
    have hsz : w.heap.size = w.heap.size := rfl
    have hma1 : ma ≤ 400 := by omega
    have hmb1 : mb ≤ 400 := by have := HB.out.le; omega
    clear ih hx hy hkx hky hx1 hy1 hpl hql hOrd p0 p1 p2 p3 q0 q1 q2 q3 hAw hBw hw hf hR hp hq hA0 hB0 h400 hma hmb
    go_enter Tryz.func26, Tryz.ntmps26
    go_upto_region 1 with (fail)
    go_cut [5, 6] (fun s5 s6 wx => ∃ p q, s5 = .pointer (some ⟨p, 0, none⟩) ∧ s6 = .pointer (some ⟨q, 0, none⟩) ∧ wx.heap[p]? = some (.cells #[.int .i64 x0, .int .i64 (kx : Int), .int .i64 x2, .string (str x3)] 40 (0, 0)) ∧ wx.heap[q]? = some (.cells #[.int .i64 y0, .int .i64 (ky : Int), .int .i64 y2, .string (str y3)] 40 (0, 0)) ∧ Below w.heap.size w wx)
    case first =>
      have L1 : ∀ (p : Addr) (v : Value), p.block < w.heap.size → w.cell? p = some v → (∀ o, (w.alloc o).cell? p = some v) ∧ (∀ o o', ((w.alloc o).alloc o').cell? p = some v) := fun p v hp hv => ⟨fun o => (World.cell?_alloc_lt _ _ _ hp).trans hv, fun o o' => (World.cell?_alloc_lt _ _ _ (by rw [World.size_alloc]; omega)).trans ((World.cell?_alloc_lt _ _ _ hp).trans hv)⟩
      obtain ⟨a0, b0⟩ := L1 _ _ hga u0
      obtain ⟨a1, b1⟩ := L1 _ _ hga u1
      obtain ⟨a2, b2⟩ := L1 _ _ hga u2
      obtain ⟨a3, b3⟩ := L1 _ _ hga u3
      obtain ⟨a4, b4⟩ := L1 _ _ hgb v0
      obtain ⟨a5, b5⟩ := L1 _ _ hgb v1
      obtain ⟨a6, b6⟩ := L1 _ _ hgb v2
      obtain ⟨a7, b7⟩ := L1 _ _ hgb v3
      clear L1
      go_region
      all_goals go_wp2
      all_goals go_meet
      -- MARK1
      all_goals first
        | (have h2 := two_new (W := w) rfl #[.int .i64 x0, .int .i64 (kx : Int), .int .i64 x2, .string (str x3)] #[.int .i64 y0, .int .i64 (ky : Int), .int .i64 y2, .string (str y3)] 40 40; exact ⟨_, _, rfl, rfl, h2.1, h2.2.1, h2.2.2⟩)
        | (have h2 := two_new (W := w) rfl #[.int .i64 y0, .int .i64 (ky : Int), .int .i64 y2, .string (str y3)] #[.int .i64 x0, .int .i64 (kx : Int), .int .i64 x2, .string (str x3)] 40 40; exact ⟨_, _, rfl, rfl, h2.2.1, h2.1, h2.2.2⟩)
    case rest =>
      obtain ⟨bp, bq, rfl, rfl, hbp, hbq, hbc⟩ := hcut
      clear u0 u1 u2 u3 v0 v1 v2 v3
      obtain ⟨m0, m1, m2, m3⟩ := box4_facts hbp
      obtain ⟨n0, n1, n2, n3⟩ := box4_facts hbq
      -- MARK2
      by_cases h1 : x0 = y0
      · by_cases h2 : x2 = y2
        · by_cases h3 : x3 = y3
          · have HF : Hid (R = cmpL (ordF a b f) (kidsN (kidsL a) p) (kidsN (kidsL b) q)) := Lib.hid (by
              have := c4.out h1 h2 h3
              rw [HOrd.out, this, if_neg (by simp)])
            subst h1 h2 h3
            have hn0 : (x0 != x0) = false := by simp
            have hn2 : (x2 != x2) = false := by simp
            have hn3 : ((str x3).toList == (str x3).toList) = true := by simp
            obtain ⟨zx, hzx⟩ : ∃ z, str x3 = z := ⟨_, rfl⟩
            rw [hzx] at m3 n3 hn3 hbp hbq
            clear hzx c1 c2 c3 c4 HOrd
            go_wp2_with fail
            -- MARK4
            have HBp := Lib.hid (fun (W : World) (hW : Below wc.heap.size wc W) => box4_facts ((hW.block bp (Array.getElem?_eq_some_iff.1 hbp).1).trans hbp))
            have HBq := Lib.hid (fun (W : World) (hW : Below wc.heap.size wc W) => box4_facts ((hW.block bq (Array.getElem?_eq_some_iff.1 hbq).1).trans hbq))
            obtain ⟨wd, hwd⟩ : ∃ x, x = wc := ⟨_, rfl⟩
            subst hwd
            clear hbp hbq m0 m1 m2 m3 n0 n1 n2 n3 hn0 hn2 hn3
            go_loopw [7, 8, 9] (fun x7 x8 x9 wr => ∃ k r s : Nat, x9 = .int .i64 (k : Int) ∧ x7 = .int .i64 (r : Int) ∧ x8 = .int .i64 (s : Int) ∧ k ≤ kx ∧ k ≤ ky ∧ Hid (posK (kidsL a) p k = p + r ∧ posK (kidsL b) q k = q + s) ∧ Hid (cmpL (ordF a b f) ((kidsN (kidsL a) p).drop k) ((kidsN (kidsL b) q).drop k) = R) ∧ Below wd.heap.size wd wr) (fun _ _ x9 _ => kx - (intOf x9).toNat)
            case atStart => exact ⟨0, 1, 1, rfl, rfl, rfl, Nat.zero_le _, Nat.zero_le _, HS0, Lib.hid (by rw [List.drop_zero, List.drop_zero]; exact HF.out.symm), Below.refl _ _⟩
            case round =>
              obtain ⟨k, r, s, rfl, rfl, rfl, hkx, hky, HP, HE, hbr⟩ := hrel
              obtain ⟨m0, m1, m2, m3⟩ := HBp.out _ hbr
              obtain ⟨n0, n1, n2, n3⟩ := HBq.out _ hbr
              have hk0 : (0 : Int) ≤ (k : Int) := Int.natCast_nonneg _
              have hbr0 := HW.out.trans ((hbc.trans (hbr.mono hbc.size)).mono HW.out.size)
              by_cases hlx : k < kx
              · by_cases hly : k < ky
                · obtain ⟨r1, s1, r2, s2, ⟨r', hr', hre⟩, ⟨s', hs', hse⟩, hco⟩ := HKid.out k r s hlx hly HP.out.1 HP.out.2
                  have CO := Lib.hid (hco wr.drew hbr0.drew)
                  have CRe := Lib.hid hre
                  have CSe := Lib.hid hse
                  have HP2 : Hid (posK (kidsL a) p (k + 1) = p + r' ∧ posK (kidsL b) q (k + 1) = q + s') := Lib.hid ⟨hr', hs'⟩
                  have hst := HCm.out k hlx hly
                  rw [HE.out] at hst
                  obtain ⟨d, hd⟩ : ∃ d, ordF a b f (posK (kidsL a) p k) (posK (kidsL b) q k) = d := ⟨_, rfl⟩
                  rw [hd] at CO hst
                  have HSt := Lib.hid hst
                  have hdx : decide ((k : Int) < (kx : Int)) = true := decide_eq_true (by omega)
                  have hdy : decide ((k : Int) < (ky : Int)) = true := decide_eq_true (by omega)
                  have hca : ¬ ca = r := by omega
                  have hcb : ¬ cb = s := by omega
                  have hr0 : (0 : Int) ≤ (r : Int) := Int.natCast_nonneg _
                  have hs0 : (0 : Int) ≤ (s : Int) := Int.natCast_nonneg _
                  have hr3 : (r : Int) ≤ (ma : Int) := by omega
                  have hs3 : (s : Int) ≤ (mb : Int) := by omega
                  have hr4 : (r : Int) < (ma : Int) := by omega
                  have hs4 : (s : Int) < (mb : Int) := by omega
                  have htr : True := trivial
                  clear hd hst hr' hs' hre hse hco
                  go_upto_region 12 with (fail)
                  -- MARK5
                  go_region_held3 (fun w' => w'.heap.size = w'.heap.size) (go_keep) (first
                    | (go_at_call 26; refine CO.out.mono ?_; rintro e w5 ⟨rfl, hn⟩))
                  -- MARK6
                  by_cases hd0 : d = 0
                  · have hRc : cmpL (ordF a b f) ((kidsN (kidsL a) p).drop (k + 1)) ((kidsN (kidsL b) q).drop (k + 1)) = R := by have := HSt.out; rw [if_neg (by omega)] at this; exact this.symm
                    have HSt2 := Lib.hid hRc
                    have hbr5 : Below w0.heap.size w0 w5 := hbr0.drew.trans (hn.mono hbr0.drew.size)
                    subst hd0
                    clear hRc HSt
                    go_wp2_with (first
                      | (go_at_call 57; with_reducible refine (CRe.out _ hbr5).mono ?_; rintro e w6 ⟨rfl, rfl⟩)
                      | (go_at_call 57; with_reducible refine (CSe.out _ hbr5).mono ?_; rintro e w6 ⟨rfl, rfl⟩))
                    -- MARK7
                    exact ⟨⟨k + 1, r', s', by go_num, rfl, rfl, by omega, by omega, HP2, HSt2, hbr.drew.trans (hn.mono hbr.drew.size)⟩, by simp [intOf]; omega⟩
                  · have hRd : R = d := by have := HSt.out; rw [if_pos hd0] at this; exact this
                    have hne : (d != 0) = true := bne_iff_ne.2 hd0
                    clear hd0
                    go_wp2
                    -- MARK8
                    go_ret
                    exact ⟨by rw [hRd]; rfl, hbc.trans ((hbr.drew.trans (hn.mono hbr.drew.size)).mono hbc.size)⟩
                · have hky' : k = ky := by omega
                  have hE := HEnd.out k (.inr (by omega)) hkx hky
                  rw [HE.out] at hE
                  have hdx : decide ((k : Int) < (kx : Int)) = true := decide_eq_true (by omega)
                  have hdy : decide ((k : Int) < (ky : Int)) = false := decide_eq_false (by omega)
                  have hxy : kx ≠ ky := by omega
                  have hne : ((kx : Int) != (ky : Int)) = true := bne_iff_ne.2 (by omega)
                  have h1 : ¬ (kx : Int) < (ky : Int) := by omega
                  have hdxy := decide_eq_false h1
                  have hsg : R = 1 := by
                    rw [hE]; unfold sgn
                    rw [if_neg h1, if_pos (by omega)]
                  have HSg := Lib.hid hsg
                  clear hE hsg hky' hxy h1
                  go_wp2_with (go_at_call 56; refine (CSg.out _ _).mono ?_; rintro e w3 ⟨rfl, rfl⟩)
                  -- MARK9
                  go_ret
                  exact ⟨by rw [HSg.out]; rfl, hbc.trans (hbr.mono hbc.size)⟩
              · have hkx' : k = kx := by omega
                have hE := HEnd.out k (.inl (by omega)) hkx hky
                rw [HE.out] at hE
                have hdx : decide ((k : Int) < (kx : Int)) = false := decide_eq_false (by omega)
                by_cases hxy : kx = ky
                · have hne : ((kx : Int) != (ky : Int)) = false := by rw [hxy]; simp
                  have h0 : R = 0 := by rw [hE, hxy]; exact sgn_0.2 rfl
                  have H0 := Lib.hid h0
                  clear hE h0 hkx'
                  go_wp2
                  -- MARK10
                  go_ret
                  exact ⟨by rw [H0.out]; rfl, hbc.trans (hbr.mono hbc.size)⟩
                · have hne : ((kx : Int) != (ky : Int)) = true := bne_iff_ne.2 (by omega)
                  have h1 : (kx : Int) < (ky : Int) := by omega
                  have hdxy := decide_eq_true h1
                  have hsg : R = -1 := by
                    rw [hE]; unfold sgn
                    rw [if_pos h1]
                  have HSg := Lib.hid hsg
                  clear hE hsg hkx' hxy
                  go_wp2_with (go_at_call 56; refine (CSg.out _ _).mono ?_; rintro e w3 ⟨rfl, rfl⟩)
                  -- MARK11
                  all_goals first | (exfalso; omega) | (go_ret; exact ⟨by rw [HSg.out]; rfl, hbc.trans (hbr.mono hbc.size)⟩)
          · have hn0 : (x0 != y0) = false := by rw [h1]; simp
            have hn2 : (x2 != y2) = false := by rw [h2]; simp
            have hn3 := str_beq x3 y3
            rw [decide_eq_false h3] at hn3
            have HF : Hid (R = if Op.bytesLess (str x3).toList (str y3).toList then -1 else 1) := Lib.hid (by
              have := c3.out h1 h2 h3
              rw [HOrd.out, if_pos (by rw [this]; split <;> decide), this])
            subst h1 h2
            obtain ⟨zx, hzx⟩ : ∃ z, str x3 = z := ⟨_, rfl⟩
            obtain ⟨zy, hzy⟩ : ∃ z, str y3 = z := ⟨_, rfl⟩
            rw [hzx] at m3 hn3 HF
            rw [hzy] at n3 hn3 HF
            have hR2 : (Op.bytesLess zx.toList zy.toList = true ∧ R = -1) ∨ (Op.bytesLess zx.toList zy.toList = false ∧ R = 1) := by
              have := HF.out
              cases hbl : Op.bytesLess zx.toList zy.toList with
              | true => rw [hbl, if_pos rfl] at this; exact .inl ⟨rfl, this⟩
              | false => rw [hbl, if_neg (by simp)] at this; exact .inr ⟨rfl, this⟩
            clear h3 hzx hzy c1 c2 c3 c4 HOrd hbp hbq HF
            rcases hR2 with ⟨hbl, hR3⟩ | ⟨hbl, hR3⟩
            all_goals go_wp2_with (go_at_call 56; refine (CSg.out _ _).mono ?_; rintro e w3 ⟨rfl, rfl⟩)
            all_goals (go_ret; exact ⟨by rw [hR3]; rfl, hbc⟩)
        · have hn0 : (x0 != y0) = false := by rw [h1]; simp
          have hne : (x2 != y2) = true := bne_iff_ne.2 h2
          have HF : Hid (R = if decide (x2 < y2) then -1 else 1) := Lib.hid (by
            have := c2.out h1 h2
            rw [HOrd.out, if_pos (by rw [this]; split <;> decide), this])
          have hR2 : (x2 < y2 ∧ R = -1) ∨ (¬ x2 < y2 ∧ R = 1) := by
            have := HF.out
            by_cases hl : x2 < y2
            · rw [decide_eq_true hl, if_pos rfl] at this; exact .inl ⟨hl, this⟩
            · rw [decide_eq_false hl, if_neg (by simp)] at this; exact .inr ⟨hl, this⟩
          subst h1
          clear HF
          rcases hR2 with ⟨hl, hR3⟩ | ⟨hl, hR3⟩
          · have hd := decide_eq_true hl
            go_wp2_with (go_at_call 56; refine (CSg.out _ _).mono ?_; rintro e w3 ⟨rfl, rfl⟩)
            all_goals first | (exfalso; omega) | (go_ret; exact ⟨by rw [hR3]; rfl, hbc⟩)
          · have hd := decide_eq_false hl
            go_wp2_with (go_at_call 56; refine (CSg.out _ _).mono ?_; rintro e w3 ⟨rfl, rfl⟩)
            all_goals first | (exfalso; omega) | (go_ret; exact ⟨by rw [hR3]; rfl, hbc⟩)
      · have hne : (x0 != y0) = true := bne_iff_ne.2 h1
        have HF : Hid (R = if decide (x0 < y0) then -1 else 1) := Lib.hid (by
          have := c1.out h1
          rw [HOrd.out, if_pos (by rw [this]; split <;> decide), this])
        have hR2 : (x0 < y0 ∧ R = -1) ∨ (¬ x0 < y0 ∧ R = 1) := by
          have := HF.out
          by_cases hl : x0 < y0
          · rw [decide_eq_true hl, if_pos rfl] at this; exact .inl ⟨hl, this⟩
          · rw [decide_eq_false hl, if_neg (by simp)] at this; exact .inr ⟨hl, this⟩
        skip
        clear HF
        rcases hR2 with ⟨hl, hR3⟩ | ⟨hl, hR3⟩
        · have hd := decide_eq_true hl
          go_wp2_with (go_at_call 56; refine (CSg.out _ _).mono ?_; rintro e w3 ⟨rfl, rfl⟩)
          all_goals first | (exfalso; omega) | (go_ret; exact ⟨by rw [hR3]; rfl, hbc⟩)
        · have hd := decide_eq_false hl
          go_wp2_with (go_at_call 56; refine (CSg.out _ _).mono ?_; rintro e w3 ⟨rfl, rfl⟩)
          all_goals first | (exfalso; omega) | (go_ret; exact ⟨by rw [hR3]; rfl, hbc⟩)
end Go.Proofs.YtkngkajojcmmlaaGreatDoor
