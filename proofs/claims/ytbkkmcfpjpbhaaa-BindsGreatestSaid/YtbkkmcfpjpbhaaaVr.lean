/- The reference of layer 11: one, Check. (Written by tools/gen_vr.py.) -/
import Derived.Test.YtbkkmcfpjpbhaaaVi
import Derived.BigQuiet
namespace Go.Proofs.Ytbkkmcfpjpbhaaa
open Go.RowKit Go.PlainAid

/-- No binding before k is as this one. -/
def noneB (T : List Bd) (k : Nat) (x : Bd) : Prop := ∀ (j : Nat) (y : Bd), j < k → T[j]? = some y → ¬ (y.n = x.n ∧ y.s = x.s)
theorem noneB_zero (T : List Bd) (x : Bd) : noneB T 0 x := fun _ _ hj => absurd hj (Nat.not_lt_zero _)
theorem noneB_succ {T : List Bd} {k : Nat} {x y : Bd} (h : noneB T k x) (hk : T[k]? = some y) (hy : ¬ (y.n = x.n ∧ y.s = x.s)) : noneB T (k + 1) x := by
  intro j z hj hz
  by_cases e : j = k
  · rw [e, hk] at hz; rw [← Option.some.inj hz]; exact hy
  · exact h j z (by omega) hz
theorem noneB_end {T : List Bd} {k : Nat} {x : Bd} (h : noneB T k x) : ¬ dupB T k x := by
  rintro ⟨y, hy, e⟩
  obtain ⟨i, hi⟩ := List.mem_iff_getElem?.1 hy
  have hik : i < k := by
    have := (List.getElem?_eq_some_iff.1 hi).1
    rw [List.length_take] at this; omega
  rw [List.getElem?_take_of_lt hik] at hi
  exact h i y hik hi e
theorem dupB_at {T : List Bd} {i k : Nat} {x y : Bd} (hk : T[k]? = some y) (hki : k < i) (hy : y.n = x.n ∧ y.s = x.s) : dupB T i x := by
  refine ⟨y, ?_, hy⟩
  rw [List.mem_iff_getElem?]
  exact ⟨k, by rw [List.getElem?_take_of_lt hki]; exact hk⟩
set_option maxRecDepth 100000 in
set_option maxHeartbeats 6400000 in
theorem rone_any (v : Value) (T : List Bd) (i : Nat) (x : Bd) (w : World) (h : BsAt w v T) (hs : SmB T) (hi : T[i]? = some x) (hl : T.length ≤ 2000) :
    Calls Try.prog 32 #[v, .int .i64 (i : Int)] w fun e w' => e = .returned (.int .i64 (errB T i x)) ∧ Below w.heap.size w w' := by
  have HV := Lib.hid (fun W (hW : Below w.heap.size w W) => h.below hW (Nat.le_refl _))
  have hsx := hs x (List.mem_of_getElem? hi)
  obtain ⟨a0, c0, hv, -⟩ := h.slice
  obtain ⟨m, hm⟩ : ∃ m, T.length = m := ⟨_, rfl⟩
  rw [hm] at hv hl
  subst hv
  have HN := Lib.hid hm
  obtain ⟨g, off, rfl, hg, c0, c1, c2, c3⟩ := h.node hi
  have hi1 : (i : Int) < (m : Int) := by have := (List.getElem?_eq_some_iff.1 hi).1; omega
  have hi0 : (0 : Int) ≤ (i : Int) := Int.natCast_nonneg _
  obtain ⟨n, s, p, r⟩ := x
  simp only at c0 c1 c2 c3 hsx
  obtain ⟨W0, hW0⟩ : ∃ W0, W0 = w.alloc (.cells #[.string (str n), .string (str s), .int .i64 p, .int .i64 r] 24) := ⟨_, rfl⟩
  have hb0 : Below w.heap.size w W0 := by rw [hW0]; exact below_b1 _ _
  have hx0 : W0.heap[w.heap.size]? = some (.cells #[.string (str n), .string (str s), .int .i64 p, .int .i64 r] 24 (0, 0)) := by rw [hW0]; exact World.alloc_heap_new _ _
  have HB : Hid (∀ W, Below W0.heap.size W0 W → Below w.heap.size w W ∧ W.heap[w.heap.size]? = some (.cells #[.string (str n), .string (str s), .int .i64 p, .int .i64 r] 24 (0, 0))) := Lib.hid fun W hb =>
    ⟨hb0.trans (hb.mono hb0.size), (hb.block w.heap.size (Array.getElem?_eq_some_iff.1 hx0).1).trans hx0⟩
  have CC := Lib.hid (fun W => rcheck_any s W (by omega))
  have HE : Hid (∀ e, oneB ⟨n, s, p, r⟩ = e → e ≠ 0 → errB T i ⟨n, s, p, r⟩ = e) := Lib.hid fun e h h2 => by rw [errB_one (by rw [h]; exact h2), h]
  have HE0 : Hid (oneB ⟨n, s, p, r⟩ = 0 → dupB T i ⟨n, s, p, r⟩ → errB T i ⟨n, s, p, r⟩ = 8) := Lib.hid fun h h2 => errB_dup h h2
  have HE9 : Hid (oneB ⟨n, s, p, r⟩ = 0 → ¬ dupB T i ⟨n, s, p, r⟩ → errB T i ⟨n, s, p, r⟩ = 0) := Lib.hid fun h h2 => errB_ok h h2
  obtain ⟨ER, hER⟩ : ∃ ER, errB T i ⟨n, s, p, r⟩ = ER := ⟨_, rfl⟩
  rw [hER] at HE HE0 HE9 ⊢
  have hbe := emp_bd n
  have hln := str_size n
  obtain ⟨N, hN⟩ : ∃ N, str n = N := ⟨_, rfl⟩
  obtain ⟨P, hP⟩ : ∃ P, str s = P := ⟨_, rfl⟩
  have HNn := Lib.hid hN
  have HPp := Lib.hid hP
  rw [hN] at HB hW0 hbe hln c0
  rw [hP] at CC HB hW0 c1
  clear hx0 hb0 hs hN hP h hi hm hER hsx
  by_cases h1 : n = []
  · have HW := Lib.hid (HE.out 6 (by unfold oneB; rw [if_pos h1]) (by decide))
    rw [decide_eq_true h1] at hbe
    clear h1 hln HE
    go_enter Try.func32, Try.ntmps32
    go_wp2_with fail
    rw [← hW0]
    go_ret
    exact ⟨ret_int HW.out.symm, (HB.out W0 (Below.refl _ _)).1⟩
  rw [decide_eq_false h1] at hbe
  by_cases h2 : 24 < n.length
  · have HW := Lib.hid (HE.out 3 (by unfold oneB; rw [if_neg h1, if_pos h2]) (by decide))
    have a0 : decide ((24 : Int) < (N.size : Int)) = true := decide_eq_true (by omega)
    clear h1 hln h2 HE
    go_enter Try.func32, Try.ntmps32
    go_wp2_with fail
    rw [← hW0]
    go_ret
    exact ⟨ret_int HW.out.symm, (HB.out W0 (Below.refl _ _)).1⟩
  have a0 : decide ((24 : Int) < (N.size : Int)) = false := decide_eq_false (by omega)
  by_cases h3 : chkE s = 0
  · rw [h3] at CC
    by_cases h4 : p < 1
    · have HW := Lib.hid (HE.out 7 (by unfold oneB; rw [if_neg h1, if_neg h2, if_neg (by simpa using h3)]; simp only; rw [if_pos (.inl h4)]) (by decide))
      have a1 : decide (p < 1) = true := decide_eq_true h4
      clear h1 hln h2 h3 h4 HE
      go_enter Try.func32, Try.ntmps32
      go_wp2_with fail
      refine (CC.out _).mono ?_
      rw [← hW0]
      rintro e w1 ⟨rfl, hb1⟩
      obtain ⟨hbw, hxw⟩ := HB.out w1 hb1
      obtain ⟨q0, q1, q2, q3⟩ := box4_facts hxw
      go_wp2_with fail
      go_ret
      exact ⟨ret_int HW.out.symm, hbw⟩
    have a1 : decide (p < 1) = false := decide_eq_false h4
    by_cases h5 : 4 < p
    · have HW := Lib.hid (HE.out 7 (by unfold oneB; rw [if_neg h1, if_neg h2, if_neg (by simpa using h3)]; simp only; rw [if_pos (.inr (.inl h5))]) (by decide))
      have a2 : decide (4 < p) = true := decide_eq_true h5
      clear h1 hln h2 h3 h4 h5 HE
      go_enter Try.func32, Try.ntmps32
      go_wp2_with fail
      refine (CC.out _).mono ?_
      rw [← hW0]
      rintro e w1 ⟨rfl, hb1⟩
      obtain ⟨hbw, hxw⟩ := HB.out w1 hb1
      obtain ⟨q0, q1, q2, q3⟩ := box4_facts hxw
      go_wp2_with fail
      go_ret
      exact ⟨ret_int HW.out.symm, hbw⟩
    have a2 : decide (4 < p) = false := decide_eq_false h5
    by_cases h6 : r < 0
    · have HW := Lib.hid (HE.out 7 (by unfold oneB; rw [if_neg h1, if_neg h2, if_neg (by simpa using h3)]; simp only; rw [if_pos (.inr (.inr h6))]) (by decide))
      have a3 : decide (r < 0) = true := decide_eq_true h6
      clear h1 hln h2 h3 h4 h5 h6 HE
      go_enter Try.func32, Try.ntmps32
      go_wp2_with fail
      refine (CC.out _).mono ?_
      rw [← hW0]
      rintro e w1 ⟨rfl, hb1⟩
      obtain ⟨hbw, hxw⟩ := HB.out w1 hb1
      obtain ⟨q0, q1, q2, q3⟩ := box4_facts hxw
      go_wp2_with fail
      go_ret
      exact ⟨ret_int HW.out.symm, hbw⟩
    have a3 : decide (r < 0) = false := decide_eq_false h6
    have h0 : oneB ⟨n, s, p, r⟩ = 0 := by unfold oneB; rw [if_neg h1, if_neg h2, if_neg (by simpa using h3)]; simp only; rw [if_neg (by omega)]
    have HD := Lib.hid (HE0.out h0)
    have HG := Lib.hid (HE9.out h0)
    clear h1 hln h2 h3 h4 h5 h6 HE HE0 HE9 h0
    go_enter Try.func32, Try.ntmps32
    go_wp2_with fail
    refine (CC.out _).mono ?_
    rw [← hW0]
    rintro e w1 ⟨rfl, hb1⟩
    obtain ⟨hbw, hxw⟩ := HB.out w1 hb1
    obtain ⟨q0, q1, q2, q3⟩ := box4_facts hxw
    clear hW0 hxw
    go_wp2_with fail
    -- MARK1
    go_loopw [7] (fun x7 wr => ∃ k : Nat, x7 = .int .i64 (k : Int) ∧ k ≤ i ∧ Hid (noneB T k ⟨n, s, p, r⟩) ∧ Below W0.heap.size W0 wr) (fun x7 _ => i - (intOf x7).toNat)
    case atStart => exact ⟨0, rfl, Nat.zero_le _, Lib.hid (noneB_zero _ _), hb1⟩
    case round =>
      obtain ⟨k, rfl, hk, HNo, hb⟩ := hrel
      have hk0 : (0 : Int) ≤ (k : Int) := Int.natCast_nonneg _
      obtain ⟨hbr, hxr⟩ := HB.out wr hb
      obtain ⟨z0, z1, z2, z3⟩ := box4_facts hxr
      by_cases hlt : k < i
      · have hkm : (k : Int) < (m : Int) := by omega
        obtain ⟨y, hy⟩ : ∃ y, T[k]? = some y := ⟨_, List.getElem?_eq_getElem (by rw [HN.out]; omega)⟩
        obtain ⟨g', off', e', _, d0, d1, _, _⟩ := (HV.out wr hbr).node hy
        obtain ⟨rfl, rfl⟩ : g = g' ∧ off = off' := by have := Option.some.inj e'; injection this with h1 h2; exact ⟨h1, h2⟩
        have hk1 : (k : Int) < (i : Int) := by omega
        obtain ⟨yn, ys, yp, yr⟩ := y
        simp only at d0 d1
        have hq0 := str_beqV yn n
        have hq1 := str_beqV ys s
        rw [HNn.out] at hq0
        rw [HPp.out] at hq1
        obtain ⟨Y0, hY0⟩ : ∃ S, str yn = S := ⟨_, rfl⟩
        obtain ⟨Y1, hY1⟩ : ∃ S, str ys = S := ⟨_, rfl⟩
        rw [hY0] at d0 hq0
        rw [hY1] at d1 hq1
        by_cases e1 : yn = n
        · rw [decide_eq_true e1] at hq0
          by_cases e2 : ys = s
          · rw [decide_eq_true e2] at hq1
            have HW := Lib.hid (HD.out (dupB_at hy hlt ⟨e1, e2⟩))
            clear hy e' hY0 hY1 e1 e2 hxr
            go_wp2_with fail
            go_quiet (fail)
            go_wp2_with fail
            -- MARK2
            go_ret
            exact ⟨ret_int HW.out.symm, ⟨hbr.os, hbr.tape, hbr.output, hbr.size, hbr.block⟩⟩
          · rw [decide_eq_false e2] at hq1
            have HN2 : Hid (noneB T (k + 1) ⟨n, s, p, r⟩) := Lib.hid (noneB_succ HNo.out hy (fun h => e2 h.2))
            clear hy e' hY0 hY1 e1 e2 hxr
            go_wp2_with fail
            go_quiet (fail)
            go_wp2_with fail
            exact ⟨⟨k + 1, by go_num, by omega, HN2, ⟨hb.os, hb.tape, hb.output, hb.size, hb.block⟩⟩, by simp [intOf]; omega⟩
        · rw [decide_eq_false e1] at hq0
          have HN2 : Hid (noneB T (k + 1) ⟨n, s, p, r⟩) := Lib.hid (noneB_succ HNo.out hy (fun h => e1 h.1))
          clear hy e' hY0 hY1 e1 hxr hq1
          go_wp2_with fail
          go_quiet (fail)
          go_wp2_with fail
          exact ⟨⟨k + 1, by go_num, by omega, HN2, ⟨hb.os, hb.tape, hb.output, hb.size, hb.block⟩⟩, by simp [intOf]; omega⟩
      · obtain rfl : k = i := by omega
        have HW := Lib.hid (HG.out (noneB_end HNo.out))
        go_wp2_with fail
        go_ret
        exact ⟨ret_int HW.out.symm, hbr⟩
  · have HW := Lib.hid (HE.out (chkE s) (by unfold oneB; rw [if_neg h1, if_neg h2, if_pos h3]) h3)
    obtain ⟨ce, hce⟩ : ∃ ce, chkE s = ce := ⟨_, rfl⟩
    rw [hce] at h3 CC HW
    have a1 : (ce != 0) = true := bne_iff_ne.2 h3
    clear h1 hln h2 h3 HE hce
    go_enter Try.func32, Try.ntmps32
    go_wp2_with fail
    refine (CC.out _).mono ?_
    rw [← hW0]
    rintro e w1 ⟨rfl, hb1⟩
    obtain ⟨hbw, hxw⟩ := HB.out w1 hb1
    obtain ⟨q0, q1, q2, q3⟩ := box4_facts hxw
    go_wp2_with fail
    go_ret
    exact ⟨ret_int HW.out.symm, hbw⟩
set_option maxRecDepth 100000 in
set_option maxHeartbeats 3200000 in
theorem rbCheck_any (v : Value) (T : List Bd) (w : World) (h : BsAt w v T) (hs : SmB T) :
    Calls Try.prog 13 #[v] w fun e w' => e = .returned (chkV T) ∧ Below w.heap.size w w' := by
  have HV := Lib.hid (fun W (hW : Below w.heap.size w W) => h.below hW (Nat.le_refl _))
  obtain ⟨a, c, rfl, hc⟩ := h.slice
  obtain ⟨n, hn⟩ : ∃ n, T.length = n := ⟨_, rfl⟩
  have HN := Lib.hid hn
  rw [hn] at HV hc ⊢
  have HE : Hid (∀ r, chkB T = r → chkV T = .tuple #[.int .i64 r.1, .int .i64 r.2]) := Lib.hid fun r hr => by unfold chkV; rw [hr]
  by_cases h1 : 1000 < n
  · have HW := Lib.hid (HE.out _ (chkB_long (by omega : 1000 < T.length)))
    have d0 : decide ((1000 : Int) < (n : Int)) = true := decide_eq_true (by omega)
    clear h hn hs h1 HN HE HV
    go_enter Try.func13, Try.ntmps13
    go_wp2
    go_ret2
    exact ⟨by rw [HW.out]; rfl, Below.refl _ _⟩
  have d0 : decide ((1000 : Int) < (n : Int)) = false := decide_eq_false (by omega)
  have hn1 : n ≤ 1000 := by omega
  have CB := Lib.hid (fun k x (hx : T[k]? = some x) W (hW : Below w.heap.size w W) => rone_any _ T k x W (HV.out W hW) hs hx (by omega))
  clear h hn hs h1
  go_enter Try.func13, Try.ntmps13
  go_wp2_with fail
  go_loopw [4] (fun x4 wr => ∃ k : Nat, x4 = .int .i64 (k : Int) ∧ k ≤ n ∧ Hid (∀ j, j < k → wrgB T j = false) ∧ Below w.heap.size w wr) (fun x4 _ => n - (intOf x4).toNat)
  case atStart => exact ⟨0, rfl, Nat.zero_le _, Lib.hid (fun j hj => by omega), Below.refl _ _⟩
  case round =>
    obtain ⟨k, rfl, hk, HB, hb⟩ := hrel
    have hk0 : (0 : Int) ≤ (k : Int) := Int.natCast_nonneg _
    by_cases hlt : k < n
    · obtain ⟨x, hx⟩ : ∃ x, T[k]? = some x := ⟨_, List.getElem?_eq_getElem (by rw [HN.out]; exact hlt)⟩
      have CX := Lib.hid (CB.out k x hx wr hb)
      have HBk := Lib.hid (wrgB_at hx)
      have HBad := Lib.hid (fun h => chkB_bad (T := T) (k := k) (x := x) (by rw [HN.out]; exact hn1) hx h HB.out)
      have hk1 : (k : Int) < (n : Int) := by omega
      obtain ⟨ce, hce⟩ : ∃ ce, errB T k x = ce := ⟨_, rfl⟩
      rw [hce] at CX HBk HBad
      clear hx hce
      go_wp2_with fail
      refine CX.out.mono ?_
      rintro e w1 ⟨rfl, hb1⟩
      have hbw1 := below_step hb hb1
      by_cases h0 : ce = 0
      · have HBs : Hid (∀ j, j < k + 1 → wrgB T j = false) := Lib.hid (upto_succ HB.out (by rw [HBk.out, h0]; rfl))
        subst h0
        go_wp2_with fail
        exact ⟨⟨k + 1, by go_num, by omega, HBs, hbw1⟩, by simp [intOf]; omega⟩
      · have hne : (ce != 0) = true := bne_iff_ne.2 h0
        have HW : Hid (chkV T = .tuple #[.int .i64 (k : Int), .int .i64 ce]) := Lib.hid (HE.out _ (HBad.out h0))
        go_wp2_with fail
        go_ret2
        exact ⟨by rw [HW.out]; rfl, hbw1⟩
    · obtain rfl : k = n := by omega
      have HW : Hid (chkV T = .tuple #[.int .i64 0, .int .i64 0]) := Lib.hid (HE.out _ (chkB_good (by rw [HN.out]; exact hn1) (by rw [HN.out]; exact HB.out)))
      go_wp2_with fail
      go_ret2
      exact ⟨by rw [HW.out]; rfl, hb⟩
-- MARK9
end Go.Proofs.Ytbkkmcfpjpbhaaa
