/- The law SpansNest, walked. -/
import Derived.Test.YtbajikkjkiacnaaDoorPcover
import Derived.Deep.RegionHeld3
namespace Go.Proofs.YtbajikkjkiacnaaDoor
open Go.RowKit Go.PlainAid

theorem par_bd (l : List Sp) (s : Sp) : ∀ k, -1 ≤ parS l s k ∧ parS l s k < k := by
  intro k
  induction k with
  | zero => exact ⟨by unfold parS; omega, by unfold parS; omega⟩
  | succ k ih => unfold parS; split <;> omega
theorem par_ge {l : List Sp} {s : Sp} : ∀ (k i : Nat), i < k → wiS s (gs l i) = true → (i : Int) ≤ parS l s k := by
  intro k
  induction k with
  | zero => intro i h; omega
  | succ k ih =>
    intro i h hw
    unfold parS
    split
    · omega
    · rename_i hn
      by_cases e : i = k
      · rw [e] at hw; exact absurd hw hn
      · exact ih i (by omega) hw
theorem par_eq {l : List Sp} {s : Sp} : ∀ (k i : Nat), parS l s k = (i : Int) → wiS s (gs l i) = true := by
  intro k
  induction k with
  | zero => intro i h; unfold parS at h; omega
  | succ k ih =>
    intro i h
    unfold parS at h
    split at h
    · rename_i hw
      obtain rfl : k = i := by omega
      exact hw
    · exact ih i h
theorem nest_cases (l : List Sp) (h : l.length ≤ 2000) : (∃ k : Nat, nestS l = ([], (k : Int), 6) ∧ k < l.length) ∨ (badS l < 0 ∧ (∀ j, j < l.length → rowOk l j = true) ∧ nestS l = (parsS l l.length, 0, 0)) := by
  by_cases hb : badS l < 0
  · cases hf : (List.range l.length).find? (fun k => !rowOk l k) with
    | some k =>
      have h1 := List.find?_range_eq_some.1 hf
      refine .inl ⟨k, ?_, by simpa using h1.2.1⟩
      unfold nestS; rw [if_neg (by omega), if_neg (by omega), hf]
    | none =>
      refine .inr ⟨hb, fun j hj => ?_, ?_⟩
      · have := List.find?_eq_none.1 hf j (List.mem_range.2 hj)
        simpa using this
      · unfold nestS; rw [if_neg (by omega), if_neg (by omega), hf]
  · obtain ⟨k, hk⟩ : ∃ k : Nat, badS l = (k : Int) := ⟨(badS l).toNat, by omega⟩
    refine .inl ⟨k, ?_, ?_⟩
    · unfold nestS; rw [if_neg (by omega), if_pos (by omega), hk]
    · rcases badS_bd l with h1 | h1
      · omega
      · subst h1; exact absurd hk (by unfold badS; simp)

set_option maxRecDepth 100000 in
set_option maxHeartbeats 6400000 in
theorem lawN_small (a : Option Addr) (n c : Nat) (l : List Sp) (w : World) (T : PTabs w) (h : SpsAt w (.slice a n c) l) (hn : n = l.length) (hb : n ≤ 60) :
    Calls Tryd.prog 9 #[.slice a n c] w fun e w' => e = .returned (.bool true) ∧ Below w.heap.size w w' := by
  have CA : Hid (∀ W, Below w.heap.size w W → Calls Tryd.prog 12 #[] W fun e w' => e = .returned (.bool true) ∧ Below W.heap.size W w') := Lib.hid fun W hb => awake_any W (T.below hb)
  have H := Lib.hid h
  have HN := Lib.hid hn
  have hd1 : decide ((60 : Int) < (n : Int)) = false := decide_eq_false (by omega)
  rcases nest_cases l (by omega) with ⟨q, hq, hql⟩ | ⟨hbad, hrow, hq⟩
  · have C1 : Hid (Calls Tryd.prog 25 #[.slice a n c] w fun e w1 => e = .returned (.tuple #[.slice none 0 0, .int .i64 (q : Int), .int .i64 6]) ∧ Below w.heap.size w w1 ∨ ∃ g cx, e = .returned (.tuple #[.slice (some ⟨g, 0, none⟩) 0 cx, .int .i64 (q : Int), .int .i64 6]) ∧ Below w.heap.size w w1) := Lib.hid (by
      refine (nest_any _ l w h (by omega)).mono ?_
      rintro e w1 ⟨v, h1, h2, h3⟩
      rw [hq] at h1 h2
      rcases own_form h2 with ⟨rfl, _⟩ | ⟨g, cx, rfl, _⟩
      · exact .inl ⟨h1, h3⟩
      · exact .inr ⟨g, cx, h1, h3⟩)
    have hqn : (q : Int) < (n : Int) := by omega
    clear h hn T hq hql
    go_enter Tryd.func9, Tryd.ntmps9
    go_wp2_with fail
    refine C1.out.mono ?_
    rintro e w1 (⟨rfl, hb1⟩ | ⟨g, cx, rfl, hb1⟩)
    all_goals
      go_wp2_with (go_at_call 12; refine (CA.out _ hb1).mono ?_; rintro e w2 ⟨rfl, hb2⟩)
      go_ret
      exact ⟨rfl, hb1.trans (hb2.mono hb1.size)⟩
  · have C1 : Hid (Calls Tryd.prog 25 #[.slice a n c] w fun e w1 => ∃ x cx, e = .returned (.tuple #[.slice x n cx, .int .i64 0, .int .i64 0]) ∧ RowAt w1 (.slice x n cx) ((parsS l n).map (Value.int .i64)) ∧ Below w.heap.size w w1) := Lib.hid (by
      refine (nest_any _ l w h (by omega)).mono ?_
      rintro e w1 ⟨v, h1, h2, h3⟩
      rw [hq, ← hn] at h1 h2
      rw [parsS_len] at h2
      have h4 := RowAt.own h2
      obtain ⟨x, cx, rfl⟩ := h4.slice
      rw [List.length_map, parsS_len] at h1 h4
      exact ⟨x, cx, h1, h4, h3⟩)
    have HQ : Hid (∀ k i, k < n → i < k → fineS (gs l k) (gs l i) = true) := Lib.hid fun k i h1 h2 => rowOk_iff.1 (hrow k (by omega)) i h2
    have HO : Hid (∀ k s, l[k]? = some s → okS s = true) := Lib.hid (badS_all hbad)
    clear h hn T hq hrow hbad
    go_enter Tryd.func9, Tryd.ntmps9
    go_wp2_with fail
    refine C1.out.mono ?_
    rintro e w1 ⟨x, cx, rfl, hr1, hb1⟩
    have HR1 := Lib.hid hr1
    clear hr1
    go_wp2_with fail
    go_loopw [6] (fun x6 wr => ∃ k : Nat, x6 = .int .i64 k ∧ k ≤ n ∧ Below w1.heap.size w1 wr) (fun x6 _ => n - (intOf x6).toNat)
    case atStart => exact ⟨0, rfl, Nat.zero_le _, Below.refl _ _⟩
    case round =>
      obtain ⟨k, rfl, hk, hB⟩ := hrel
      by_cases hlt : k < n
      · obtain ⟨s, hs⟩ : ∃ s, l[k]? = some s := ⟨_, List.getElem?_eq_getElem (by rw [← HN.out]; exact hlt)⟩
        obtain ⟨ka, kb⟩ := s
        obtain ⟨P, hP⟩ : ∃ P, parS l (gs l k) k = P := ⟨_, rfl⟩
        have hbd := par_bd l (gs l k) k
        rw [hP] at hbd
        obtain ⟨hp1, hp2⟩ := hbd
        have hpk : (parsS l n)[k]? = some P := by
          unfold parsS; rw [List.getElem?_map, List.getElem?_range hlt]; simp only [Option.map_some]; rw [hP]
        have HPG : Hid (∀ i, i < k → wiS (gs l k) (gs l i) = true → (i : Int) ≤ P) := Lib.hid fun i h1 h2 => by rw [← hP]; exact par_ge k i h1 h2
        have HPE : Hid (∀ i : Nat, P = (i : Int) → wiS (gs l k) (gs l i) = true) := Lib.hid fun i h1 => par_eq k i (by rw [hP]; exact h1)
        have hBw := hb1.trans (hB.mono hb1.size)
        rcases H.out.below hBw (Nat.le_refl _) with ⟨_, _, _, hnil⟩ | ⟨gl, off, cc, hv, hgl, hcl⟩
        · rw [hnil] at hs; simp at hs
        · obtain ⟨rfl, hv2, rfl⟩ := Value.slice.inj hv
          rcases RowAt.below HR1.out hB (Nat.le_refl _) with ⟨_, _, hv', hnil⟩ | ⟨gp, op, np, cp, hv', _, hgp, hcp⟩
          · have := (Value.slice.inj hv').2.1; omega
          · obtain ⟨rfl, hv3, rfl⟩ := Value.slice.inj hv'
            have HK0 := Lib.hid (scs_at l hs)
            have HKg : Hid (gs l k = (ka, kb)) := Lib.hid (gs_at hs)
            have HKo : Hid (okS (ka, kb) = true) := Lib.hid (HO.out k _ hs)
            have HCL := Lib.hid hcl
            have hp0 : (0 : Int) ≤ (k : Int) := Int.natCast_nonneg _
            have hp3 : (k : Int) < (n : Int) := by omega
            have HPc : Hid (∀ W, Below wr.heap.size wr W → W.cell? ⟨gp, op + k, none⟩ = some (.int .i64 P)) := Lib.hid fun W hb => (hb.cell (p := ⟨gp, op + k, none⟩) hgp).trans (hcp k _ (by rw [List.getElem?_map, hpk]; rfl))
            have q0 := HPc.out wr (Below.refl _ _)
            have dP1 : decide (P < -1) = false := decide_eq_false (by omega)
            have dP2 : decide (P ≥ (k : Int)) = false := decide_eq_false (by omega)
            have dP3 : decide ((k : Int) ≤ P) = false := decide_eq_false (by omega)
            obtain ⟨wo, hwo⟩ : ∃ x, x = wr := ⟨_, rfl⟩
            subst hwo
            clear hcl hcp hv hv' hv2 hv3 hs hP hpk
            go_wp2
            go_loopw [7] (fun x7 wx => ∃ i : Nat, x7 = .int .i64 i ∧ i ≤ k ∧ Below wo.heap.size wo wx) (fun x7 _ => k - (intOf x7).toNat)
            case atStart => exact ⟨0, rfl, Nat.zero_le _, by first | exact Below.refl _ _ | exact ⟨rfl, rfl, rfl, Nat.le_refl _, fun _ _ => rfl⟩⟩
            case round =>
              obtain ⟨i, rfl, hik, hBi⟩ := hrel
              by_cases hilt : i < k
              · obtain ⟨t, ht⟩ : ∃ t, l[i]? = some t := ⟨_, List.getElem?_eq_getElem (by rw [← HN.out]; omega)⟩
                obtain ⟨ia, ib⟩ := t
                have HI0 := Lib.hid (scs_at l ht)
                have HIg : Hid (gs l i = (ia, ib)) := Lib.hid (gs_at ht)
                have hio := HO.out i _ ht
                have HX : Hid (∀ W, Below wo.heap.size wo W → W.cell? ⟨gl, off + k * 2, none⟩ = some (.int .i64 ka) ∧ W.cell? ⟨gl, off + k * 2 + 1, none⟩ = some (.int .i64 kb) ∧ W.cell? ⟨gl, off + i * 2, none⟩ = some (.int .i64 ia) ∧ W.cell? ⟨gl, off + i * 2 + 1, none⟩ = some (.int .i64 ib)) := Lib.hid fun W hb =>
                  ⟨(hb.cell (p := ⟨gl, off + k * 2, none⟩) hgl).trans (HCL.out _ _ HK0.out.1), (hb.cell (p := ⟨gl, off + k * 2 + 1, none⟩) hgl).trans (HCL.out _ _ HK0.out.2), (hb.cell (p := ⟨gl, off + i * 2, none⟩) hgl).trans (HCL.out _ _ HI0.out.1), (hb.cell (p := ⟨gl, off + i * 2 + 1, none⟩) hgl).trans (HCL.out _ _ HI0.out.2)⟩
                obtain ⟨x0, x1, x2, x3⟩ := HX.out wr hBi
                have q1 := HPc.out wr hBi
                obtain ⟨u, hu⟩ : ∃ u, wiS (ka, kb) (ia, ib) = u := ⟨_, rfl⟩
                obtain ⟨v, hv⟩ : ∃ v, beS (ia, ib) (ka, kb) = v := ⟨_, rfl⟩
                have CW : Hid (∀ W, Calls Tryd.prog 17 #[.agg #[.int .i64 ka, .int .i64 kb], .agg #[.int .i64 ia, .int .i64 ib]] W fun e w' => e = .returned (.tuple #[.bool u, .int .i64 0]) ∧ Below W.heap.size W w') := Lib.hid fun W => by
                  have := Within_any ka kb ia ib W
                  unfold withinS at this; rw [HKo.out, hio, if_neg (by simp), hu] at this; exact this
                have CB : Hid (∀ W, Calls Tryd.prog 19 #[.agg #[.int .i64 ia, .int .i64 ib], .agg #[.int .i64 ka, .int .i64 kb]] W fun e w' => e = .returned (.tuple #[.bool v, .int .i64 0]) ∧ Below W.heap.size W w') := Lib.hid fun W => by
                  have := Before_any ia ib ka kb W
                  unfold beforeS at this; rw [HKo.out, hio, if_neg (by simp), hv] at this; exact this
                have hf := HQ.out k i hlt hilt
                rw [HKg.out, HIg.out] at hf
                unfold fineS at hf
                rw [hu, hv] at hf
                have hge := HPG.out i hilt
                rw [HKg.out, HIg.out, hu] at hge
                have heq := HPE.out i
                rw [HKg.out, HIg.out, hu] at heq
                have hi0 : (0 : Int) ≤ (i : Int) := Int.natCast_nonneg _
                have hi1 : (i : Int) < (n : Int) := by omega
                have hHWD : Below wo.heap.size wo wr.drew := ⟨hBi.os, hBi.tape, hBi.output, hBi.size, hBi.block⟩
                have HWD := Lib.hid hHWD
                clear ht hio hu hv hHWD
                have key : (u = true ∧ (i : Int) ≤ P) ∨ (u = false ∧ v = true ∧ P ≠ (i : Int)) := by
                  cases u
                  · right; refine ⟨rfl, by simpa using hf, fun h => ?_⟩
                    have := heq h; cases this
                  · exact .inl ⟨rfl, hge rfl⟩
                have HU := Lib.hid key
                clear hf hge heq key
                go_wp2
                go_region_held3 (fun w' => w'.cell? ⟨gl, off + k * 2, none⟩ = some (.int .i64 ka) ∧ w'.cell? ⟨gl, off + k * 2 + 1, none⟩ = some (.int .i64 kb) ∧ w'.cell? ⟨gl, off + i * 2, none⟩ = some (.int .i64 ia) ∧ w'.cell? ⟨gl, off + i * 2 + 1, none⟩ = some (.int .i64 ib)) (go_keep) (first | (go_at_call 17; refine (CW.out _).mono ?_; rintro e w2 ⟨rfl, hb2⟩; have hb2B := HWD.out.trans (hb2.mono HWD.out.size); obtain ⟨ya, yb, yc, yd⟩ := HX.out _ hb2B))
                go_wp2
                have HWE : Hid (Below wo.heap.size wo w2.drew) := Lib.hid ⟨hb2B.os, hb2B.tape, hb2B.output, hb2B.size, hb2B.block⟩
                go_region_held3 (fun w' => w'.cell? ⟨gl, off + k * 2, none⟩ = some (.int .i64 ka) ∧ w'.cell? ⟨gl, off + k * 2 + 1, none⟩ = some (.int .i64 kb) ∧ w'.cell? ⟨gl, off + i * 2, none⟩ = some (.int .i64 ia) ∧ w'.cell? ⟨gl, off + i * 2 + 1, none⟩ = some (.int .i64 ib)) (go_keep) (first | (go_at_call 19; refine (CB.out _).mono ?_; rintro e w3 ⟨rfl, hb3⟩; have hb3B := HWE.out.trans (hb3.mono HWE.out.size); obtain ⟨za, zb, zc, zd⟩ := HX.out _ hb3B))
                have q2 := HPc.out w3 hb3B
                rcases HU.out with ⟨rfl, hle⟩ | ⟨rfl, rfl, hne⟩
                · have e1 : decide ((i : Int) > P) = false := decide_eq_false (by omega)
                  have e2 : decide (P < (i : Int)) = false := decide_eq_false (by omega)
                  by_cases heP : (i : Int) = P
                  · have e3 : ((i : Int) == P) = true := by rw [beq_iff_eq]; exact heP
                    cases v <;> (
                      go_wp2
                      exact ⟨⟨i + 1, int_v (by omega), by omega, hb3B⟩, by simp [intOf]; omega⟩)
                  · have e3 : ((i : Int) == P) = false := by rw [beq_eq_false_iff_ne]; exact heP
                    cases v <;> (
                      go_wp2
                      exact ⟨⟨i + 1, int_v (by omega), by omega, hb3B⟩, by simp [intOf]; omega⟩)
                · have e3 : ((i : Int) == P) = false := by rw [beq_eq_false_iff_ne]; exact fun h => hne h.symm
                  go_wp2
                  exact ⟨⟨i + 1, int_v (by omega), by omega, hb3B⟩, by simp [intOf]; omega⟩
              · obtain rfl : i = k := by omega
                go_wp2
                go_roundw
                case rel => exact ⟨i + 1, by go_num, by omega, hB.trans (hBi.mono hB.size)⟩
                case measure => simp [intOf]; omega
      · obtain rfl : k = n := by omega
        have hBw := hb1.trans (hB.mono hb1.size)
        go_wp2_with (go_at_call 12; refine (CA.out _ hBw).mono ?_; rintro e w2 ⟨rfl, hb2⟩)
        go_ret
        exact ⟨rfl, hBw.trans (hb2.mono hBw.size)⟩

theorem lawN_any (v : Value) (l : List Sp) (w : World) (T : PTabs w) (h : SpArg w v l) :
    Calls Tryd.prog 9 #[v] w fun e w' => e = .returned (.bool true) ∧ Below w.heap.size w w' := by
  obtain ⟨a, n, c, rfl, hn, hc, h⟩ := h
  by_cases hb : n ≤ 60
  · exact lawN_small a n c l w T h hn hb
  · have hd : decide ((60 : Int) < (n : Int)) = true := decide_eq_true (by omega)
    have CA := Lib.hid (awake_any w T)
    clear T h hn
    go_enter Tryd.func9, Tryd.ntmps9
    go_wp2_with (go_at_call 12; refine CA.out.mono ?_; rintro e w1 ⟨rfl, hb1⟩)
    go_ret
    exact ⟨rfl, hb1⟩
end Go.Proofs.YtbajikkjkiacnaaDoor
