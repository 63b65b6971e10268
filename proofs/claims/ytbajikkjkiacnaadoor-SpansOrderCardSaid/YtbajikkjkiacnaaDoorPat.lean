/- Layer 3: At. -/
import Derived.Test.YtbajikkjkiacnaaDoorPplace
namespace Go.Proofs.YtbajikkjkiacnaaDoor
open Go.RowKit Go.PlainAid

theorem linesF_bd : ∀ (l : List UInt8) (a i : Nat) (s : Sp), a ≤ i → s ∈ linesF (a : Int) (i : Int) l → (a : Int) ≤ s.1 ∧ s.1 ≤ s.2 ∧ s.2 ≤ ((i + l.length : Nat) : Int) := by
  intro l
  induction l with
  | nil =>
    intro a i s h hs
    rw [linesF] at hs
    rw [List.mem_singleton.1 hs]
    simp only [List.length_nil]; omega
  | cons c t ih =>
    intro a i s h hs
    rw [linesF] at hs
    simp only [List.length_cons]
    split at hs
    · rcases List.mem_cons.1 hs with rfl | hs
      · simp only; omega
      · have := ih (i + 1) (i + 1) s (Nat.le_refl _) (by rw [show ((i + 1 : Nat) : Int) = (i : Int) + 1 by omega]; exact hs)
        omega
    · have := ih a (i + 1) s (by omega) (by rw [show ((i + 1 : Nat) : Int) = (i : Int) + 1 by omega]; exact hs)
      omega
/-- The bytes of a span. -/
def segL (l : List UInt8) (s : Sp) : List UInt8 := (l.take s.2.toNat).drop s.1.toNat
/-- What At returns. -/
def atP (l : List UInt8) (i j : Int) : Int × Int :=
  if (linesS l).2 ≠ 0 then (0, (linesS l).2) else if i < 1 ∨ ((linesS l).1.length : Int) < i then (0, 4)
  else if (startsS (segL l (gs (linesS l).1 (i - 1).toNat))).2 ≠ 0 then (0, (startsS (segL l (gs (linesS l).1 (i - 1).toNat))).2)
  else if j < 1 ∨ ((startsS (segL l (gs (linesS l).1 (i - 1).toNat))).1.length : Int) < j then (0, 4)
  else ((gs (linesS l).1 (i - 1).toNat).1 + ((startsS (segL l (gs (linesS l).1 (i - 1).toNat))).1.getD (j - 1).toNat 0 : Nat), 0)
def pairV (r : Int × Int) : Value := .tuple #[.int .i64 r.1, .int .i64 r.2]

set_option maxRecDepth 50000 in
set_option maxHeartbeats 3200000 in
theorem At_any (a : Option Addr) (n c : Nat) (l : List UInt8) (i j : Int) (w : World) (h : BytesAt w (.slice a n c) l) (hn : n = l.length) (hcap : n ≤ c) (hl : l.length ≤ 1000000) (hm : MarksTab w) (hg : 0 < w.heap.size) :
    Calls Tryd.prog 35 #[.slice a n c, .int .i64 i, .int .i64 j] w fun e w' => e = .returned (pairV (atP l i j)) ∧ Below w.heap.size w w' := by
  obtain ⟨L, hL⟩ : ∃ L, (linesS l).1 = L := ⟨_, rfl⟩
  obtain ⟨e, he⟩ : ∃ e, (linesS l).2 = e := ⟨_, rfl⟩
  obtain ⟨p, hp⟩ : ∃ p, L.length = p := ⟨_, rfl⟩
  have C1 : Hid (Calls Tryd.prog 28 #[.slice a n c] w fun e' w1 => ∃ x cc, e' = .returned (.tuple #[.slice x p cc, .int .i64 e]) ∧ SpsAt w1 (.slice x p cc) L ∧ Below w.heap.size w w1) := Lib.hid (by
    refine (Lines_any _ l w h hl hm hg).mono ?_
    rintro e' w1 ⟨v, h1, h2, h3⟩
    rw [he] at h1
    rw [hL] at h2
    have h4 := SpsAt.own h2
    obtain ⟨x, cc, rfl⟩ := h4.slice
    rw [hp] at h1 h4
    exact ⟨_, _, h1, h4, h3⟩)
  have hpl : p ≤ 1000001 := by
    rw [← hp, ← hL]; unfold linesS; split
    · show (linesF 0 0 l).length ≤ _
      have := linesF_len l 0 0; omega
    · simp
  by_cases hc : e = 0
  · by_cases hi : i < 1 ∨ (p : Int) < i
    · have HV : Hid (pairV (atP l i j) = .tuple #[.int .i64 0, .int .i64 4]) := Lib.hid (by unfold atP; rw [he, if_neg (by simpa using hc), hL, hp, if_pos hi]; rfl)
      subst hc
      clear h hn hcap hl hm hL he hp
      by_cases hi1 : i < 1
      all_goals (
        go_enter Tryd.func35, Tryd.ntmps35
        go_wp2_with (go_at_call 28; refine C1.out.mono ?_; rintro e w1 ⟨x, cc, rfl, hr1, hb1⟩; clear hr1)
        all_goals first
          | (exfalso; omega)
          | (go_returns; exact ⟨(congrArg Ending.returned HV.out).symm, hb1⟩))
    · have hLe : L = linesG l := by rw [← hL]; unfold linesS; split
                                    · rfl
                                    · rename_i hq; exfalso; apply hq; rw [← hc, ← he]; unfold linesS; rw [if_neg hq]
      obtain ⟨m, hm1⟩ : ∃ m : Nat, i = (m : Int) + 1 := ⟨(i - 1).toNat, by omega⟩
      have hmp : m < p := by omega
      obtain ⟨s, hs⟩ : ∃ s, L[m]? = some s := ⟨_, List.getElem?_eq_getElem (by omega)⟩
      obtain ⟨f, t, hst, hft, htn⟩ : ∃ f t : Nat, s = ((f : Int), (t : Int)) ∧ f ≤ t ∧ t ≤ n := by
        have hb := linesF_bd l 0 0 s (Nat.le_refl _) (by rw [hLe] at hs; exact List.mem_of_getElem? hs)
        refine ⟨s.1.toNat, s.2.toNat, ?_, by omega, by omega⟩
        rw [Prod.ext_iff]; simp only; omega
      subst hst
      have hgs : gs L (i - 1).toNat = ((f : Int), (t : Int)) := by rw [hm1]; rw [show ((m : Int) + 1 - 1).toNat = m by omega]; exact gs_at hs
      have hseg : segL l ((f : Int), (t : Int)) = (l.take t).drop f := by unfold segL; simp
      obtain ⟨S, hS⟩ : ∃ S, (startsS ((l.take t).drop f)).1 = S := ⟨_, rfl⟩
      obtain ⟨d, hd⟩ : ∃ d, (startsS ((l.take t).drop f)).2 = d := ⟨_, rfl⟩
      obtain ⟨q, hq⟩ : ∃ q, S.length = q := ⟨_, rfl⟩
      have hql : q ≤ 1000001 := by
        rw [← hq, ← hS]; unfold startsS; split
        · show (stS ((l.take t).drop f)).length ≤ _
          unfold stS; rw [List.length_append, begs_len]
          have := runs_len_le ((l.take t).drop f)
          rw [List.length_drop, List.length_take] at this
          simp only [List.length_cons, List.length_nil]; omega
        · simp
      have HV : Hid (pairV (atP l i j) = if d ≠ 0 then .tuple #[.int .i64 0, .int .i64 d] else if j < 1 ∨ (q : Int) < j then .tuple #[.int .i64 0, .int .i64 4] else .tuple #[.int .i64 ((f : Int) + (S.getD (j - 1).toNat 0 : Nat)), .int .i64 0]) := Lib.hid (by
        unfold atP; rw [he, if_neg (by simpa using hc), hL, hp, if_neg hi, hgs, hseg, hS, hd, hq]; split
        · rfl
        · split <;> rfl)
      have HS : Hid (∀ k : Nat, k < q → ∃ x : Nat, S[k]? = some x ∧ x ≤ n) := Lib.hid fun k hk => by
        obtain ⟨x, hx⟩ : ∃ x, S[k]? = some x := ⟨_, List.getElem?_eq_getElem (by omega)⟩
        refine ⟨x, hx, ?_⟩
        have hx2 := List.mem_of_getElem? hx
        rw [← hS] at hx2
        unfold startsS at hx2
        split at hx2
        · rename_i hchk
          have hr0 : (runs ((l.take t).drop f)).2 = 0 := by
            unfold chkS at hchk; split at hchk
            · exact absurd hchk (by decide)
            · exact hchk
          have h1 := (st_sorted (runs ((l.take t).drop f)).1 0 (runs_all _)).1
          have hlen : ((l.take t).drop f).length = wid (runs ((l.take t).drop f)).1 := by rw [← encs_len, ← runs_whole hr0]
          rw [Nat.zero_add, ← hlen] at h1
          have hle : ((l.take t).drop f).length ≤ n := by rw [List.length_drop, List.length_take]; omega
          rcases List.mem_append.1 hx2 with hx3 | hx3
          · have := (List.pairwise_append.1 h1).2.2 x hx3 _ (List.mem_singleton.2 rfl); omega
          · rw [List.mem_singleton.1 hx3]; exact hle
        · cases hx2
      have HB : Hid (∀ W, Below w.heap.size w W → BytesAt W (.slice a t c) (l.take t)) := Lib.hid fun W hb => take_at (RowAt.below h hb (Nat.le_refl _)) htn
      have HM : Hid (∀ W, Below w.heap.size w W → MarksTab W ∧ 0 < W.heap.size) := Lib.hid fun W hb => ⟨marks_below hm hb hg, Nat.lt_of_lt_of_le hg hb.size⟩
      have htc : t ≤ c := by omega
      have C3 : Hid (∀ A cc, ((c = f ∧ A = a ∧ cc = 0) ∨ (¬ c = f ∧ A = a.map (·.add f) ∧ cc = c - f)) → ∀ W, Below w.heap.size w W → Calls Tryd.prog 56 #[.slice A (t - f) cc] W fun e' w' => ∃ x cx, e' = .returned (.tuple #[.slice x q cx, .int .i64 d]) ∧ RowAt w' (.slice x q cx) (ints S) ∧ Below W.heap.size W w') := Lib.hid fun A cc hA W hb => by
        refine (starts_any _ ((l.take t).drop f) W ?_ (by rw [List.length_drop, List.length_take]; omega) (HM.out W hb).1 (HM.out W hb).2).mono ?_
        · have := drop_at (HB.out W hb) hft htc
          rcases hA with ⟨hA1, rfl, rfl⟩ | ⟨hA1, rfl, rfl⟩
          · rw [if_pos hA1, show c - f = 0 by omega] at this; exact this
          · rw [if_neg hA1] at this; exact this
        · rintro e' w1 ⟨v, h1, h2, h3⟩
          rw [hd] at h1
          rw [hS, hq] at h2
          have h4 := RowAt.own h2
          obtain ⟨x, cx, rfl⟩ := h4.slice
          rw [List.length_map, hq] at h1 h4
          exact ⟨_, _, h1, h4, h3⟩
      have hmi : i = ((m + 1 : Nat) : Int) := by omega
      have hd1 : decide (i < 1) = false := decide_eq_false (by omega)
      have hd2 : decide ((p : Int) < i) = false := decide_eq_false (by omega)
      have HL := Lib.hid (scs_at L hs)
      have hnl : n ≤ 1000000 := by omega
      subst hc
      clear h hn hl hm hL he hp hLe hs hgs hseg hS hd hq hi hm1
      subst hmi
      go_enter Tryd.func35, Tryd.ntmps35
      go_wp2_with (go_at_call 28; refine C1.out.mono ?_; rintro e w1 ⟨x, cc, rfl, hr1, hb1⟩; (rcases hr1 with ⟨_, _, _, hnil⟩ | ⟨gx, ox, cx, hvx, hgx, hcx⟩; rotate_left; obtain ⟨rfl, _, rfl⟩ := Value.slice.inj hvx; have x0 := hcx _ _ HL.out.1; have x1 : w1.cell? ⟨gx, ox + m * 2 + 1, none⟩ = some (.int .i64 (t : Int)) := hcx _ _ HL.out.2; clear hcx hvx; rotate_left; (exfalso; have := HL.out.1; rw [hnil] at this; simp [scs] at this)))
      all_goals
        refine (C3.out _ _ (by first | exact .inl ⟨by assumption, rfl, rfl⟩ | exact .inr ⟨by assumption, rfl, rfl⟩) _ (hb1.alloc hb1.size _)).mono ?_
        rintro e w2 ⟨xa, xc, rfl, hr2, hb2⟩
        first | subst c | clear h
        obtain ⟨e0, e1, hb3⟩ := one_cells _ _ _ _ _ hb2
        have hB3 := hb1.trans (hb3.mono hb1.size)
        by_cases hd0 : d = 0
        · by_cases hj : j < 1 ∨ (q : Int) < j
          · have HE : Hid (pairV (atP l ((m + 1 : Nat) : Int) j) = .tuple #[.int .i64 0, .int .i64 4]) := Lib.hid (by rw [HV.out, if_neg (by simpa using hd0), if_pos hj])
            subst hd0
            clear hr2
            by_cases hj1 : j < 1
            · have dj1 : decide (j < 1) = true := decide_eq_true hj1
              clear hj
              go_wp2_with fail
              go_returns
              exact ⟨(congrArg Ending.returned HE.out).symm, hB3⟩
            · have dj1 : decide (j < 1) = false := decide_eq_false hj1
              have dj2 : decide ((q : Int) < j) = true := decide_eq_true (by omega)
              clear hj
              go_wp2_with fail
              all_goals first
                | (exfalso; omega)
                | (go_returns; exact ⟨(congrArg Ending.returned HE.out).symm, hB3⟩)
          · obtain ⟨k, hk⟩ : ∃ k : Nat, j = ((k + 1 : Nat) : Int) := ⟨(j - 1).toNat, by omega⟩
            have hkq : k < q := by omega
            obtain ⟨x, hx, hxn⟩ := HS.out k hkq
            have HE : Hid (pairV (atP l ((m + 1 : Nat) : Int) j) = .tuple #[.int .i64 ((f : Int) + (x : Int)), .int .i64 0]) := Lib.hid (by
              rw [HV.out, if_neg (by simpa using hd0), if_neg hj, hk, show (((k + 1 : Nat) : Int) - 1).toNat = k by omega, List.getD_eq_getElem?_getD, hx]; rfl)
            have dj1 : decide (j < 1) = false := decide_eq_false (by omega)
            have dj2 : decide ((q : Int) < j) = false := decide_eq_false (by omega)
            rcases hr2 with ⟨_, _, hv, hnil⟩ | ⟨gs2, os2, ns2, cs2, hv, _, _, hc2⟩
            · have := (Value.slice.inj hv).2.1; omega
            · obtain ⟨rfl, _, rfl⟩ := Value.slice.inj hv
              have y0 : w2.cell? ⟨gs2, os2 + k, none⟩ = some (.int .i64 (x : Int)) := hc2 k _ (by unfold ints; rw [List.getElem?_map, hx]; rfl)
              subst hd0 hk
              have hk0 : (0 : Int) ≤ (k : Int) := Int.natCast_nonneg _
              have hk1 : (k : Int) < ((ints S).length : Int) := by omega
              clear hj hc2 hv hx
              go_wp2_with fail
              go_quiet (fail)
              go_wp2
              all_goals first
                | (exfalso; omega)
                | (go_returns; exact ⟨(congrArg Ending.returned HE.out).symm, ⟨hB3.os, hB3.tape, hB3.output, hB3.size, hB3.block⟩⟩)
        · have HE : Hid (pairV (atP l ((m + 1 : Nat) : Int) j) = .tuple #[.int .i64 0, .int .i64 d]) := Lib.hid (by rw [HV.out, if_pos hd0])
          have hne : (d != 0) = true := by rw [bne_iff_ne]; exact hd0
          clear hd0 hr2
          go_wp2_with fail
          go_returns
          exact ⟨(congrArg Ending.returned HE.out).symm, hB3⟩
  · have HV : Hid (pairV (atP l i j) = .tuple #[.int .i64 0, .int .i64 e]) := Lib.hid (by unfold atP; rw [he, if_pos hc]; rfl)
    have hne : (e != 0) = true := by rw [bne_iff_ne]; exact hc
    clear h hn hcap hl hm hL he hc hp
    go_enter Tryd.func35, Tryd.ntmps35
    go_wp2_with (go_at_call 28; refine C1.out.mono ?_; rintro e w1 ⟨x, cc, rfl, hr1, hb1⟩; clear hr1)
    go_returns
    exact ⟨(congrArg Ending.returned HV.out).symm, hb1⟩
end Go.Proofs.YtbajikkjkiacnaaDoor
