/- scopes.Print; the law's awake. -/
import Derived.Test.YtchnmbfeaaialaaGreatDoorSof
namespace Go.Proofs.YtchnmbfeaaialaaGreatDoor
open Go.RowKit Go.PlainAid

/-- The table of strconv. -/
structure STab (w : World) : Prop where
  pow : PowIs w
  lt : 1 < w.heap.size
theorem STab.below {w w' : World} (h : STab w) (hb : Below w.heap.size w w') : STab w' := ⟨pow_below h.pow hb h.lt, Nat.lt_of_lt_of_le h.lt hb.size⟩
def prS (L : List UInt8) : List UInt8 × Int := if chkE L ≠ 0 then ([], chkE L) else listS ((idsL L).map fun n : Nat => (n : Int))
theorem ints_own {w : World} {B n : Nat} {v : Value} {l : List Nat} (h : w.ownsRow B 3 1 v n (natC l)) (hn : l.length = n) : IntsAt w v (l.map fun n : Nat => (n : Int)) := by
  rcases own_form h with ⟨rfl, h0⟩ | ⟨g, c, rfl, h1, h2⟩
  · exact .inl ⟨rfl, by rw [List.length_eq_zero_iff.1 (show l.length = 0 by omega)]; rfl⟩
  · refine .inr ⟨g, 0, c, by rw [List.length_map, hn], h2, fun j x hj => ?_⟩
    have := h.cells (g := g) rfl j (.int .i64 x) (by
      unfold natC
      rw [List.getElem?_map] at hj ⊢
      cases hq : l[j]? with
      | none => rw [hq] at hj; cases hj
      | some y => rw [hq] at hj; have := Option.some.inj hj; simp only [Option.map_some]; rw [← this])
    rw [Go.WideShapes.add_plain] at this; exact this
set_option maxRecDepth 100000 in
theorem print_any (L : List UInt8) (w : World) (hL : L.length ≤ 1000000) (T : STab w) :
    Calls Tryz.prog 5 #[.string (str L)] w fun e w' => e = .returned (strE (prS L)) ∧ Below w.heap.size w w' := by
  have C := Lib.hid (idsP_any L w hL)
  unfold IdsV at C
  by_cases h0 : chkE L = 0
  · have CL : Hid (∀ v W, Below w.heap.size w W → W.ownsRow w.heap.size 3 1 v (idsL L).length (natC (idsL L)) → Calls Tryz.prog 15 #[v] W fun e w' => e = .returned (strE (prS L)) ∧ Below W.heap.size W w') := Lib.hid fun v W hW ho => by
      have hT := T.below hW
      have := list_any v _ W (ints_own ho rfl) (by rw [List.length_map, ids_len]; omega) (fun n hn => by
        obtain ⟨m, hm, rfl⟩ := List.mem_map.1 hn
        have := ids_lt L m hm
        unfold i64r; omega) hT.pow hT.lt
      unfold ListV at this
      have e : prS L = listS ((idsL L).map fun n : Nat => (n : Int)) := by unfold prS; rw [if_neg (by simpa using h0)]
      unfold strE; rw [e]; exact this
    have HI : Hid (idsS L = (idsL L, 0)) := Lib.hid (by unfold idsS; rw [if_neg (by simpa using h0)])
    rw [HI.out] at C
    obtain ⟨S, e0, hr⟩ := strE_two (prS L)
    rw [hr] at CL ⊢
    obtain ⟨U, hU⟩ : ∃ T, str L = T := ⟨_, rfl⟩
    rw [hU] at C ⊢
    clear hr hU T h0 HI
    go_enter Tryz.func5, Tryz.ntmps5
    go_wp2_with fail
    refine C.out.mono ?_
    rintro e w1 ⟨v, rfl, ho, hb1⟩
    obtain ⟨a1, n1, c1, rfl⟩ := own_slice ho
    have CL1 := Lib.hid (CL.out _ w1 hb1 ho)
    clear ho
    go_wp2_with fail
    refine CL1.out.mono ?_
    rintro e w2 ⟨rfl, hb2⟩
    go_wp2_with fail
    go_ret2
    exact ⟨rfl, below_step hb1 hb2⟩
  · have HI : Hid (idsS L = ([], chkE L)) := Lib.hid (by unfold idsS; rw [if_pos h0])
    have HV : prS L = ([], chkE L) := by unfold prS; rw [if_pos h0]
    rw [HI.out] at C
    rw [HV]
    obtain ⟨e0, he0⟩ : ∃ e, chkE L = e := ⟨_, rfl⟩
    rw [he0] at h0 C ⊢
    have hne : (e0 != 0) = true := bne_iff_ne.2 h0
    obtain ⟨U, hU⟩ : ∃ T, str L = T := ⟨_, rfl⟩
    rw [hU] at C ⊢
    clear hU T h0 HI he0 HV
    go_enter Tryz.func5, Tryz.ntmps5
    go_wp2_with fail
    refine C.out.mono ?_
    rintro e w1 ⟨v, rfl, ho, hb1⟩
    obtain ⟨a1, n1, c1, rfl⟩ := own_slice ho
    clear ho
    go_wp2_with fail
    go_ret2
    exact ⟨rfl, hb1⟩
/-- The sets that awake asks about. -/
theorem aw_set : SetOf [1, 5, 258] := ⟨by decide, by decide, by decide⟩
theorem aw_of : ofS [5, 258, 1, 5] = ([0, 1, 0, 5, 1, 2], 0) := by
  have hb : badOf [5, 258, 1, 5] = false := by decide
  have e : ofL [5, 258, 1, 5] = [1, 5, 258] := asc_ext (asc_of _) aw_set.up fun z => by
    rw [mem_of hb]; simp; omega
  unfold ofS; rw [hb, e]; rfl
theorem aw_drop : oneS true false false [0, 1, 0, 5, 1, 2] 5 = ([0, 1, 1, 2], 0) := by
  have := one_set (f := true) (b := false) (s := false) (n := 5) aw_set (by omega)
  have e : mg true false false [1, 5, 258] [5] = [1, 258] := asc_ext (asc_mg' aw_set.up (asc_one 5)) (by decide) fun z => by
    rw [mem_mg' aw_set.up (asc_one 5)]; simp; omega
  rw [e] at this; exact this
theorem aw_flip : oneS true false true [0, 1, 0, 5, 1, 2] 6 = ([0, 1, 0, 5, 0, 6, 1, 2], 0) := by
  have := one_set (f := true) (b := false) (s := true) (n := 6) aw_set (by omega)
  have e : mg true false true [1, 5, 258] [6] = [1, 5, 6, 258] := asc_ext (asc_mg' aw_set.up (asc_one 6)) (by decide) fun z => by
    rw [mem_mg' aw_set.up (asc_one 6)]; simp; omega
  rw [e] at this; exact this
theorem aw_print : prS [0, 1, 0, 5, 0, 6, 1, 2] = ([49, 44, 53, 45, 54, 44, 50, 53, 56], 0) := by kernel_rfl
theorem aw_rel : relS [0, 1] [0, 1, 0, 5, 1, 2] = (1, 0) := by decide
theorem aw_add : (oneS true true true [0, 1, 0, 5, 1, 2] 65536) = ([], 7) := by decide
-- MARK1
set_option maxRecDepth 100000 in
set_option maxHeartbeats 3200000 in
theorem awake_any (w : World) (T : STab w) : Calls Tryz.prog 4 #[] w fun e w' => e = .returned (.bool true) ∧ Below w.heap.size w w' := by
  have CO : Hid (Calls Tryz.prog 9 #[.slice (some ⟨w.heap.size, 0, none⟩) 4 4] (w.alloc (.cells #[.int .i64 5, .int .i64 258, .int .i64 1, .int .i64 5] 3)) fun e w' => e = .returned (.tuple #[.string ⟨#[0, 1, 0, 5, 1, 2]⟩, .int .i64 0]) ∧ Below w.heap.size w w') := Lib.hid (by
    have hA : NumAt (w.alloc (.cells #[.int .i64 5, .int .i64 258, .int .i64 1, .int .i64 5] 3)) (.slice (some ⟨w.heap.size, 0, none⟩) 4 4) [5, 258, 1, 5] := by
      refine ⟨_, 4, 4, rfl, rfl, Nat.le_refl _, .inr ⟨w.heap.size, 0, rfl, by simp, fun j x hj => ?_⟩⟩
      have h := new_cells4 w (.int .i64 5) (.int .i64 258) (.int .i64 1) (.int .i64 5) 3 _ rfl
      have h2 := h j (.int .i64 x) (by
        match j, hj with
        | 0, hj => have := Option.some.inj hj; rw [← this]; rfl
        | 1, hj => have := Option.some.inj hj; rw [← this]; rfl
        | 2, hj => have := Option.some.inj hj; rw [← this]; rfl
        | 3, hj => have := Option.some.inj hj; rw [← this]; rfl)
      rw [Go.WideShapes.add_plain] at h2; exact h2
    have := of_any _ _ _ hA.loose (by show 4 ≤ 100000; omega)
    rw [aw_of] at this
    exact this.mono fun e w' h => ⟨h.1, below_step ((Below.refl _ w).alloc (Nat.le_refl _) _) h.2⟩)
  have CD := Lib.hid (fun W => drop_any [0, 1, 0, 5, 1, 2] 5 W (by show 6 ≤ 100000; omega))
  have CF := Lib.hid (fun W => flip_any [0, 1, 0, 5, 1, 2] 6 W (by show 6 ≤ 100000; omega))
  have CP := Lib.hid (fun W hT => print_any [0, 1, 0, 5, 0, 6, 1, 2] W (by show 8 ≤ 1000000; omega) hT)
  have CR := Lib.hid (fun W => rel_any [0, 1] [0, 1, 0, 5, 1, 2] W (by show 2 ≤ 100000; omega) (by show 6 ≤ 100000; omega))
  have CA := Lib.hid (fun W => add_any [0, 1, 0, 5, 1, 2] 65536 W (by show 6 ≤ 100000; omega))
  rw [aw_drop] at CD
  rw [aw_flip] at CF
  rw [aw_print] at CP
  rw [aw_rel] at CR
  rw [aw_add] at CA
  unfold strE str at CD CF CP CA
  unfold str at CR
  simp only at CD CF CP CR CA
  have HT := Lib.hid T
  clear T
  go_enter Tryz.func4, Tryz.ntmps4
  go_wp2_with fail
  refine CO.out.mono ?_
  rintro e w1 ⟨rfl, hb1⟩
  go_wp2_with fail
  refine (CD.out _).mono ?_
  rintro e w2 ⟨rfl, hb2⟩
  have hB2 := below_step hb1 hb2
  go_wp2_with fail
  refine (CF.out _).mono ?_
  rintro e w3 ⟨rfl, hb3⟩
  have hB3 := below_step hB2 hb3
  go_wp2_with fail
  refine (CP.out _ (HT.out.below hB3)).mono ?_
  rintro e w4 ⟨rfl, hb4⟩
  have hB4 := below_step hB3 hb4
  go_wp2_with fail
  refine (CR.out _).mono ?_
  rintro e w5 ⟨rfl, hb5⟩
  have hB5 := below_step hB4 hb5
  go_wp2_with fail
  refine (CA.out _).mono ?_
  rintro e w6 ⟨rfl, hb6⟩
  have hB6 := below_step hB5 hb6
  go_wp2_with fail
  go_ret
  exact ⟨rfl, hB6⟩
end Go.Proofs.YtchnmbfeaaialaaGreatDoor
