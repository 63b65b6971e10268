/- Texts of sets: mathematics; Parse, the reference's Print and Parse (the great seat). -/
import Derived.Test.YtchnmbfeaaialaaGreatDoorSro
namespace Go.Proofs.YtchnmbfeaaialaaGreatDoor
open Go.RowKit Go.PlainAid

/-- What Parse returns. -/
def psS (T : List UInt8) : List UInt8 × Int := if (parseV T).2 ≠ 0 then ([], (parseV T).2) else ofS (parseV T).1
structure ZTab (w : World) : Prop where
  tab : STab w
  mx : MaxIs w
  rg : RangeIs w
  rl : 3 < w.heap.size
theorem ZTab.below {w w' : World} (h : ZTab w) (hb : Below w.heap.size w w') : ZTab w' :=
  ⟨h.tab.below hb, h.mx.below hb, range_below h.rg hb h.rl, Nat.lt_of_lt_of_le h.rl hb.size⟩
theorem runs_len : ∀ (f : Nat) (l : List Int) (p : Nat), (∀ n ∈ l, i64r n) → (runsFrom f l p).length ≤ f ∧ ∀ t ∈ runsFrom f l p, t.length ≤ 43 := by
  intro f
  induction f with
  | zero => intro l p _; exact ⟨Nat.le_refl _, fun t h => (by cases h)⟩
  | succ f ih =>
    intro l p h
    rw [runsFrom]
    split
    · rename_i a b ha hb
      obtain ⟨h1, h2⟩ := ih l (runE l p) h
      refine ⟨by simp only [List.length_cons]; omega, fun t ht => ?_⟩
      rcases List.mem_cons.1 ht with rfl | ht
      · exact runT_len (h a (List.mem_of_getElem? ha)) (h b (List.mem_of_getElem? hb))
      · exact h2 t ht
    · exact ⟨Nat.zero_le _, fun t h => (by cases h)⟩
theorem listS_len {l : List Int} (h : ∀ n ∈ l, i64r n) : (listS l).1.length ≤ 50000 := by
  unfold listS
  by_cases h1 : 500 < l.length
  · rw [if_pos h1]; exact Nat.zero_le _
  · rw [if_neg h1]
    split
    · exact Nat.zero_le _
    · split
      · exact Nat.zero_le _
      · split
        · simp
        · obtain ⟨h2, h3⟩ := runs_len l.length l 0 h
          have := join_le h3
          simp only
          omega
theorem ids_i64 (L : List UInt8) : ∀ n ∈ (idsL L).map (fun n : Nat => (n : Int)), i64r n := fun n hn => by
  obtain ⟨m, hm, rfl⟩ := List.mem_map.1 hn
  have := ids_lt L m hm
  unfold i64r; omega
theorem prS_len (L : List UInt8) : (prS L).1.length ≤ 50000 := by
  unfold prS
  split
  · exact Nat.zero_le _
  · exact listS_len (ids_i64 L)
theorem listS_few {l : List Int} (h : (listS l).2 = 0) : l.length ≤ 500 ∧ ascB l = true := by
  by_cases h1 : 500 < l.length
  · rw [listS_3 h1] at h; cases h
  by_cases h2 : badNum l = true
  · rw [listS_7 h1 h2] at h; cases h
  rw [Bool.not_eq_true] at h2
  by_cases h3 : ascB l = true
  · exact ⟨by omega, h3⟩
  rw [Bool.not_eq_true] at h3
  rw [listS_6 h1 h2 h3] at h; cases h
theorem parse_few (T : List UInt8) (h : (parseV T).2 = 0) : (parseV T).1.length ≤ 500 ∧ ascB (parseV T).1 = true :=
  listS_few (by rw [list_parse h])
/-- Numbers that ascend, and are scopes, are those of their set. -/
theorem of_up {l : List Int} (ha : ascB l = true) (hb : badOf l = false) : (ofL l).map (fun n : Nat => (n : Int)) = l := by
  have hr := bad_not hb
  have e : (l.map Int.toNat).map (fun n : Nat => (n : Int)) = l := by
    rw [List.map_map]
    conv => rhs; rw [← List.map_id l]
    apply List.map_congr_left
    intro x hx
    have := hr x hx
    show ((x.toNat : Nat) : Int) = x
    omega
  have hasc : asc (l.map Int.toNat) := (asc_at _).2 fun i a b h1 h2 => by
    rw [List.getElem?_map] at h1 h2
    obtain ⟨x, hx, rfl⟩ := Option.map_eq_some_iff.1 h1
    obtain ⟨y, hy, rfl⟩ := Option.map_eq_some_iff.1 h2
    have h3 := (ascB_at l).1 ha i x y hx hy
    have h4 := hr x (List.mem_of_getElem? hx)
    have h5 := hr y (List.mem_of_getElem? hy)
    omega
  have : ofL l = l.map Int.toNat := asc_ext (asc_of l) hasc fun z => by
    rw [mem_of hb, List.mem_map]
    constructor
    · intro h; exact ⟨_, h, Int.toNat_natCast z⟩
    · rintro ⟨x, hx, rfl⟩
      have := hr x hx
      rw [show ((x.toNat : Nat) : Int) = x by omega]; exact hx
  rw [this, e]
/-- Parse of Print is the set. -/
theorem ps_pr {A : List UInt8} (h : (prS A).2 = 0) : psS (prS A).1 = (A, 0) := by
  by_cases hc : chkE A = 0
  · obtain ⟨l, rfl, hl⟩ := set_of hc
    have e : prS (setL l) = listS (l.map fun n : Nat => (n : Int)) := by unfold prS; rw [if_neg (by rw [hl.chk]; simp), hl.ids]
    rw [e] at h ⊢
    have hp := parse_list h
    obtain ⟨e1, e2⟩ := of_ids hl.up hl.lt
    have hf := hl.few
    unfold psS
    rw [hp]
    simp only
    rw [if_neg (by simp)]
    unfold ofS
    rw [e1, e2, if_neg (by simp), if_neg (by omega)]
  · have e : prS A = ([], chkE A) := by unfold prS; rw [if_pos hc]
    rw [e] at h; exact absurd h hc
/-- Print of Parse is the text. -/
theorem pr_ps {T : List UInt8} (h : (psS T).2 = 0) : prS (psS T).1 = (T, 0) := by
  unfold psS at h ⊢
  by_cases h1 : (parseV T).2 = 0
  · rw [if_neg (by simpa using h1)] at h ⊢
    obtain ⟨hf, ha⟩ := parse_few T h1
    have hp := list_parse h1
    obtain ⟨l, hl⟩ : ∃ l, (parseV T).1 = l := ⟨_, rfl⟩
    rw [hl] at h hf ha hp ⊢
    unfold ofS at h ⊢
    by_cases hb : badOf l = true
    · rw [if_pos hb] at h; cases h
    rw [if_neg hb] at h ⊢
    rw [Bool.not_eq_true] at hb
    by_cases hm : 10000 < (ofL l).length
    · rw [if_pos hm] at h; cases h
    rw [if_neg hm]
    simp only
    have hS : SetOf (ofL l) := ⟨asc_of l, of_lt l, by omega⟩
    unfold prS
    rw [if_neg (by rw [hS.chk]; simp), hS.ids, of_up ha hb, hp]
  · rw [if_pos h1] at h; exact absurd h h1
theorem out_len (d : List Nat) : (outS d).1.length ≤ 1000000 := by
  by_cases h : 10000 < d.length
  · rw [out_no h]; exact Nat.zero_le _
  · rw [out_ok (by omega)]
    have := setL_len d
    simp only; omega
theorem ofS_len (l : List Int) : (ofS l).1.length ≤ 1000000 := by
  by_cases hb : badOf l = true
  · have e : ofS l = ([], 7) := by unfold ofS; rw [if_pos hb]
    rw [e]; exact Nat.zero_le _
  · have e : ofS l = outS (ofL l) := by unfold ofS outS; rw [if_neg hb]
    rw [e]; exact out_len _
theorem ps_few (T : List UInt8) : (psS T).1.length ≤ 1000000 := by
  unfold psS
  split
  · exact Nat.zero_le _
  · exact ofS_len _
theorem parse_all (T : List UInt8) : (parseV T).2 = 0 ∨ (parseV T).2 ≠ 0 := by omega
set_option maxRecDepth 100000 in
theorem pparse_any (T : List UInt8) (w : World) (hT : T.length ≤ 50000) (Z : ZTab w) :
    Calls Tryz.prog 7 #[.string (str T)] w fun e w' => e = .returned (strE (psS T)) ∧ Below w.heap.size w w' := by
  have C := Lib.hid (parse_any T w hT Z.mx Z.rg Z.rl Z.tab.pow Z.tab.lt)
  unfold PlOut at C
  by_cases h0 : (parseV T).2 = 0
  · have CO : Hid (∀ v W, IntsAt W v (parseV T).1 → Calls Tryz.prog 9 #[v] W fun e w' => e = .returned (strE (psS T)) ∧ Below W.heap.size W w') := Lib.hid fun v W h => by
      have := of_any v _ W (num_ints h) (by have := (parse_few T h0).1; omega)
      have e : psS T = ofS (parseV T).1 := by unfold psS; rw [if_neg (by simpa using h0)]
      rw [e]; exact this
    rw [h0] at C
    obtain ⟨S, e0, hr⟩ := strE_two (psS T)
    rw [hr] at CO ⊢
    obtain ⟨U, hU⟩ : ∃ U, str T = U := ⟨_, rfl⟩
    obtain ⟨l, hl⟩ : ∃ l, (parseV T).1 = l := ⟨_, rfl⟩
    rw [hl] at C CO
    rw [hU] at C ⊢
    clear hU hr hl Z hT h0
    go_enter Tryz.func7, Tryz.ntmps7
    go_wp2_with fail
    refine C.out.mono ?_
    rintro e w1 ⟨v, rfl, hv, hb1⟩
    have CO1 := Lib.hid (CO.out v w1 hv)
    clear hv
    go_wp2_with fail
    refine CO1.out.mono ?_
    rintro e w2 ⟨rfl, hb2⟩
    have hbA := below_step hb1 hb2
    go_wp2_with fail
    go_ret2
    exact ⟨rfl, hbA⟩
  · have HV : Hid (strE (psS T) = strE ([], (parseV T).2)) := Lib.hid (by unfold psS; rw [if_pos h0])
    obtain ⟨e0, he0⟩ : ∃ e, (parseV T).2 = e := ⟨_, rfl⟩
    rw [he0] at C HV h0
    have hne : (e0 != 0) = true := bne_iff_ne.2 h0
    obtain ⟨U, hU⟩ : ∃ U, str T = U := ⟨_, rfl⟩
    rw [hU] at C ⊢
    clear hU he0 Z hT h0
    go_enter Tryz.func7, Tryz.ntmps7
    go_wp2_with fail
    refine C.out.mono ?_
    rintro e w1 ⟨v, rfl, hv, hb1⟩
    clear hv
    go_wp2_with fail
    go_ret2
    exact ⟨by rw [HV.out]; rfl, hb1⟩
set_option maxRecDepth 100000 in
theorem rpparse_any (T : List UInt8) (w : World) (hT : T.length ≤ 50000) :
    Calls Tryz.prog 8 #[.string (str T)] w fun e w' => e = .returned (strE (psS T)) ∧ Below w.heap.size w w' := by
  have C := Lib.hid (rparse_any T w hT)
  unfold PlOut at C
  by_cases h0 : (parseV T).2 = 0
  · have CO : Hid (∀ v W, IntsAt W v (parseV T).1 → Calls Tryz.prog 20 #[v] W fun e w' => e = .returned (strE (psS T)) ∧ Below W.heap.size W w') := Lib.hid fun v W h => by
      have := rOf_any v _ W (num_ints h) (by have := (parse_few T h0).1; omega)
      have e : psS T = ofS (parseV T).1 := by unfold psS; rw [if_neg (by simpa using h0)]
      rw [e]; exact this
    rw [h0] at C
    obtain ⟨S, e0, hr⟩ := strE_two (psS T)
    rw [hr] at CO ⊢
    obtain ⟨U, hU⟩ : ∃ U, str T = U := ⟨_, rfl⟩
    obtain ⟨l, hl⟩ : ∃ l, (parseV T).1 = l := ⟨_, rfl⟩
    rw [hl] at C CO
    rw [hU] at C ⊢
    clear hU hr hl hT h0
    go_enter Tryz.func8, Tryz.ntmps8
    go_wp2_with fail
    refine C.out.mono ?_
    rintro e w1 ⟨v, rfl, hv, hb1⟩
    have CO1 := Lib.hid (CO.out v w1 hv)
    clear hv
    go_wp2_with fail
    refine CO1.out.mono ?_
    rintro e w2 ⟨rfl, hb2⟩
    have hbA := below_step hb1 hb2
    go_wp2_with fail
    go_ret2
    exact ⟨rfl, hbA⟩
  · have HV : Hid (strE (psS T) = strE ([], (parseV T).2)) := Lib.hid (by unfold psS; rw [if_pos h0])
    obtain ⟨e0, he0⟩ : ∃ e, (parseV T).2 = e := ⟨_, rfl⟩
    rw [he0] at C HV h0
    have hne : (e0 != 0) = true := bne_iff_ne.2 h0
    obtain ⟨U, hU⟩ : ∃ U, str T = U := ⟨_, rfl⟩
    rw [hU] at C ⊢
    clear hU he0 hT h0
    go_enter Tryz.func8, Tryz.ntmps8
    go_wp2_with fail
    refine C.out.mono ?_
    rintro e w1 ⟨v, rfl, hv, hb1⟩
    clear hv
    go_wp2_with fail
    go_ret2
    exact ⟨by rw [HV.out]; rfl, hb1⟩
set_option maxRecDepth 100000 in
theorem rprint_any (L : List UInt8) (w : World) (hL : L.length ≤ 100000) :
    Calls Tryz.prog 6 #[.string (str L)] w fun e w' => e = .returned (strE (prS L)) ∧ Below w.heap.size w w' := by
  have C := Lib.hid (rIds_any L w hL)
  unfold IdsV at C
  by_cases h0 : chkE L = 0
  · have CL : Hid (∀ v W, W.ownsRow w.heap.size 3 1 v (idsL L).length (natC (idsL L)) → Calls Tryz.prog 17 #[v] W fun e w' => e = .returned (strE (prS L)) ∧ Below W.heap.size W w') := Lib.hid fun v W ho => by
      have := rlist_arg v _ W (.inr (ints_own ho rfl)) (by rw [List.length_map, ids_len]; omega) (ids_i64 L)
      unfold ListV at this
      have e : prS L = listS ((idsL L).map fun n : Nat => (n : Int)) := by unfold prS; rw [if_neg (by simpa using h0)]
      unfold strE; rw [e]; exact this
    have HI : Hid (idsS L = (idsL L, 0)) := Lib.hid (by unfold idsS; rw [if_neg (by simpa using h0)])
    rw [HI.out] at C
    obtain ⟨S, e0, hr⟩ := strE_two (prS L)
    rw [hr] at CL ⊢
    obtain ⟨U, hU⟩ : ∃ T, str L = T := ⟨_, rfl⟩
    rw [hU] at C ⊢
    clear hr hU h0 HI hL
    go_enter Tryz.func6, Tryz.ntmps6
    go_wp2_with fail
    refine C.out.mono ?_
    rintro e w1 ⟨v, rfl, ho, hb1⟩
    have CL1 := Lib.hid (CL.out v w1 ho)
    clear ho
    go_wp2_with fail
    refine CL1.out.mono ?_
    rintro e w2 ⟨rfl, hb2⟩
    have hbA := below_step hb1 hb2
    go_wp2_with fail
    go_ret2
    exact ⟨rfl, hbA⟩
  · have HI : idsS L = ([], chkE L) := by unfold idsS; rw [if_pos h0]
    have HV : Hid (strE (prS L) = strE ([], chkE L)) := Lib.hid (by unfold prS; rw [if_pos h0])
    rw [HI] at C
    obtain ⟨e0, he0⟩ : ∃ e, chkE L = e := ⟨_, rfl⟩
    rw [he0] at h0 C HV
    have hne : (e0 != 0) = true := bne_iff_ne.2 h0
    obtain ⟨U, hU⟩ : ∃ T, str L = T := ⟨_, rfl⟩
    rw [hU] at C ⊢
    clear hU he0 h0 HI hL
    go_enter Tryz.func6, Tryz.ntmps6
    go_wp2_with fail
    refine C.out.mono ?_
    rintro e w1 ⟨v, rfl, ho, hb1⟩
    clear ho
    go_wp2_with fail
    go_ret2
    exact ⟨by rw [HV.out]; rfl, hb1⟩
-- MARK9
end Go.Proofs.YtchnmbfeaaialaaGreatDoor
