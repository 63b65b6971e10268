/- The law DataKnown. -/
import Derived.Test.YtkngkajojcmmlaaDoorDks
import Derived.Deep.CutRange
namespace Go.Proofs.YtkngkajojcmmlaaDoor
open Go.RowKit Go.PlainAid

set_option maxRecDepth 100000 in
theorem kn_take : chkT symS (exD.take 5) = (5, 6) := by decide +kernel
set_option maxRecDepth 100000 in
theorem kn_app : chkT symS (exD ++ [(3, 0, 0, [97])]) = (6, 6) := by decide +kernel
theorem kn_at0 : atE symS exD 0 = 0 := by unfold atE; rw [ex_chk]; decide
theorem kn_kids : kidsN (kidsL exD) 0 = [1, 2, 5] := by decide +kernel
theorem kn_cnt : cnt (kidsL exD) 0 = 3 := by decide +kernel
theorem kn_parN : parN (kidsL exD) 4 = 2 := by decide +kernel
theorem kn_par : parV symS exD 4 = .tuple #[.int .i64 2, .int .i64 0] := by
  unfold parV
  rw [ex_at4, if_neg (by simp), if_neg (by decide)]
  show Value.tuple #[.int .i64 (parN (kidsL exD) 4 : Int), _] = _
  rw [kn_parN]; rfl
theorem kn_tr : Tr (kidsL exD) := (chkT_ok (by rw [ex_chk])).1
theorem kn_dep : depV exD = .tuple #[.int .i64 2, .int .i64 0] := by
  unfold depV
  rw [if_pos (by rw [ex_chk])]
  have d0 : dep (kidsL exD) 0 = 0 := kn_tr.dep_of (P := []) (by decide +kernel)
  have d1 : dep (kidsL exD) 1 = 1 := kn_tr.dep_of (P := [0]) (by decide +kernel)
  have d2 : dep (kidsL exD) 2 = 1 := kn_tr.dep_of (P := [1]) (by decide +kernel)
  have d3 : dep (kidsL exD) 3 = 2 := kn_tr.dep_of (P := [1, 0]) (by decide +kernel)
  have d4 : dep (kidsL exD) 4 = 2 := kn_tr.dep_of (P := [1, 1]) (by decide +kernel)
  have d5 : dep (kidsL exD) 5 = 1 := kn_tr.dep_of (P := [2]) (by decide +kernel)
  have e : mxD (kidsL exD) exD.length = 2 := by
    show mxD (kidsL exD) 6 = 2
    simp only [mxD, d0, d1, d2, d3, d4, d5]; decide
  rw [e]; rfl
theorem kn_f1 : fol (kidsL exD) 0 [1, 0] = some 3 := by decide +kernel
theorem kn_f2 : fol (kidsL exD) 0 [1, 2] = none := by decide +kernel
theorem kn_at1 : atPV symS exD [1, 0] = .tuple #[.int .i64 3, .int .i64 0] := by unfold atPV; rw [if_neg (by rw [ex_chk]; simp), kn_f1]; rfl
theorem kn_at2 : atPV symS exD [1, 2] = .tuple #[.int .i64 0, .int .i64 4] := by unfold atPV; rw [if_neg (by rw [ex_chk]; simp), kn_f2]
theorem kn_symL : symL exD = [[97], [97]] := by decide +kernel
theorem kn_sym {l : Ls} (h : SymS (symL exD) l) : l = [[97]] := h.uniq ⟨by simp, fun x => by rw [kn_symL]; simp⟩
set_option maxRecDepth 100000 in
theorem kn_ren : renE exD [[97]] [[98]] = 0 := renE_of (by rw [ex_chk]) rfl (by decide +kernel) (by decide +kernel) (by decide)
theorem kn_renL : renL [[97]] [[98]] exD = [(4, 3, 0, []), (3, 0, 0, [98]), (4, 2, 0, []), (1, 0, 7, []), (2, 0, 1, []), (3, 0, 0, [98])] := by decide +kernel
theorem kn_renU : renU exD [[97]] [[98]] = [(4, 3, 0, []), (3, 0, 0, [98]), (4, 2, 0, []), (1, 0, 7, []), (2, 0, 1, []), (3, 0, 0, [98])] := by unfold renU; rw [if_pos kn_ren, kn_renL]
theorem kn_shape : shapeS [1, 0, 0] = ([], 6) := by decide +kernel
theorem kn_plus : symS [43] = true := by decide +kernel
theorem kn_long : symS [97, 97, 97, 97, 97, 97, 97, 97, 97, 97, 97, 97, 97, 97, 97, 97, 97, 97, 97, 97, 97, 97, 97, 97, 97] = false := sym_long (by decide)
theorem kn_kb : KidsB exD := ex_kids _ (by simp)
theorem kn_kb2 : KidsB (exD ++ [(3, 0, 0, [97])]) := by
  intro x hx
  rcases List.mem_append.1 hx with h | h
  · exact kn_kb x h
  · rw [show x = (3, 0, 0, [97]) by simpa using h]; decide
theorem kn_kb5 : KidsB (exD.take 5) := fun x hx => kn_kb x (List.mem_of_mem_take hx)
set_option maxRecDepth 50000 in
set_option maxHeartbeats 1600000 in
theorem example_own (w : World) : Calls Tryd.prog 44 #[] w fun e w' => e = .returned (.slice (some ⟨w.heap.size, 0, none⟩) 6 6) ∧ w' = w.alloc (.cells (dcs exD).toArray 48) := by
  go_enter Tryd.func44, Tryd.ntmps44
  go_wp2_with fail
  go_ret
  exact ⟨rfl, rfl⟩
/-- The example and one node more. -/
theorem append_ex (W : World) : ∃ g c w', (Builtin.append_ #[22, 22] 22 #[.slice (some ⟨W.heap.size, 0, none⟩) 6 6, .slice (some ⟨W.heap.size + 1, 0, none⟩) 1 1]).run Tryd.prog ((W.alloc (.cells (dcs exD).toArray 48)).alloc (.cells #[.int .i64 3, .int .i64 0, .int .i64 0, .string ⟨#[97]⟩] 48)) = .ok (.slice (some g) 7 c) w' ∧ NdsAt w' (.slice (some g) 7 c) (exD ++ [(3, 0, 0, [97])]) ∧ Below W.heap.size W w' := by
  obtain ⟨i0, hi, hz0, hz1, hz2⟩ := info_parts2 infoNd
  have ho : (W.alloc (.cells (dcs exD).toArray 48)).ownsRow W.heap.size 48 4 (.slice (some ⟨W.heap.size, 0, none⟩) 6 6) 6 (dcs exD) :=
    ⟨by rw [dcs_len]; rfl, .inr ⟨W.heap.size, 6, _, rfl, Nat.le_refl _, World.alloc_heap_new _ _, Nat.le_refl _, by decide, by rw [List.size_toArray, dcs_len]; rfl, by rw [List.take_of_length_le (by rw [dcs_len]; decide)]⟩⟩
  have hb : Below W.heap.size W ((W.alloc (.cells (dcs exD).toArray 48)).alloc (.cells #[.int .i64 3, .int .i64 0, .int .i64 0, .string ⟨#[97]⟩] 48)) := ((Below.refl _ W).alloc (Nat.le_refl _) _).alloc (by simp only [World.size_alloc]; omega) _
  have hc := new_cells (W.alloc (.cells (dcs exD).toArray 48)) (dcs [(3, 0, 0, [97])]) 48
  rw [World.size_alloc] at hc
  obtain ⟨v', w', hr, h2, h3, _⟩ := run_append_own (P := Tryd.prog) _ W.heap.size 22 22 48 i0 zeroNd 4 40 Tryd.underlying22 hi hz0 hz1 hz2 rfl (by decide) _ 6 (dcs exD) (ho.alloc _) ⟨W.heap.size + 1, 0, none⟩ 1 1 (dcs [(3, 0, 0, [97])]) (dcs_len _) hc (one_dcs _) (by unfold maxLen; omega) (by omega) hb.size
  rw [← dcs_app] at h2
  obtain ⟨a', c', rfl, hN, _⟩ := nds_own h2 rfl
  obtain ⟨g, o, cap, e, _, _⟩ := hN.some (by simp)
  cases e
  exact ⟨_, c', w', hr, hN, hb.grown h3 hb.size (fun k hk => (ho.lt k hk).1)⟩
theorem strRow_new (w : World) (l : Ls) (cs : Array Value) (T : TypeId) (n : Nat) (hcs : cs = (strV l).toArray) (hn : n = l.length) : StrRow (w.alloc (.cells cs T)) (.slice (some ⟨w.heap.size, 0, none⟩) n n) l := by
  subst hcs hn
  refine ⟨_, _, rfl, .inr ⟨w.heap.size, 0, rfl, by rw [World.size_alloc]; omega, fun j x hj => ?_⟩⟩
  have := new_cells w (strV l) T j (.string (str x)) (strV_at hj)
  rw [Go.WideShapes.add_plain] at this; exact this
set_option maxRecDepth 100000 in
set_option maxHeartbeats 12800000 in
theorem lawKn_any (w : World) (T : STabs w) : Calls Tryd.prog 11 #[] w fun e w' => e = .returned (.bool true) ∧ Below w.heap.size w w' := by
  have HS := Lib.hid T
  have SY : Hid (∀ W, Below w.heap.size w W → Hid (SymAll 16 symS W)) := Lib.hid fun W hW => Lib.hid (symAll_of (HS.out.below hW))
  have CE := Lib.hid example_any
  have CE2 := Lib.hid example_own
  have CX := Lib.hid append_ex
  have CS := Lib.hid (fun W (hW : Below w.heap.size w W) => shown_any W (HS.out.below hW))
  have C5 : Hid (∀ W v, Below w.heap.size w W → NdsAt W v (exD.take 5) → Calls Tryd.prog 14 #[v] W fun e w' => e = .returned (.tuple #[.int .i64 5, .int .i64 6]) ∧ Below W.heap.size W w') := Lib.hid fun W v hW hN => by
    have := Check_any symS v _ W hN (SY.out W hW) (Lib.hid kn_kb5)
    unfold chkTV at this; rw [kn_take] at this; exact this
  have C7 : Hid (∀ W v, Below w.heap.size w W → NdsAt W v (exD ++ [(3, 0, 0, [97])]) → Calls Tryd.prog 14 #[v] W fun e w' => e = .returned (.tuple #[.int .i64 6, .int .i64 6]) ∧ Below W.heap.size W w') := Lib.hid fun W v hW hN => by
    have := Check_any symS v _ W hN (SY.out W hW) (Lib.hid kn_kb2)
    unfold chkTV at this; rw [kn_app] at this; exact this
  have CK : Hid (∀ W v, Below w.heap.size w W → NdsAt W v exD → Calls Tryd.prog 20 #[v, .int .i64 0] W fun e w' => ∃ a c, e = .returned (.tuple #[.slice a 3 c, .int .i64 0]) ∧ IntRow w' (.slice a 3 c) [1, 2, 5] ∧ Below W.heap.size W w') := Lib.hid fun W v hW hN => by
    refine (Kids_any symS v exD 0 W hN (SY.out W hW) (Lib.hid kn_kb)).mono ?_
    rintro e w' ⟨_, h2, h3⟩
    obtain ⟨a, c, rfl, hr⟩ := h2 kn_at0
    rw [show (0 : Int).toNat = 0 from rfl, kn_kids, kn_cnt] at hr
    exact ⟨a, c, by rw [show (0 : Int).toNat = 0 from rfl, kn_cnt], hr, h3⟩
  have CP : Hid (∀ W v, Below w.heap.size w W → NdsAt W v exD → Calls Tryd.prog 23 #[v, .int .i64 4] W fun e w' => e = .returned (.tuple #[.int .i64 2, .int .i64 0]) ∧ Below W.heap.size W w') := Lib.hid fun W v hW hN => by
    have := Parent_any symS v exD 4 W hN (SY.out W hW) (Lib.hid kn_kb)
    rw [kn_par] at this; exact this
  have CD : Hid (∀ W v, Below w.heap.size w W → NdsAt W v exD → capOk v → Calls Tryd.prog 25 #[v] W fun e w' => e = .returned (.tuple #[.int .i64 2, .int .i64 0]) ∧ Below W.heap.size W w') := Lib.hid fun W v hW hN hc => by
    have := Depth_any v exD W hN kn_kb (HS.out.below hW) hc
    rw [kn_dep] at this; exact this
  have CA1 : Hid (∀ W v vp, Below w.heap.size w W → NdsAt W v exD → IntRow W vp [1, 0] → Calls Tryd.prog 29 #[v, vp] W fun e w' => e = .returned (.tuple #[.int .i64 3, .int .i64 0]) ∧ Below W.heap.size W w') := Lib.hid fun W v vp hW hN hp => by
    have := At_any symS v vp exD [1, 0] W hN hp (SY.out W hW) (Lib.hid kn_kb) (by decide)
    rw [kn_at1] at this; exact this
  have CA2 : Hid (∀ W v vp, Below w.heap.size w W → NdsAt W v exD → IntRow W vp [1, 2] → Calls Tryd.prog 29 #[v, vp] W fun e w' => e = .returned (.tuple #[.int .i64 0, .int .i64 4]) ∧ Below W.heap.size W w') := Lib.hid fun W v vp hW hN hp => by
    have := At_any symS v vp exD [1, 2] W hN hp (SY.out W hW) (Lib.hid kn_kb) (by decide)
    rw [kn_at2] at this; exact this
  have CSy : Hid (∀ W v, Below w.heap.size w W → NdsAt W v exD → Calls Tryd.prog 42 #[v] W fun e w' => ∃ a c, e = .returned (.tuple #[.slice a 1 c, .int .i64 0]) ∧ StrRow w' (.slice a 1 c) [[97]] ∧ Below W.heap.size W w') := Lib.hid fun W v hW hN => by
    refine (Symbols_any v exD W hN kn_kb (HS.out.below hW)).mono ?_
    rintro e w' ⟨l, a, c, rfl, hr, hs, _, _, hb⟩
    obtain rfl := kn_sym (hs (by rw [ex_chk]))
    exact ⟨a, c, by rw [ex_chk]; rfl, hr, hb⟩
  have CR : Hid (∀ W v v1 v2, Below w.heap.size w W → NdsAt W v exD → StrRow W v1 [[97]] → StrRow W v2 [[98]] → Calls Tryd.prog 43 #[v, v1, v2] W fun e w' => ∃ g o c, e = .returned (.tuple #[.slice (some ⟨g, o, none⟩) 6 c, .int .i64 0]) ∧ w'.cell? ⟨g, o + 23, none⟩ = some (.string ⟨#[98]⟩) ∧ g < w'.heap.size ∧ Below W.heap.size W w') := Lib.hid fun W v v1 v2 hW hN h1 h2 => by
    have := Rename_any v v1 v2 exD [[97]] [[98]] W hN h1 h2 kn_kb (HS.out.below hW) (by decide)
    rw [kn_renU, kn_ren] at this
    refine this.mono ?_
    rintro e w' ⟨a, c, rfl, hN', hb⟩
    obtain ⟨g, o, cap, hv, hg, hcl⟩ := hN'.some (by simp)
    cases hv
    exact ⟨g, o, _, rfl, hcl 23 _ rfl, hg, hb⟩
  have CSh : Hid (∀ W v, IntRow W v [1, 0, 0] → Calls Tryd.prog 38 #[v] W fun e w' => ∃ a n c, e = .returned (.tuple #[.slice a n c, .int .i64 6]) ∧ Below W.heap.size W w') := Lib.hid fun W v hr => by
    refine (Shape_any v _ W hr).mono ?_
    rintro e w' ⟨v', rfl, h1, h2⟩
    obtain ⟨a, c, rfl, _⟩ := h1
    exact ⟨a, _, c, by rw [kn_shape], h2⟩
  have CI : Hid (∀ W v v', IntRow W v [1, 2, 5] → IntRow W v' [1, 2, 5] → Calls Tryd.prog 22 #[v, v'] W fun e w' => e = .returned (.bool true) ∧ Below W.heap.size W w') := Lib.hid fun W v v' h1 h2 => by
    have := ints4_any v v' _ _ W h1 h2 (by decide)
    rw [decide_eq_true rfl] at this; exact this
  have CT : Hid (∀ W v v', StrRow W v [[97]] → StrRow W v' [[97]] → Calls Tryd.prog 45 #[v, v'] W fun e w' => e = .returned (.bool true) ∧ Below W.heap.size W w') := Lib.hid fun W v v' h1 h2 => by
    have := strs4_any v v' _ _ W h1 h2 (by decide)
    rw [decide_eq_true rfl] at this; exact this
  have CY : Hid (∀ W (s : List UInt8) b, Below w.heap.size w W → symS s = b → Calls Tryd.prog 16 #[.string (str s)] W fun e w' => e = .returned (.bool b) ∧ Below W.heap.size W w') := Lib.hid fun W s b hW hs => by
    have := symbol_any s W (HS.out.below hW); rw [hs] at this; exact this
  clear T HS SY
  go_enter Tryd.func11, Tryd.ntmps11
  go_wp2_with fail
  refine (CE.out _).mono ?_
  rintro e w1 ⟨g1, rfl, hN1, hcur⟩
  go_wp2_with fail
  -- MARK1
  have hN := nds_take hN1 rfl (i := 5) (by decide) 6
  refine (C5.out w1 _ hcur hN).mono ?_
  rintro e w2 ⟨rfl, hn⟩
  replace hcur := hcur.trans (hn.mono hcur.size)
  clear hN hN1 hn
  go_wp2_with fail
  -- MARK2
  refine (CE2.out _).mono ?_
  rintro e w3 ⟨rfl, rfl⟩
  obtain ⟨g3, c3, w4, hr, hN4, hn⟩ := CX.out w2
  have HR := Lib.hid hr
  replace hcur := hcur.trans (hn.mono hcur.size)
  clear hr hn
  go_wp2_with (at_builtin; refine Lib.wpList_append_run _ rfl _ _ _ _ rfl _ _ rfl rfl _ _ HR.out ?_)
  -- MARK3
  refine (C7.out w4 _ hcur hN4).mono ?_
  rintro e w5 ⟨rfl, hn⟩
  replace hcur := hcur.trans (hn.mono hcur.size)
  clear hN4 hn HR
  go_wp2_with fail
  refine (CE.out w5).mono ?_
  rintro e w6 ⟨g6, rfl, hN, hn⟩
  replace hcur := hcur.trans (hn.mono hcur.size)
  go_wp2_with fail
  refine (CK.out w6 _ hcur hN).mono ?_
  rintro e w7 ⟨aK, cK, rfl, hK, hn⟩
  replace hcur := hcur.trans (hn.mono hcur.size)
  have HKr := Lib.hid hK
  have bK := Below.refl w7.heap.size w7
  clear hN hK hn
  go_wp2_with fail
  refine (CE.out w7).mono ?_
  rintro e w8 ⟨g8, rfl, hN, hn⟩
  replace hcur := hcur.trans (hn.mono hcur.size)
  replace bK := bK.trans (hn.mono bK.size)
  go_wp2_with fail
  refine (CP.out w8 _ hcur hN).mono ?_
  rintro e w9 ⟨rfl, hn⟩
  replace hcur := hcur.trans (hn.mono hcur.size)
  replace bK := bK.trans (hn.mono bK.size)
  clear hN hn
  go_wp2_with fail
  refine (CE.out w9).mono ?_
  rintro e w10 ⟨g10, rfl, hN, hn⟩
  replace hcur := hcur.trans (hn.mono hcur.size)
  replace bK := bK.trans (hn.mono bK.size)
  go_wp2_with fail
  refine (CD.out w10 _ hcur hN (fun a n c e => by cases e; exact Nat.le_refl _)).mono ?_
  rintro e w11 ⟨rfl, hn⟩
  replace hcur := hcur.trans (hn.mono hcur.size)
  replace bK := bK.trans (hn.mono bK.size)
  clear hN hn
  go_wp2_with fail
  refine (CE.out w11).mono ?_
  rintro e w12 ⟨g12, rfl, hN, hn⟩
  replace hcur := hcur.trans (hn.mono hcur.size)
  replace bK := bK.trans (hn.mono bK.size)
  go_wp2_with fail
  refine (CA1.out (w12.alloc (.cells #[.int .i64 1, .int .i64 0] 3)) _ _ (hcur.alloc hcur.size _) (hN.below (below_b1 _ _) (Nat.le_refl _)) (intRow_new w12 [1, 0] _ _ 2 rfl rfl)).mono ?_
  rintro e w13 ⟨rfl, hn⟩
  replace hn := (below_b1 w12 (.cells #[.int .i64 1, .int .i64 0] 3)).trans (hn.mono (below_b1 w12 (.cells #[.int .i64 1, .int .i64 0] 3)).size)
  replace hcur := hcur.trans (hn.mono hcur.size)
  replace bK := bK.trans (hn.mono bK.size)
  clear hN hn
  go_wp2_with fail
  refine (CE.out w13).mono ?_
  rintro e w14 ⟨g14, rfl, hN, hn⟩
  replace hcur := hcur.trans (hn.mono hcur.size)
  replace bK := bK.trans (hn.mono bK.size)
  go_wp2_with fail
  refine (CA2.out (w14.alloc (.cells #[.int .i64 1, .int .i64 2] 3)) _ _ (hcur.alloc hcur.size _) (hN.below (below_b1 _ _) (Nat.le_refl _)) (intRow_new w14 [1, 2] _ _ 2 rfl rfl)).mono ?_
  rintro e w15 ⟨rfl, hn⟩
  replace hn := (below_b1 w14 (.cells #[.int .i64 1, .int .i64 2] 3)).trans (hn.mono (below_b1 w14 (.cells #[.int .i64 1, .int .i64 2] 3)).size)
  replace hcur := hcur.trans (hn.mono hcur.size)
  replace bK := bK.trans (hn.mono bK.size)
  clear hN hn
  go_wp2_with fail
  refine (CE.out w15).mono ?_
  rintro e w16 ⟨g16, rfl, hN, hn⟩
  replace hcur := hcur.trans (hn.mono hcur.size)
  replace bK := bK.trans (hn.mono bK.size)
  go_wp2_with fail
  refine (CSy.out w16 _ hcur hN).mono ?_
  rintro e w17 ⟨aS, cS, rfl, hS, hn⟩
  replace hcur := hcur.trans (hn.mono hcur.size)
  replace bK := bK.trans (hn.mono bK.size)
  have HSr := Lib.hid hS
  have bS := Below.refl w17.heap.size w17
  clear hN hS hn
  -- MARK4
  go_wp2_with fail
  refine (CE.out w17).mono ?_
  rintro e w18 ⟨g18, rfl, hN, hn⟩
  replace hcur := hcur.trans (hn.mono hcur.size)
  replace bK := bK.trans (hn.mono bK.size)
  replace bS := bS.trans (hn.mono bS.size)
  have ha1 := below_b1 w18 (.cells #[.string ⟨#[97]⟩] 9)
  have ha2 := ha1.trans ((below_b1 (w18.alloc (.cells #[.string ⟨#[97]⟩] 9)) (.cells #[.string ⟨#[98]⟩] 9)).mono ha1.size)
  have r1 := (strRow_new w18 [[97]] #[.string ⟨#[97]⟩] 9 1 rfl rfl).below (below_b1 (w18.alloc (.cells #[.string ⟨#[97]⟩] 9)) (.cells #[.string ⟨#[98]⟩] 9))
  have r2 := strRow_new (w18.alloc (.cells #[.string ⟨#[97]⟩] 9)) [[98]] #[.string ⟨#[98]⟩] 9 1 rfl rfl
  rw [World.size_alloc] at r2
  go_wp2_with fail
  refine (CR.out ((w18.alloc (.cells #[.string ⟨#[97]⟩] 9)).alloc (.cells #[.string ⟨#[98]⟩] 9)) _ _ _ (hcur.trans (ha2.mono hcur.size)) (hN.below ha2 (Nat.le_refl _)) r1 r2).mono ?_
  rintro e w19 ⟨gR, oR, cR, rfl, hR, hgR, hn⟩
  replace hn := (ha2).trans (hn.mono (ha2).size)
  replace hcur := hcur.trans (hn.mono hcur.size)
  replace bK := bK.trans (hn.mono bK.size)
  replace bS := bS.trans (hn.mono bS.size)
  have HRc := Lib.hid hR
  have bR := Below.refl w19.heap.size w19
  clear hN hR hn ha1 ha2 r1 r2
  go_wp2_with fail
  refine (CSh.out (w19.alloc (.cells #[.int .i64 1, .int .i64 0, .int .i64 0] 3)) _ (intRow_new w19 [1, 0, 0] _ _ 3 rfl rfl)).mono ?_
  rintro e w20 ⟨aH, nH, cH, rfl, hn⟩
  replace hn := (below_b1 w19 (.cells #[.int .i64 1, .int .i64 0, .int .i64 0] 3)).trans (hn.mono (below_b1 w19 (.cells #[.int .i64 1, .int .i64 0, .int .i64 0] 3)).size)
  replace hcur := hcur.trans (hn.mono hcur.size)
  replace bK := bK.trans (hn.mono bK.size)
  replace bS := bS.trans (hn.mono bS.size)
  replace bR := bR.trans (hn.mono bR.size)
  clear hn
  -- MARK5
  go_wp2_with fail
  refine (CI.out (w20.alloc (.cells #[.int .i64 1, .int .i64 2, .int .i64 5] 3)) _ _ (HKr.out.below (bK.alloc bK.size _)) (intRow_new w20 [1, 2, 5] _ _ 3 rfl rfl)).mono ?_
  rintro e w21 ⟨rfl, hn⟩
  replace hn := (below_b1 w20 (.cells #[.int .i64 1, .int .i64 2, .int .i64 5] 3)).trans (hn.mono (below_b1 w20 (.cells #[.int .i64 1, .int .i64 2, .int .i64 5] 3)).size)
  replace hcur := hcur.trans (hn.mono hcur.size)
  replace bK := bK.trans (hn.mono bK.size)
  replace bS := bS.trans (hn.mono bS.size)
  replace bR := bR.trans (hn.mono bR.size)
  go_wp2_with fail
  refine (CT.out (w21.alloc (.cells #[.string ⟨#[97]⟩] 9)) _ _ (HSr.out.below (bS.alloc bS.size _)) (strRow_new w21 [[97]] _ _ 1 rfl rfl)).mono ?_
  rintro e w22 ⟨rfl, hn⟩
  replace hn := (below_b1 w21 (.cells #[.string ⟨#[97]⟩] 9)).trans (hn.mono (below_b1 w21 (.cells #[.string ⟨#[97]⟩] 9)).size)
  replace hcur := hcur.trans (hn.mono hcur.size)
  replace bK := bK.trans (hn.mono bK.size)
  replace bS := bS.trans (hn.mono bS.size)
  replace bR := bR.trans (hn.mono bR.size)
  have d5 := (bR.cell (p := ⟨gR, oR + 23, none⟩) hgR).trans HRc.out
  -- MARK6
  go_wp2_with fail
  refine (CY.out w22 [43] true hcur kn_plus).mono ?_
  rintro e w23 ⟨rfl, hn⟩
  replace hcur := hcur.trans (hn.mono hcur.size)
  replace bK := bK.trans (hn.mono bK.size)
  replace bS := bS.trans (hn.mono bS.size)
  replace bR := bR.trans (hn.mono bR.size)
  go_wp2_with fail
  refine (CY.out w23 [97, 97, 97, 97, 97, 97, 97, 97, 97, 97, 97, 97, 97, 97, 97, 97, 97, 97, 97, 97, 97, 97, 97, 97, 97] false hcur kn_long).mono ?_
  rintro e w24 ⟨rfl, hn⟩
  replace hcur := hcur.trans (hn.mono hcur.size)
  replace bK := bK.trans (hn.mono bK.size)
  replace bS := bS.trans (hn.mono bS.size)
  replace bR := bR.trans (hn.mono bR.size)
  go_wp2_with fail
  refine (CS.out w24 hcur).mono ?_
  rintro e w25 ⟨rfl, hn⟩
  replace hcur := hcur.trans (hn.mono hcur.size)
  replace bK := bK.trans (hn.mono bK.size)
  replace bS := bS.trans (hn.mono bS.size)
  replace bR := bR.trans (hn.mono bR.size)
  go_wp2_with fail
  go_ret
  exact ⟨rfl, hcur⟩
end Go.Proofs.YtkngkajojcmmlaaDoor
