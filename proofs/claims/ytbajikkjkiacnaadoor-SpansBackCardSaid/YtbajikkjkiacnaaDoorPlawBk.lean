/- The law SpansBack, walked. -/
import Derived.Test.YtbajikkjkiacnaaDoorPcut
import Derived.Test.YtbajikkjkiacnaaDoorPargs
import Derived.Test.YtbajikkjkiacnaaDoorPmb3
import Derived.Test.YtbajikkjkiacnaaDoorPme
namespace Go.Proofs.YtbajikkjkiacnaaDoor
open Go.RowKit Go.PlainAid

theorem rcheck_long (a : Option Addr) (n c : Nat) (w : World) (h : 8000 < n) : Calls Tryd.prog 50 #[.slice a n c] w fun e w' => e = .returned (.tuple #[.int .i64 0, .int .i64 3]) ∧ Below w.heap.size w w' := by
  have hd : decide ((8000 : Int) < (n : Int)) = true := decide_eq_true (by omega)
  go_enter Tryd.func50, Tryd.ntmps50
  go_wp2
  go_returns
  exact ⟨rfl, Below.refl _ _⟩
theorem rstarts_long (a : Option Addr) (n c : Nat) (w : World) (h : 8000 < n) : Calls Tryd.prog 38 #[.slice a n c] w fun e w' => e = .returned (.tuple #[.slice none 0 0, .int .i64 3]) ∧ Below w.heap.size w w' := by
  have C := Lib.hid (rcheck_long a n c w h)
  clear h
  go_enter Tryd.func38, Tryd.ntmps38
  go_wp2_with fail
  refine C.out.mono ?_
  rintro e w1 ⟨rfl, hb1⟩
  go_wp2_with fail
  go_returns
  exact ⟨rfl, hb1⟩

set_option maxRecDepth 100000 in
set_option maxHeartbeats 25600000 in
theorem lawBk_in (a : Option Addr) (n c : Nat) (l : List UInt8) (ln cl : Nat) (w : World) (T : PTabs w) (h : ArgAt w (.slice a n c) (l.map bc)) (hn : n = l.length) (hcap : n ≤ c) (hb : n ≤ 100) (h0 : (chkS l).2 = 0) (hln : ln ≤ 255) (hcl : cl ≤ 255) :
    Calls Tryd.prog 10 #[.slice a n c, .int .u8 ln, .int .u8 cl] w fun e w' => e = .returned (.bool true) ∧ Below w.heap.size w w' := by
  have hB0 : BytesAt w (.slice a n c) l := h.row
  have HB : Hid (∀ W, Below w.heap.size w W → BytesAt W (.slice a n c) l ∧ PTabs W) := Lib.hid fun W hb => ⟨RowAt.below hB0 hb (Nat.le_refl _), T.below hb⟩
  have CA : Hid (∀ W, Below w.heap.size w W → Calls Tryd.prog 12 #[] W fun e w' => e = .returned (.bool true) ∧ Below W.heap.size W w') := Lib.hid fun W hb => awake_any W (T.below hb)
  obtain ⟨LS, hLS⟩ : ∃ LS, linesG l = LS := ⟨_, rfl⟩
  obtain ⟨S, hS⟩ : ∃ S, stS l = S := ⟨_, rfl⟩
  obtain ⟨m, hm⟩ : ∃ m, LS.length = m := ⟨_, rfl⟩
  obtain ⟨z, hz⟩ : ∃ z, S.length = z := ⟨_, rfl⟩
  have CS : Hid (Calls Tryd.prog 38 #[.slice a n c] w fun e w1 => ∃ x cx, e = .returned (.tuple #[.slice x z cx, .int .i64 0]) ∧ RowAt w1 (.slice x z cx) (S.map fun k : Nat => Value.int .i64 (k : Int)) ∧ Below w.heap.size w w1) := Lib.hid (by
    refine (rstarts_any _ l w h (by omega)).mono ?_
    rintro e w1 ⟨v, h1, h2, h3⟩
    have hv : startsS l = (S, 0) := by unfold startsS; rw [if_pos h0, hS]
    rw [hv] at h1 h2
    have h4 := RowAt.own h2
    obtain ⟨x, cx, rfl⟩ := h4.slice
    rw [List.length_map, hz] at h1 h4
    exact ⟨x, cx, h1, h4, h3⟩)
  have CL : Hid (∀ W, Below w.heap.size w W → Calls Tryd.prog 28 #[.slice a n c] W fun e w1 => ∃ x cx, e = .returned (.tuple #[.slice x m cx, .int .i64 0]) ∧ SpsAt w1 (.slice x m cx) LS ∧ Below W.heap.size W w1) := Lib.hid fun W hb => by
    refine (Lines_any _ l W (HB.out W hb).1 (by omega) (HB.out W hb).2.marks (HB.out W hb).2.hm).mono ?_
    rintro e w1 ⟨v, h1, h2, h3⟩
    rw [(lines_ok h0).1, hLS] at h1 h2
    have h4 := SpsAt.own h2
    obtain ⟨x, cx, rfl⟩ := h4.slice
    rw [hm] at h1 h4
    exact ⟨x, cx, h1, h4, h3⟩
  have CC : Hid (∀ (k : Nat) f t, LS[k]? = some (f, t) → ∀ W, Below w.heap.size w W → Calls Tryd.prog 30 #[.slice a n c, .agg #[.int .i64 f, .int .i64 t]] W fun e w1 => e = .returned (.tuple #[.string (str (segL l (f, t))), .int .i64 0]) ∧ Below W.heap.size W w1) := Lib.hid fun k f t hk W hb => by
    have := Cut_any a n c l f t W (HB.out W hb).1 hn hcap (by omega) (HB.out W hb).2.marks (HB.out W hb).2.hm
    rw [(line_step h0 (by rw [hLS]; exact hk)).1] at this; exact this
  have CP : Hid (∀ i : Int, ∀ W, Below w.heap.size w W → Calls Tryd.prog 33 #[.slice a n c, .int .i64 i] W fun e w1 => e = .returned (plcV (placeP l i)) ∧ Below W.heap.size W w1) := Lib.hid fun i W hb =>
    Place_any a n c l i W (HB.out W hb).1 hn hcap (by omega) (HB.out W hb).2.marks (HB.out W hb).2.hm
  have CT : Hid (∀ i j : Int, ∀ W, Below w.heap.size w W → Calls Tryd.prog 35 #[.slice a n c, .int .i64 i, .int .i64 j] W fun e w1 => e = .returned (pairV (atP l i j)) ∧ Below W.heap.size W w1) := Lib.hid fun i j W hb =>
    At_any a n c l i j W (HB.out W hb).1 hn hcap (by omega) (HB.out W hb).2.marks (HB.out W hb).2.hm
  have HSTEP : Hid (∀ k s, LS[k]? = some s → (k = 0 → segL l s = jn l 1) ∧ (1 ≤ k → jn l k ++ [10] ++ segL l s = jn l (k + 1))) := Lib.hid fun k s hk => (line_step h0 (by rw [hLS]; exact hk)).2
  have HJ : Hid (∀ k, (jn l k).length ≤ 100) := Lib.hid fun k => Nat.le_trans (jn_len l k) (by omega)
  have HSEG : Hid (∀ s, (segL l s).length ≤ 100) := Lib.hid fun s => by
    unfold segL; rw [List.length_drop, List.length_take]; omega
  have HALL : Hid (jn l m = l) := Lib.hid (by rw [← hm, ← hLS]; exact jn_all l)
  have HCV : Hid (∀ W, Below w.heap.size w W → (convert 43 9 (.slice a n c)).run Tryd.prog W = .ok (.string (str l)) W) := Lib.hid fun W hb => conv_row (HB.out W hb).1
  have HST : Hid (∀ (k : Nat) s, S[k]? = some s → ∃ (X Y : Int) (q : Nat) (f t : Int), placeP l s = (X, Y, 0) ∧ atP l X Y = ((s : Int), 0) ∧ X - 1 = (q : Int) ∧ q < m ∧ LS[q]? = some (f, t) ∧ f ≤ s ∧ (s : Int) ≤ t ∧ 1 ≤ Y ∧ Y ≤ 1 + (s : Int) - f ∧ 0 ≤ f ∧ (s : Int) ≤ 100) := Lib.hid fun k s hk => by
    have hmem := List.mem_of_getElem? hk
    rw [← hS] at hmem
    obtain ⟨p, u, b, e, l1, hu, rfl⟩ := start_at h0 hmem
    obtain ⟨x2, q, e2, hs⟩ := line_of h0 e l1 hu
    rw [hLS] at hs
    have hlt := (List.getElem?_eq_some_iff.1 hs).1
    have hwu : u.length ≤ wid u := by
      rw [← begs_length u 0, ← encs_len]
      have := runs_len_le (encs u)
      rw [runs_of_encs (fun r hr => runs_all l r (by rw [e]; simp [hr]))] at this
      rw [begs_length]; exact this
    have hle : wid (p ++ u) ≤ l.length := by
      have := congrArg List.length (runs_whole (chk_len h0).2)
      rw [encs_len, e, wid_app] at this; omega
    refine ⟨_, _, p.count 10, _, _, place_at h0 e l1 hu, at_place h0 e l1 hu, by omega, by omega, hs, ?_, ?_, by omega, ?_, by omega, by omega⟩
    · rw [wid_app]; omega
    · rw [wid_app, wid_app]; omega
    · rw [wid_app]; omega
  have HFIN : Hid (atP l ln cl = (0, 4) ∨ ∃ k : Nat, atP l ln cl = ((k : Int), 0) ∧ placeP l k = ((ln : Int), (cl : Int), 0)) := Lib.hid (by
    rcases at_cases h0 ln cl with h1 | ⟨p, u, b, e, l1, hu, e1, e2⟩
    · exact .inl h1
    · right
      refine ⟨wid (p ++ u), ?_, ?_⟩
      · rw [e1, e2]; exact at_place h0 e l1 hu
      · rw [e1, e2]; exact place_at h0 e l1 hu)
  have hm1 : 1 ≤ m := by rw [← hm, ← hLS]; exact lines_pos l
  have hm2 : m ≤ 101 := by
    rw [← hm, ← hLS]
    have := linesF_len l 0 0
    unfold linesG; omega
  have hz2 : z ≤ 101 := by
    rw [← hz, ← hS]
    have := runs_len_le l
    unfold stS; rw [List.length_append, begs_length]; simp only [List.length_singleton]; omega
  have HM := Lib.hid hm
  have HZ := Lib.hid hz
  have hd1 : decide ((100 : Int) < (n : Int)) = false := decide_eq_false (by omega)
  have hd2 : ((m : Int) == 0) = false := by rw [beq_eq_false_iff_ne]; omega
  clear T h hB0 hn hcap h0 hLS hS hm hz
  go_enter Tryd.func10, Tryd.ntmps10
  go_wp2_with fail
  refine CS.out.mono ?_
  rintro e w1 ⟨xa, cx, rfl, hr1, hb1⟩
  have HR1 := Lib.hid hr1
  clear hr1
  go_wp2_with fail
  refine (CL.out _ hb1).mono ?_
  rintro e w2 ⟨la, lc, rfl, hs2, hb2⟩
  have HS2 := Lib.hid hs2
  have hB2 := hb1.trans (hb2.mono hb1.size)
  have HR2 := Lib.hid (RowAt.below HR1.out hb2 (Nat.le_refl _))
  clear hs2 CS CL
  go_wp2_with fail
  -- MARK1
  go_loopw [10, 11] (fun x10 x11 wr => ∃ (k : Nat) (xs : ByteArray), x10 = .string xs ∧ x11 = .int .i64 k ∧ k ≤ m ∧ Hid (xs = str (jn l k)) ∧ Below w2.heap.size w2 wr) (fun _ x11 _ => m - (intOf x11).toNat)
  case atStart => exact ⟨0, _, rfl, rfl, Nat.zero_le _, Lib.hid rfl, Below.refl _ _⟩
  case round =>
    obtain ⟨k, xs, rfl, rfl, hk, HXS, hE⟩ := hrel
    have hB := hB2.trans (hE.mono hB2.size)
    by_cases hlt : k < m
    · obtain ⟨s, hs⟩ : ∃ s, LS[k]? = some s := ⟨_, List.getElem?_eq_getElem (by rw [HM.out]; exact hlt)⟩
      obtain ⟨f, t⟩ := s
      have KC := Lib.hid (CC.out k f t hs)
      obtain ⟨st1, st2⟩ := HSTEP.out k _ hs
      have hxs : xs.size ≤ 100 := by rw [HXS.out, str_size]; exact HJ.out k
      obtain ⟨sg, hsg⟩ : ∃ sg, str (segL l (f, t)) = sg := ⟨_, rfl⟩
      have hsgs : sg.size ≤ 100 := by rw [← hsg, str_size]; exact HSEG.out _
      rw [hsg] at KC
      have HN1 : Hid (k = 0 → xs ++ sg = str (jn l 1)) := Lib.hid fun hk0 => by
        rw [HXS.out, ← hsg, str_app, st1 hk0, hk0]; rfl
      have HN2 : Hid (1 ≤ k → (xs ++ ⟨#[10]⟩) ++ sg = str (jn l (k + 1))) := Lib.hid fun hk0 => by
        rw [HXS.out, ← hsg, show (⟨#[10]⟩ : ByteArray) = str [10] from rfl, str_app, str_app, st2 hk0]
      rcases HS2.out.below hE (Nat.le_refl _) with ⟨_, _, _, hnil⟩ | ⟨g, off, cc, hv, hg, hcl⟩
      · rw [hnil] at hs; simp at hs
      · obtain ⟨rfl, hv2, rfl⟩ := Value.slice.inj hv
        have d0 : wr.cell? ⟨g, off + k * 2, none⟩ = some (.int .i64 f) := hcl _ _ (scs_at LS hs).1
        have d1 : wr.cell? ⟨g, off + k * 2 + 1, none⟩ = some (.int .i64 t) := hcl _ _ (scs_at LS hs).2
        have hk0 : (0 : Int) ≤ (k : Int) := Int.natCast_nonneg _
        have hk1 : (k : Int) < (m : Int) := by omega
        clear hcl hv hv2 hs hsg st1 st2
        go_wp2_with fail
        refine (KC.out _ hB).mono ?_
        rintro e w3 ⟨rfl, hb3⟩
        have hE3 := hE.trans (hb3.mono hE.size)
        by_cases hz0 : k = 0
        · have HQ := Lib.hid (HN1.out hz0)
          have ho : ∀ W, (Op.stringOp .add xs sg).run Tryd.prog W = .ok (.string (xs ++ sg)) W := fun W => run_string_add_sum W _ _ (by omega)
          subst hz0
          clear HN1 HN2 d0 d1 hk0 hk1
          go_wp2_with fail
          -- MARK4
          go_roundw
          case rel => exact ⟨1, _, rfl, by go_num, by omega, Lib.hid HQ.out, hE3⟩
          case measure => simp [intOf]; omega
        · have HQ := Lib.hid (HN2.out (by omega))
          have hkp : 0 < k := by omega
          have ho1 : ∀ W, (Op.stringOp .add xs ⟨#[10]⟩).run Tryd.prog W = .ok (.string (xs ++ ⟨#[10]⟩)) W := fun W => run_string_add_sum W _ _ (by show xs.size + 1 ≤ _; omega)
          have ho2 : ∀ W, (Op.stringOp .add (xs ++ ⟨#[10]⟩) sg).run Tryd.prog W = .ok (.string ((xs ++ ⟨#[10]⟩) ++ sg)) W := fun W => run_string_add_sum W _ _ (by rw [ByteArray.size_append]; show xs.size + 1 + sg.size ≤ _; omega)
          clear hz0
          go_wp2_with fail
          go_roundw
          case rel => exact ⟨k + 1, _, rfl, int_v (by omega), by omega, Lib.hid HQ.out, hE3⟩
          case measure => simp [intOf]; omega
    · obtain rfl : k = m := by omega
      have hv := HCV.out _ hB
      have hxl : str l = xs := by rw [HXS.out, HALL.out]
      rw [hxl] at hv
      clear hxl HXS HSTEP HJ HSEG CC hlt
      -- MARK2
      go_wp2_with fail
      -- MARK3
      go_loopw [14] (fun x14 wx => ∃ k : Nat, x14 = .int .i64 k ∧ k ≤ z ∧ Below w2.heap.size w2 wx) (fun x14 _ => z - (intOf x14).toNat)
      case atStart => exact ⟨0, rfl, Nat.zero_le _, hE⟩
      case round =>
        obtain ⟨j, rfl, hj, hEj⟩ := hrel
        have hBj := hB2.trans (hEj.mono hB2.size)
        by_cases hjlt : j < z
        · obtain ⟨s, hs⟩ : ∃ s, S[j]? = some s := ⟨_, List.getElem?_eq_getElem (by rw [HZ.out]; exact hjlt)⟩
          obtain ⟨X, Y, q, f, t, p1, p2, p3, p4, p5, p6, p7, p8, p9, p10, p11⟩ := HST.out j s hs
          have KP : Hid (∀ W, Below w.heap.size w W → Calls Tryd.prog 33 #[.slice a n c, .int .i64 (s : Int)] W fun e w1 => e = .returned (.tuple #[.int .i64 X, .int .i64 Y, .int .i64 0]) ∧ Below W.heap.size W w1) := Lib.hid fun W hb => by
            have := CP.out s W hb; rw [p1] at this; exact this
          have KT : Hid (∀ W, Below w.heap.size w W → Calls Tryd.prog 35 #[.slice a n c, .int .i64 X, .int .i64 Y] W fun e w1 => e = .returned (.tuple #[.int .i64 (s : Int), .int .i64 0]) ∧ Below W.heap.size W w1) := Lib.hid fun W hb => by
            have := CT.out X Y W hb; rw [p2] at this; exact this
          rcases RowAt.below HR2.out hEj (Nat.le_refl _) with ⟨_, _, hv, hnil⟩ | ⟨g, off, _, cc, hv, _, hg, hcl⟩
          · have := (Value.slice.inj hv).2.1; omega
          · obtain ⟨rfl, hv2, rfl⟩ := Value.slice.inj hv
            rcases HS2.out.below hEj (Nat.le_refl _) with ⟨_, _, hu, hnil⟩ | ⟨g2, off2, cc2, hu, hg2, hcl2⟩
            · rw [hnil] at p5; simp at p5
            · obtain ⟨rfl, hu2, rfl⟩ := Value.slice.inj hu
              have HD : Hid (∀ W, Below wr.heap.size wr W → W.cell? ⟨g, off + j, none⟩ = some (.int .i64 (s : Int)) ∧ W.cell? ⟨g2, off2 + q * 2, none⟩ = some (.int .i64 f) ∧ W.cell? ⟨g2, off2 + q * 2 + 1, none⟩ = some (.int .i64 t)) := Lib.hid fun W hW =>
                ⟨(hW.cell (p := ⟨g, off + j, none⟩) hg).trans (hcl j _ (by rw [List.getElem?_map, hs]; rfl)), (hW.cell (p := ⟨g2, off2 + q * 2, none⟩) hg2).trans (hcl2 _ _ (scs_at LS p5).1), (hW.cell (p := ⟨g2, off2 + q * 2 + 1, none⟩) hg2).trans (hcl2 _ _ (scs_at LS p5).2)⟩
              obtain ⟨d0, d1, d2⟩ := HD.out _ (Below.refl _ _)
              have hj0 : (0 : Int) ≤ (j : Int) := Int.natCast_nonneg _
              have hj1 : (j : Int) < (z : Int) := by omega
              have hq0 : (0 : Int) ≤ (q : Int) := Int.natCast_nonneg _
              have hq1 : (q : Int) < (k : Int) := by omega
              clear hcl hcl2 hv hv2 hu hu2 hs p1 p2 p5
              go_wp2_with fail
              refine (KP.out _ hBj).mono ?_
              rintro e w3 ⟨rfl, hb3⟩
              have hB3 := hBj.trans (hb3.mono hBj.size)
              clear d0 d1 d2
              go_wp2_with fail
              refine (KT.out _ hB3).mono ?_
              rintro e w4 ⟨rfl, hb4⟩
              have hb4' := hb3.trans (hb4.mono hb3.size)
              have hE4 := hEj.trans (hb4'.mono hEj.size)
              obtain ⟨d0, d1, d2⟩ := HD.out _ hb4'
              have t1 : decide (X < 1) = false := decide_eq_false (by omega)
              have t2 : decide ((k : Int) < X) = false := decide_eq_false (by omega)
              have t3 : decide ((s : Int) < f) = false := decide_eq_false (by omega)
              have t4 : decide (t < (s : Int)) = false := decide_eq_false (by omega)
              have t5 : decide (Y < 1) = false := decide_eq_false (by omega)
              have t6 : decide (1 + (s : Int) - f < Y) = false := decide_eq_false (by omega)
              have x1 : 1 ≤ X := by omega
              have x2 : X ≤ 1000 := by omega
              clear hb3 hb4 hb4'
              go_wp2_with fail
              -- MARK5
              go_roundw
              case rel => exact ⟨j + 1, int_v (by omega), by omega, hE4⟩
              case measure => simp [intOf]; omega
        · obtain rfl : j = z := by omega
          clear HST
          -- MARK6
          go_wp2_with fail
          -- MARK7
          rcases HFIN.out with hA | ⟨k2, hA, hP⟩
          · have KA := Lib.hid (CT.out ln cl wr hBj)
            rw [hA] at KA
            clear hA CP CT
            refine KA.out.mono ?_
            rintro e w5 ⟨rfl, hb5⟩
            have hB5 := hBj.trans (hb5.mono hBj.size)
            unfold pairV
            simp only
            go_wp2_with (go_at_call 12; refine (CA.out _ hB5).mono ?_; rintro e w6 ⟨rfl, hb6⟩)
            go_ret
            exact ⟨rfl, hB5.trans (hb6.mono hB5.size)⟩
          · have KA := Lib.hid (CT.out ln cl wr hBj)
            rw [hA] at KA
            have KP : Hid (∀ W, Below w.heap.size w W → Calls Tryd.prog 33 #[.slice a n c, .int .i64 (k2 : Int)] W fun e w1 => e = .returned (.tuple #[.int .i64 (ln : Int), .int .i64 (cl : Int), .int .i64 0]) ∧ Below W.heap.size W w1) := Lib.hid fun W hb => by
              have := CP.out k2 W hb; rw [hP] at this; exact this
            clear hA hP CP CT
            refine KA.out.mono ?_
            rintro e w5 ⟨rfl, hb5⟩
            have hB5 := hBj.trans (hb5.mono hBj.size)
            unfold pairV
            simp only
            go_wp2_with fail
            refine (KP.out _ hB5).mono ?_
            rintro e w6 ⟨rfl, hb6⟩
            have hB6 := hB5.trans (hb6.mono hB5.size)
            go_wp2_with (go_at_call 12; refine (CA.out _ hB6).mono ?_; rintro e w7 ⟨rfl, hb7⟩)
            go_ret
            exact ⟨rfl, hB6.trans (hb7.mono hB6.size)⟩

set_option maxRecDepth 100000 in
set_option maxHeartbeats 6400000 in
theorem lawBk_any (v : Value) (l : List UInt8) (ln cl : Int) (w : World) (T : PTabs w) (h : ArgAt w v (l.map bc)) (hln : 0 ≤ ln ∧ ln ≤ 255) (hcl : 0 ≤ cl ∧ cl ≤ 255) :
    Calls Tryd.prog 10 #[v, .int .u8 ln, .int .u8 cl] w fun e w' => e = .returned (.bool true) ∧ Below w.heap.size w w' := by
  obtain ⟨p, rfl⟩ : ∃ p : Nat, ln = p := ⟨ln.toNat, by omega⟩
  obtain ⟨q, rfl⟩ : ∃ q : Nat, cl = q := ⟨cl.toNat, by omega⟩
  have h' := h
  obtain ⟨a, n, c, rfl, hn, hc, hs⟩ := h'
  rw [List.length_map] at hn
  have CA : Hid (∀ W, Below w.heap.size w W → Calls Tryd.prog 12 #[] W fun e w' => e = .returned (.bool true) ∧ Below W.heap.size W w') := Lib.hid fun W hb => awake_any W (T.below hb)
  by_cases hb : n ≤ 100 ∧ (chkS l).2 = 0
  · exact lawBk_in a n c l p q w T h hn hc hb.1 hb.2 (by omega) (by omega)
  · obtain ⟨e0, CS, he⟩ : ∃ e0 : Int, Hid (Calls Tryd.prog 38 #[.slice a n c] w fun e w1 => ∃ x z cx, e = .returned (.tuple #[.slice x z cx, .int .i64 e0]) ∧ Below w.heap.size w w1) ∧ (100 < n ∨ e0 ≠ 0) := by
      by_cases hl : n ≤ 8000
      · refine ⟨(startsS l).2, Lib.hid ?_, ?_⟩
        · refine (rstarts_any _ l w h (by omega)).mono ?_
          rintro e w1 ⟨v, h1, h2, h3⟩
          obtain ⟨x, cx, rfl⟩ := (RowAt.own h2).slice
          exact ⟨x, _, cx, h1, h3⟩
        · by_cases h1 : n ≤ 100
          · right
            have h2 : (chkS l).2 ≠ 0 := fun e => hb ⟨h1, e⟩
            unfold startsS; rw [if_neg h2]; exact h2
          · left; omega
      · refine ⟨3, Lib.hid ((rstarts_long a n c w (by omega)).mono ?_), .inl (by omega)⟩
        rintro e w1 ⟨h1, h2⟩
        exact ⟨_, _, _, h1, h2⟩
    clear T h hs hn hb
    go_enter Tryd.func10, Tryd.ntmps10
    go_wp2_with fail
    refine CS.out.mono ?_
    rintro e w1 ⟨xa, z, cx, rfl, hb1⟩
    by_cases h1 : 100 < n
    · have hd : decide ((100 : Int) < (n : Int)) = true := decide_eq_true (by omega)
      go_wp2_with (go_at_call 12; refine (CA.out _ hb1).mono ?_; rintro e w7 ⟨rfl, hb7⟩)
      go_ret
      exact ⟨rfl, hb1.trans (hb7.mono hb1.size)⟩
    · have hd : decide ((100 : Int) < (n : Int)) = false := decide_eq_false (by omega)
      have hne : (e0 != 0) = true := by
        rw [bne_iff_ne]
        rcases he with he | he
        · exact absurd he h1
        · exact he
      clear he h1
      go_wp2_with (go_at_call 12; refine (CA.out _ hb1).mono ?_; rintro e w7 ⟨rfl, hb7⟩)
      go_ret
      exact ⟨rfl, hb1.trans (hb7.mono hb1.size)⟩
end Go.Proofs.YtbajikkjkiacnaaDoor
