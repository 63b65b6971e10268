/- The law WordsLines, walked. -/
import Derived.Test.YtnajkkbcfebegaaDoorLinesR
import Derived.Test.YtnajkkbcfebegaaDoorLaw1
import Derived.Deep.OwnRows
import Derived.Laws.OwnMore
namespace Go.Proofs.YtnajkkbcfebegaaDoor
open Go.RowKit Go.PlainAid

theorem infoU8 : (Tryd.prog.info? 5).map (fun i => (i.zero, i.size, i.bytes)) = some (some (.int .u8 0), 1, 1) := by kernel_rfl
theorem made_own (w : World) (n : Nat) (hn : n ≤ 2000000) (C : Array Value) (hC : C = madeCells #[.int .u8 0] n) : (w.alloc (.cells C 5)).ownsRow w.heap.size 5 1 (.slice (some ⟨w.heap.size, 0, none⟩) n n) n ((List.replicate n (0 : UInt8)).map bc) := by
  have e : C.toList = (List.replicate n (0 : UInt8)).map bc := by
    rw [hC, toList_madeCells_one, List.map_replicate]; rfl
  have hs : C.size = n := by rw [hC, size_madeCells]
  rw [← e]
  exact ⟨by simp [hs], .inr ⟨w.heap.size, n, C, rfl, Nat.le_refl _, World.alloc_heap_new _ _, Nat.le_refl _, by unfold maxLen; omega, by omega, by rw [List.take_of_length_le (by simp [hs])]⟩⟩

set_option maxRecDepth 50000 in
set_option maxHeartbeats 3200000 in
theorem wlines_any (s tail : ByteArray) (lg : Bool) (w : World) (T : Ties w) :
    Calls Tryd.prog 7 #[.string s, .string tail, .bool lg] w fun e w' => e = .returned (.bool true) ∧ Below w.heap.size w w' := by
  have CS : Hid (∀ w', Below w.heap.size w w' → Calls Tryd.prog 9 #[] w' fun e w'' => e = .returned (.bool true) ∧ Below w'.heap.size w' w'') := Lib.hid fun w' hb => shown_any w' (T w' hb) (T.below hb)
  have CL : Hid (∀ x W, Calls Tryd.prog 26 #[.string x] W fun e w' => e = .returned (.bool true) ∧ Below W.heap.size W w') := Lib.hid fun x W => lawlines_any x W
  clear T
  by_cases h1 : 12000 < s.size
  · have hd1 : decide ((12000 : Int) < (s.size : Int)) = true := decide_eq_true (by omega)
    clear h1
    go_enter Tryd.func7, Tryd.ntmps7
    go_wp2_with (go_at_call 9; refine (CS.out w (Below.refl _ _)).mono ?_; rintro e w1 ⟨rfl, hb1⟩)
    go_ret
    exact ⟨rfl, hb1⟩
  have hd1 : decide ((12000 : Int) < (s.size : Int)) = false := decide_eq_false (by omega)
  by_cases h2 : 100 < tail.size
  · have hd2 : decide ((100 : Int) < (tail.size : Int)) = true := decide_eq_true (by omega)
    clear h1 h2
    go_enter Tryd.func7, Tryd.ntmps7
    go_wp2_with (go_at_call 9; refine (CS.out w (Below.refl _ _)).mono ?_; rintro e w1 ⟨rfl, hb1⟩)
    go_ret
    exact ⟨rfl, hb1⟩
  have hd2 : decide ((100 : Int) < (tail.size : Int)) = false := decide_eq_false (by omega)
  obtain ⟨n1, hn1⟩ : ∃ n, n = 5000 := ⟨_, rfl⟩
  obtain ⟨n2, hn2⟩ : ∃ n, n = 1048556 := ⟨_, rfl⟩
  obtain ⟨C1, hC1⟩ : ∃ c, c = madeCells #[.int .u8 0] n1 := ⟨_, rfl⟩
  obtain ⟨C2, hC2⟩ : ∃ c, c = madeCells #[.int .u8 0] n2 := ⟨_, rfl⟩
  have hm1 : ∀ u : World, (Instr.makeSlice 38 (.int .i64 5000) (.int .i64 5000)).run Tryd.prog u = .ok (.slice (some ⟨u.heap.size, 0, none⟩) n1 n1) (u.alloc (.cells C1 5)) := fun u => by
    rw [hC1, hn1]; exact run_make_row' 38 5 (.int .u8 0) 1 Tryd.underlying38 infoU8 rfl .i64 .i64 5000 (by omega) (by omega) u
  have hm2 : ∀ u : World, (Instr.makeSlice 38 (.int .i64 1048556) (.int .i64 1048556)).run Tryd.prog u = .ok (.slice (some ⟨u.heap.size, 0, none⟩) n2 n2) (u.alloc (.cells C2 5)) := fun u => by
    rw [hC2, hn2]; exact run_make_row' 38 5 (.int .u8 0) 1 Tryd.underlying38 infoU8 rfl .i64 .i64 1048556 (by omega) (by omega) u
  have hq1 : n1 ≤ 2000000 := by omega
  have hq2 : n2 ≤ 2000000 := by omega
  have HO1 : Hid (∀ W : World, (W.alloc (.cells C1 5)).ownsRow W.heap.size 5 1 (.slice (some ⟨W.heap.size, 0, none⟩) n1 n1) n1 ((List.replicate n1 (0 : UInt8)).map bc)) := Lib.hid fun (W : World) => made_own W n1 hq1 C1 hC1
  have HO2 : Hid (∀ W : World, (W.alloc (.cells C2 5)).ownsRow W.heap.size 5 1 (.slice (some ⟨W.heap.size, 0, none⟩) n2 n2) n2 ((List.replicate n2 (0 : UInt8)).map bc)) := Lib.hid fun (W : World) => made_own W n2 hq2 C2 hC2
  clear hC1 hC2 hn1 hn2
  cases lg with
  | false =>
    have HO0 := Lib.hid (HO1.out w)
    have hB0 : Below w.heap.size w (w.alloc (.cells C1 5)) := (Below.refl _ _).alloc (Nat.le_refl _) _
    clear hm2 hq2 HO1 HO2
    obtain ⟨n, hnn⟩ : ∃ n, n = n1 := ⟨_, rfl⟩
    subst hnn
    go_enter Tryd.func7, Tryd.ntmps7
    go_wp2_with fail
    have hbs : w.heap.size ≤ w.heap.size := by omega
    -- MARKF
    go_loopw [8] (fun x8 wr => ∃ (k : Nat) (xs : List UInt8), x8 = .int .i64 k ∧ k ≤ n ∧ Hid (xs.length = n) ∧ Hid (wr.ownsRow w.heap.size 5 1 (.slice (some ⟨w.heap.size, 0, none⟩) n n) n (xs.map bc)) ∧ Below w.heap.size w wr) (fun x8 _ => n - (intOf x8).toNat)
    case atStart => exact ⟨0, List.replicate n 0, rfl, Nat.zero_le _, Lib.hid (List.length_replicate ..), HO0, hB0⟩
    case round =>
      obtain ⟨k, xs, rfl, hk, HX, HO, hB⟩ := hrel
      by_cases hlt : k < n
      · obtain ⟨x, hx⟩ : ∃ x, xs[k]? = some x := ⟨_, List.getElem?_eq_getElem (by rw [HX.out]; exact hlt)⟩
        have hc : wr.cell? ⟨w.heap.size, k, none⟩ = some (bc x) := by
          rw [HO.out.cellAt k (by omega), List.getElem?_map, hx]; rfl
        have hf := HO.out.frozenAt k
        have HX1 : Hid ((xs.set k 10).length = n) := Lib.hid (by rw [List.length_set]; exact HX.out)
        have HO1 : Hid ((wr.setCell ⟨w.heap.size, k, none⟩ (.int .u8 10)).ownsRow w.heap.size 5 1 (.slice (some ⟨w.heap.size, 0, none⟩) n n) n ((xs.set k 10).map bc)) := Lib.hid (by
          have := (HO.out.stored k (.int .u8 10)).1
          rw [List.map_set]; exact this)
        have hB1 : Below w.heap.size w (wr.setCell ⟨w.heap.size, k, none⟩ (.int .u8 10)) := hB.setCell (by show w.heap.size ≤ w.heap.size; omega) _
        have hk0 : (0 : Int) ≤ (k : Int) := Int.natCast_nonneg _
        have hk1 : (k : Int) < (n : Int) := by omega
        clear hx
        go_wp2_with fail
        exact ⟨⟨k + 1, _, by go_num, by omega, HX1, HO1, hB1⟩, by simp [intOf]; omega⟩
      · obtain rfl : k = n := by omega
        have hss : (str xs).size = k := by rw [str_size, HX.out]
        obtain ⟨S, hS⟩ : ∃ S, str xs = S := ⟨_, rfl⟩
        rw [hS] at hss
        have ho : ∀ W, (Op.stringOp .add S tail).run Tryd.prog W = .ok (.string (S ++ tail)) W := fun W => run_string_add_sum W _ _ (by rw [hss]; omega)
        have HSS := Lib.hid hS
        clear hss hS
        go_wp2_with fail
        refine (CL.out s _).mono ?_
        rintro e w1 ⟨rfl, hb1⟩
        have hB1 := hB.trans (hb1.mono hB.size)
        have hcv : (convert 38 9 (.slice (some ⟨w.heap.size, 0, none⟩) k k)).run Tryd.prog w1 = .ok (.string S) w1 := by
          rw [← HSS.out]; exact conv_own (B := w.heap.size) Tryd.underlying38 Tryd.underlying5 (own_below HO.out hb1) _ Tryd.underlying9
        clear HO HSS
        go_wp2_with fail
        -- MARKEF
        refine (CL.out (S ++ tail) _).mono ?_
        rintro e w2 ⟨rfl, hb2⟩
        have hB2 := hB1.trans (hb2.mono hB1.size)
        go_wp2_with (go_at_call 9; refine (CS.out _ hB2).mono ?_; rintro e w9 ⟨rfl, hb9⟩)
        go_ret
        exact ⟨rfl, hB2.trans (hb9.mono hB2.size)⟩
  | true =>
    have HO0 : Hid (((w.alloc (.cells C1 5)).alloc (.cells C2 5)).ownsRow w.heap.size 5 1 (.slice (some ⟨w.heap.size + 1, 0, none⟩) n2 n2) n2 ((List.replicate n2 (0 : UInt8)).map bc)) := Lib.hid (by
      have := HO2.out (w.alloc (.cells C1 5))
      rw [World.size_alloc] at this
      exact own_mono this (by omega))
    have hB0 : Below w.heap.size w ((w.alloc (.cells C1 5)).alloc (.cells C2 5)) := ((Below.refl _ _).alloc (Nat.le_refl _) _).alloc (by rw [World.size_alloc]; omega) _
    clear hq1 HO1 HO2
    obtain ⟨n, hnn⟩ : ∃ n, n = n2 := ⟨_, rfl⟩
    subst hnn
    go_enter Tryd.func7, Tryd.ntmps7
    go_wp2_with fail
    have hbs : w.heap.size ≤ (w.heap.size + 1) := by omega
    -- MARKT
    go_loopw [8] (fun x8 wr => ∃ (k : Nat) (xs : List UInt8), x8 = .int .i64 k ∧ k ≤ n ∧ Hid (xs.length = n) ∧ Hid (wr.ownsRow w.heap.size 5 1 (.slice (some ⟨(w.heap.size + 1), 0, none⟩) n n) n (xs.map bc)) ∧ Below w.heap.size w wr) (fun x8 _ => n - (intOf x8).toNat)
    case atStart => exact ⟨0, List.replicate n 0, rfl, Nat.zero_le _, Lib.hid (List.length_replicate ..), HO0, hB0⟩
    case round =>
      obtain ⟨k, xs, rfl, hk, HX, HO, hB⟩ := hrel
      by_cases hlt : k < n
      · obtain ⟨x, hx⟩ : ∃ x, xs[k]? = some x := ⟨_, List.getElem?_eq_getElem (by rw [HX.out]; exact hlt)⟩
        have hc : wr.cell? ⟨(w.heap.size + 1), k, none⟩ = some (bc x) := by
          rw [HO.out.cellAt k (by omega), List.getElem?_map, hx]; rfl
        have hf := HO.out.frozenAt k
        have HX1 : Hid ((xs.set k 10).length = n) := Lib.hid (by rw [List.length_set]; exact HX.out)
        have HO1 : Hid ((wr.setCell ⟨(w.heap.size + 1), k, none⟩ (.int .u8 10)).ownsRow w.heap.size 5 1 (.slice (some ⟨(w.heap.size + 1), 0, none⟩) n n) n ((xs.set k 10).map bc)) := Lib.hid (by
          have := (HO.out.stored k (.int .u8 10)).1
          rw [List.map_set]; exact this)
        have hB1 : Below w.heap.size w (wr.setCell ⟨(w.heap.size + 1), k, none⟩ (.int .u8 10)) := hB.setCell (by show w.heap.size ≤ (w.heap.size + 1); omega) _
        have hk0 : (0 : Int) ≤ (k : Int) := Int.natCast_nonneg _
        have hk1 : (k : Int) < (n : Int) := by omega
        have HX2 : Hid (((xs.set k 10).set k 120).length = n) := Lib.hid (by rw [List.length_set]; exact HX1.out)
        have HO2 : Hid (((wr.setCell ⟨(w.heap.size + 1), k, none⟩ (.int .u8 10)).setCell ⟨(w.heap.size + 1), k, none⟩ (.int .u8 120)).ownsRow w.heap.size 5 1 (.slice (some ⟨(w.heap.size + 1), 0, none⟩) n n) n (((xs.set k 10).set k 120).map bc)) := Lib.hid (by
          have := (HO1.out.stored k (.int .u8 120)).1
          rw [List.map_set]; exact this)
        have hB2 : Below w.heap.size w ((wr.setCell ⟨(w.heap.size + 1), k, none⟩ (.int .u8 10)).setCell ⟨(w.heap.size + 1), k, none⟩ (.int .u8 120)) := hB1.setCell (by show w.heap.size ≤ (w.heap.size + 1); omega) _
        have hc2 : (wr.setCell ⟨(w.heap.size + 1), k, none⟩ (.int .u8 10)).cell? ⟨(w.heap.size + 1), k, none⟩ = some (.int .u8 10) := World.cell?_setCell_same' _ _ _ (by rw [hc]; rfl)
        have hf2 := HO1.out.frozenAt k
        clear hx
        go_wp2_with fail
        all_goals first
          | exact ⟨⟨k + 1, _, by go_num, by omega, HX2, HO2, hB2⟩, by simp [intOf]; omega⟩
          | exact ⟨⟨k + 1, _, by go_num, by omega, HX1, HO1, hB1⟩, by simp [intOf]; omega⟩
      · obtain rfl : k = n := by omega
        have hss : (str xs).size = k := by rw [str_size, HX.out]
        obtain ⟨S, hS⟩ : ∃ S, str xs = S := ⟨_, rfl⟩
        rw [hS] at hss
        have ho : ∀ W, (Op.stringOp .add S tail).run Tryd.prog W = .ok (.string (S ++ tail)) W := fun W => run_string_add_sum W _ _ (by rw [hss]; omega)
        have HSS := Lib.hid hS
        clear hss hS
        go_wp2_with fail
        refine (CL.out s _).mono ?_
        rintro e w1 ⟨rfl, hb1⟩
        have hB1 := hB.trans (hb1.mono hB.size)
        have hcv : (convert 38 9 (.slice (some ⟨(w.heap.size + 1), 0, none⟩) k k)).run Tryd.prog w1 = .ok (.string S) w1 := by
          rw [← HSS.out]; exact conv_own (B := w.heap.size) Tryd.underlying38 Tryd.underlying5 (own_below HO.out hb1) _ Tryd.underlying9
        clear HO HSS
        go_wp2_with fail
        -- MARKET
        refine (CL.out (S ++ tail) _).mono ?_
        rintro e w2 ⟨rfl, hb2⟩
        have hB2 := hB1.trans (hb2.mono hB1.size)
        go_wp2_with (go_at_call 9; refine (CS.out _ hB2).mono ?_; rintro e w9 ⟨rfl, hb9⟩)
        go_ret
        exact ⟨rfl, hB2.trans (hb9.mono hB2.size)⟩
end Go.Proofs.YtnajkkbcfebegaaDoor
