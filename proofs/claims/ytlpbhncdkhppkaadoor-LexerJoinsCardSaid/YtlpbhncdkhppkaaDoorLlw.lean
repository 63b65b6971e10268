/- The law LexerWords. -/
import Derived.Test.YtlpbhncdkhppkaaDoorLa
import Derived.Test.YtlpbhncdkhppkaaDoorLq3
namespace Go.Proofs.YtlpbhncdkhppkaaDoor
open Go.RowKit Go.PlainAid

theorem below_step {w W w2 : World} (h : Below w.heap.size w W) (hb : Below W.heap.size W w2) : Below w.heap.size w w2 := h.trans (hb.mono h.size)
set_option maxRecDepth 100000 in
set_option maxHeartbeats 6400000 in
theorem lawW_any (s : ByteArray) (k f t n : Int) (x : List UInt8) (w : World) (T : PTabs w) (hn : fits n) :
    Calls Tryd.prog 4 #[.string s, .agg #[.int .i64 k, .int .i64 f, .int .i64 t, .int .i64 n, .string (str x)]] w fun e w' => e = .returned (.bool true) ∧ Below w.heap.size w w' := by
  obtain ⟨W0, hW0⟩ : ∃ W0, W0 = w.alloc (.cells #[.int .i64 k, .int .i64 f, .int .i64 t, .int .i64 n, .string (str x)] 33) := ⟨_, rfl⟩
  have hB0 : Below w.heap.size w W0 := by rw [hW0]; exact below_b1 _ _
  have hz : (str x).size = x.length := str_size x
  have CAw := Lib.hid (fun W (hW : Below W0.heap.size W0 W) => awake_any W ((T.below hB0).below hW))
  have hb0 : W0.heap[w.heap.size]? = some (.cells #[.int .i64 k, .int .i64 f, .int .i64 t, .int .i64 n, .string (str x)] 33 (0, 0)) := by rw [hW0]; exact World.alloc_heap_new _ _
  have hlt0 : w.heap.size < W0.heap.size := by rw [hW0]; simp
  obtain ⟨m, hm⟩ : ∃ m, x.length = m := ⟨_, rfl⟩
  obtain ⟨ns, hns⟩ : ∃ ns, s.size = ns := ⟨_, rfl⟩
  have HB0 := Lib.hid hB0
  rw [hm] at hz
  by_cases hs : 100 < ns
  · have d1 : decide ((100 : Int) < (ns : Int)) = true := decide_eq_true (by omega)
    clear T hn hb0 hlt0 hB0 hm hs
    go_enter Tryd.func4, Tryd.ntmps4
    go_wp2_with fail
    rw [← hW0]
    refine (CAw.out W0 (Below.refl _ _)).mono ?_
    rintro e w1 ⟨rfl, hb1⟩
    go_wp2_with fail
    go_ret
    exact ⟨rfl, below_step HB0.out hb1⟩
  have d1 : decide ((100 : Int) < (ns : Int)) = false := decide_eq_false (by omega)
  by_cases hx : 100 < m
  · have d2 : decide ((100 : Int) < (m : Int)) = true := decide_eq_true (by omega)
    obtain ⟨X, hX⟩ : ∃ X, str x = X := ⟨_, rfl⟩
    rw [hX] at hz hW0 ⊢
    clear T hn hb0 hlt0 hB0 hm hs hx hX
    go_enter Tryd.func4, Tryd.ntmps4
    go_wp2_with fail
    rw [← hW0]
    refine (CAw.out W0 (Below.refl _ _)).mono ?_
    rintro e w1 ⟨rfl, hb1⟩
    go_wp2_with fail
    go_ret
    exact ⟨rfl, below_step HB0.out hb1⟩
  have d2 : decide ((100 : Int) < (m : Int)) = false := decide_eq_false (by omega)
  have hsl : s.data.toList.length ≤ 1000000 := by rw [len_list]; omega
  have CI : Hid (∀ W, Below W0.heap.size W0 W → Calls Tryd.prog 22 #[.string s] W fun e w' => e = .returned (.tuple #[.int .i64 (intE s.data.toList).1, .int .i64 (intE s.data.toList).2]) ∧ Below W.heap.size W w') := Lib.hid fun W hW => by
    have := Integer_any s.data.toList W hsl ((T.below hB0).below hW).lt.rg ((T.below hB0).below hW).lt.gr
    rw [str_data] at this; exact this
  have CRI : Hid (∀ W, Calls Tryd.prog 23 #[.string s] W fun e w' => e = .returned (.tuple #[.int .i64 (intE s.data.toList).1, .int .i64 (intE s.data.toList).2]) ∧ W = w') := Lib.hid fun W => by
    have := rInteger_any s.data.toList W hsl
    rw [str_data] at this; exact this
  have CS : Hid (∀ W, Below W0.heap.size W0 W → Calls Tryd.prog 24 #[.string s] W fun e w' => e = .returned (.bool (symL s.data.toList)) ∧ Below W.heap.size W w') := Lib.hid fun W hW => by
    have := Symbol_any s.data.toList W hsl ((T.below hB0).below hW).lt.st
    rw [str_data] at this; exact this
  have CRS : Hid (∀ W, Calls Tryd.prog 25 #[.string s] W fun e w' => e = .returned (.bool (symL s.data.toList)) ∧ Below W.heap.size W w') := Lib.hid fun W => by
    have := rSymbol_any s.data.toList W hsl
    rw [str_data] at this; exact this
  have CC := Lib.hid (fun W (hW : Below W0.heap.size W0 W) => Check_any k f t n x W hn ((T.below hB0).below hW) (by omega))
  have CRC := Lib.hid (fun W => rCheck_any k f t n x W (by omega))
  obtain ⟨iv, hiv⟩ : ∃ iv, (intE s.data.toList).1 = iv := ⟨_, rfl⟩
  obtain ⟨ie, hie⟩ : ∃ ie, (intE s.data.toList).2 = ie := ⟨_, rfl⟩
  obtain ⟨sb, hsb⟩ : ∃ sb, symL s.data.toList = sb := ⟨_, rfl⟩
  obtain ⟨ce, hce⟩ : ∃ ce, ckT k n x = ce := ⟨_, rfl⟩
  rw [hiv, hie] at CI CRI
  rw [hsb] at CS CRS
  rw [hce] at CC CRC
  have HBox : Hid (∀ W, Below W0.heap.size W0 W → (W.cell? ⟨w.heap.size, 0, none⟩ = some (.int .i64 k) ∧ W.cell? ⟨w.heap.size, 1, none⟩ = some (.int .i64 f) ∧ W.cell? ⟨w.heap.size, 2, none⟩ = some (.int .i64 t) ∧ W.cell? ⟨w.heap.size, 3, none⟩ = some (.int .i64 n) ∧ W.cell? ⟨w.heap.size, 4, none⟩ = some (.string (str x)))) := Lib.hid fun W hW =>
    (box5_facts ((hW.block _ hlt0).trans hb0)).1
  obtain ⟨X, hX⟩ : ∃ X, str x = X := ⟨_, rfl⟩
  rw [hX] at hz hW0 CC CRC HBox ⊢
  clear T hn hb0 hlt0 hB0 hm hs hx hX hsl hiv hie hsb hce
  go_enter Tryd.func4, Tryd.ntmps4
  go_wp2_with fail
  rw [← hW0]
  refine (CI.out W0 (Below.refl _ _)).mono ?_
  rintro e w1 ⟨rfl, hb1⟩
  clear hW0
  go_wp2_with fail
  refine (CRI.out _).mono ?_
  rintro e w2 ⟨rfl, rfl⟩
  obtain ⟨q0, q1, q2, q3, q4⟩ := HBox.out w1 hb1
  have hbd := hb1.drew
  go_wp2_with fail
  -- MARK1
  go_region_held3 (fun w' => w'.cell? ⟨w.heap.size, 0, none⟩ = some (.int .i64 k) ∧ w'.cell? ⟨w.heap.size, 1, none⟩ = some (.int .i64 f) ∧ w'.cell? ⟨w.heap.size, 2, none⟩ = some (.int .i64 t) ∧ w'.cell? ⟨w.heap.size, 3, none⟩ = some (.int .i64 n) ∧ w'.cell? ⟨w.heap.size, 4, none⟩ = some (.string X)) (go_keep)
    (first
      | ((go_at_call 13; with_reducible refine (CAw.out _ (by assumption)).mono ?_; rintro e w7 ⟨rfl, hb7⟩; have hq7 := below_step (by assumption) hb7; obtain ⟨q0, q1, q2, q3, q4⟩ := HBox.out _ hq7))
      | ((go_at_call 24; with_reducible refine (CS.out _ (by assumption)).mono ?_; rintro e w3 ⟨rfl, hb3⟩; have hq3 := below_step (by assumption) hb3; obtain ⟨q0, q1, q2, q3, q4⟩ := HBox.out _ hq3))
      | ((go_at_call 25; with_reducible refine (CRS.out _).mono ?_; rintro e w4 ⟨rfl, hb4⟩; have hq4 := below_step (by assumption) hb4; obtain ⟨q0, q1, q2, q3, q4⟩ := HBox.out _ hq4))
      | ((go_at_call 26; with_reducible refine (CC.out _ (by assumption)).mono ?_; rintro e w5 ⟨rfl, hb5⟩; have hq5 := below_step (by assumption) hb5; obtain ⟨q0, q1, q2, q3, q4⟩ := HBox.out _ hq5))
      | ((go_at_call 27; with_reducible refine (CRC.out _).mono ?_; rintro e w6 ⟨rfl, hb6⟩; have hq6 := below_step (by assumption) hb6; obtain ⟨q0, q1, q2, q3, q4⟩ := HBox.out _ hq6)))
  -- MARK2
  all_goals go_wp2
  all_goals go_ret
  all_goals exact ⟨rfl, below_step HB0.out (by assumption)⟩
end Go.Proofs.YtlpbhncdkhppkaaDoor
