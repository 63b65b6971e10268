/- The law RunesStarts, walked. -/
import Derived.Test.YtkpapggojiejdaaDoorRref7
import Derived.Test.YtkpapggojiejdaaDoorRawake
namespace Go.Proofs.YtkpapggojiejdaaDoor
open Go.RowKit Go.PlainAid

theorem startsS_len (l : List UInt8) : (startsS l).1.length ≤ l.length + 1 := by
  unfold startsS; split
  · have := runs_len_le l
    show (stS l).length ≤ _
    unfold stS; rw [List.length_append, begs_len]; simp only [List.length_cons, List.length_nil]; omega
  · simp

set_option maxRecDepth 100000 in
set_option maxHeartbeats 12800000 in
theorem lawS_small (a2 : Option Addr) (n2 c2 : Nat) (i : Int) (l : List UInt8) (w : World) (T : Tabs w) (h2 : ArgAt w (.slice a2 n2 c2) (l.map bc)) (hn2 : n2 = l.length)
    (hb2 : n2 ≤ 200 ∨ (8000 < n2 ∧ n2 ≤ 8100)) :
    Calls Tryd.prog 5 #[.slice a2 n2 c2, .int .i64 i] w fun e w' => e = .returned (.bool true) ∧ Below w.heap.size w w' := by
  have H2 : Hid (∀ W, Below w.heap.size w W → ArgAt W (.slice a2 n2 c2) (l.map bc)) := Lib.hid fun W hb => h2.below hb (Nat.le_refl _)
  have CA : Hid (∀ W, Below w.heap.size w W → Calls Tryd.prog 10 #[] W fun e w' => e = .returned (.bool true) ∧ Below W.heap.size W w') := Lib.hid fun W hb => awake_any W (T.below hb)
  have hl2 : l.length ≤ 8100 := by omega
  obtain ⟨L, hL⟩ : ∃ L : List Int, (startsS l).1.map (fun k : Nat => (k : Int)) = L := ⟨_, rfl⟩
  have hLr : (startsS l).1.map (fun k : Nat => Value.int .i64 (k : Int)) = L.map (Value.int .i64) := by
    rw [← hL, List.map_map]; rfl
  have hLl : L.length ≤ 8101 := by
    rw [← hL, List.length_map]; have := startsS_len l; omega
  have hLn : (startsS l).1.length = L.length := by rw [← hL, List.length_map]
  obtain ⟨j, hj⟩ : ∃ j, (startsS l).2 = j := ⟨_, rfl⟩
  have K1 : Hid (Calls Tryd.prog 26 #[.slice a2 n2 c2] w fun e w1 => ∃ a n c, e = .returned (.tuple #[.slice a n c, .int .i64 j]) ∧ RowAt w1 (.slice a n c) (L.map (Value.int .i64)) ∧ Below w.heap.size w w1) := Lib.hid (by
    refine (starts_any _ l w h2.row (by omega) T.marks T.hm).mono ?_
    rintro e w1 ⟨v, h1, h2, h3⟩
    rw [hj] at h1
    rw [hLr, hLn] at h2
    have h4 := RowAt.own h2
    obtain ⟨a, c, rfl⟩ := h4.slice
    exact ⟨_, _, _, h1, h4, h3⟩)
  have K2 : Hid (∀ W, Below w.heap.size w W → Calls Tryd.prog 27 #[.slice a2 n2 c2] W fun e w1 => ∃ a n c, e = .returned (.tuple #[.slice a n c, .int .i64 j]) ∧ RowAt w1 (.slice a n c) (L.map (Value.int .i64)) ∧ Below W.heap.size W w1) := Lib.hid fun W hb => by
    refine (rstarts_any _ l W (H2.out W hb) (by omega)).mono ?_
    rintro e w1 ⟨v, h1, h2, h3⟩
    rw [hj] at h1
    rw [hLr, hLn] at h2
    have h4 := RowAt.own h2
    obtain ⟨a, c, rfl⟩ := h4.slice
    exact ⟨_, _, _, h1, h4, h3⟩
  obtain ⟨x, f, hx⟩ : ∃ (x : Bool) (f : Int), onV l i = .tuple #[.bool x, .int .i64 f] := ⟨_, _, rfl⟩
  have K3 : Hid (∀ W, Below w.heap.size w W → Calls Tryd.prog 28 #[.slice a2 n2 c2, .int .i64 i] W fun e' w' => e' = .returned (.tuple #[.bool x, .int .i64 f]) ∧ Below W.heap.size W w') := Lib.hid fun W hb => by
    rw [← hx]; exact on_any _ l i W (H2.out W hb).row (by omega) (T.below hb).marks (T.below hb).hm
  have K4 : Hid (∀ W, Below w.heap.size w W → Calls Tryd.prog 29 #[.slice a2 n2 c2, .int .i64 i] W fun e' w' => e' = .returned (.tuple #[.bool x, .int .i64 f]) ∧ Below W.heap.size W w') := Lib.hid fun W hb => by
    rw [← hx]; exact ron_any _ l i W (H2.out W hb) (by omega)
  obtain ⟨y, g, hy⟩ : ∃ (y g : Int), backV l i = .tuple #[.int .i64 y, .int .i64 g] := ⟨_, _, rfl⟩
  have K5 : Hid (∀ W, Below w.heap.size w W → Calls Tryd.prog 30 #[.slice a2 n2 c2, .int .i64 i] W fun e' w' => e' = .returned (.tuple #[.int .i64 y, .int .i64 g]) ∧ Below W.heap.size W w') := Lib.hid fun W hb => by
    rw [← hy]; exact back_any _ l i W (H2.out W hb).row (by omega) (T.below hb).marks (T.below hb).hm
  have K6 : Hid (∀ W, Below w.heap.size w W → Calls Tryd.prog 31 #[.slice a2 n2 c2, .int .i64 i] W fun e' w' => e' = .returned (.tuple #[.int .i64 y, .int .i64 g]) ∧ Below W.heap.size W w') := Lib.hid fun W hb => by
    rw [← hy]; exact rback_any _ l i W (H2.out W hb) (by omega)
  have K9 : Hid (∀ W v v', RowAt W v (L.map (Value.int .i64)) → RowAt W v' (L.map (Value.int .i64)) → Calls Tryd.prog 32 #[v, v'] W fun e w1 => e = .returned (.bool true) ∧ Below W.heap.size W w1) := Lib.hid fun W v v' h1 h2 => by
    have := sameints_any v v' L L W h1 h2 (by omega)
    rw [decide_eq_true rfl] at this
    exact this
  clear T h2 hn2 hx hy hL hLr hLn hj hl2 hLl
  go_enter Tryd.func5, Tryd.ntmps5
  go_upto_region 1 with (fail)
  go_cut [29] (fun s29 wx => wx = w ∧ s29 = .bool false)
  case first =>
    rcases hb2 with h2 | ⟨h2, h2'⟩
    · have d1 : decide ((200 : Int) < (n2 : Int)) = false := decide_eq_false (by omega)
      have d3 : decide ((8100 : Int) < (n2 : Int)) = false := decide_eq_false (by omega)
      go_wp2
      go_meet
      exact ⟨rfl, rfl⟩
    · have d1 : decide ((200 : Int) < (n2 : Int)) = true := decide_eq_true (by omega)
      have d2 : decide ((n2 : Int) ≤ 8000) = false := decide_eq_false (by omega)
      have d3 : decide ((8100 : Int) < (n2 : Int)) = false := decide_eq_false (by omega)
      go_wp2
      go_meet
      exact ⟨rfl, rfl⟩
  case rest =>
    obtain ⟨rfl, rfl⟩ := hcut
    clear hb2
    go_wp2_with fail
    refine K1.out.mono ?_
    rintro e1 w1 ⟨a1, n1, c1, rfl, hr1, hb1⟩
    have HR1 := Lib.hid hr1
    clear hr1
    go_wp2_with fail
    refine (K2.out w1 hb1).mono ?_
    rintro e2 w2 ⟨a6, n6, c6, rfl, hr2, hb2⟩
    have hB2 := hb1.trans (hb2.mono hb1.size)
    have HR1 := Lib.hid (RowAt.below HR1.out hb2 (Nat.le_refl _))
    have HR2 := Lib.hid hr2
    clear hr2
    go_wp2_with fail
    refine (K3.out w2 hB2).mono ?_
    rintro e3 w3 ⟨rfl, hb3⟩
    have hB3 := hB2.trans (hb3.mono hB2.size)
    have HR1 := Lib.hid (RowAt.below HR1.out hb3 (Nat.le_refl _))
    have HR2 := Lib.hid (RowAt.below HR2.out hb3 (Nat.le_refl _))
    go_wp2_with fail
    refine (K4.out w3 hB3).mono ?_
    rintro e4 w4 ⟨rfl, hb4⟩
    have hB4 := hB3.trans (hb4.mono hB3.size)
    have HR1 := Lib.hid (RowAt.below HR1.out hb4 (Nat.le_refl _))
    have HR2 := Lib.hid (RowAt.below HR2.out hb4 (Nat.le_refl _))
    go_wp2_with fail
    refine (K5.out w4 hB4).mono ?_
    rintro e5 w5 ⟨rfl, hb5⟩
    have hB5 := hB4.trans (hb5.mono hB4.size)
    have HR1 := Lib.hid (RowAt.below HR1.out hb5 (Nat.le_refl _))
    have HR2 := Lib.hid (RowAt.below HR2.out hb5 (Nat.le_refl _))
    go_wp2_with fail
    refine (K6.out w5 hB5).mono ?_
    rintro e6 w6 ⟨rfl, hb6⟩
    have hB6 := hB5.trans (hb6.mono hB5.size)
    have HR1 := Lib.hid (RowAt.below HR1.out hb6 (Nat.le_refl _))
    have HR2 := Lib.hid (RowAt.below HR2.out hb6 (Nat.le_refl _))
    go_wp2_with fail
    refine (K9.out w6 _ _ HR1.out HR2.out).mono ?_
    rintro e9 w9 ⟨rfl, hb9⟩
    have hB9 := hB6.trans (hb9.mono hB6.size)
    go_wp2_with fail
    refine (CA.out w9 hB9).mono ?_
    rintro e10 w10 ⟨rfl, hb10⟩
    go_wp2_with fail
    go_ret
    exact ⟨rfl, hB9.trans (hb10.mono hB9.size)⟩

set_option maxRecDepth 100000 in
set_option maxHeartbeats 6400000 in
theorem lawS_big (a2 : Option Addr) (n2 c2 : Nat) (i : Int) (w : World) (T : Tabs w) (hb : ¬ (n2 ≤ 200 ∨ (8000 < n2 ∧ n2 ≤ 8100))) :
    Calls Tryd.prog 5 #[.slice a2 n2 c2, .int .i64 i] w fun e w' => e = .returned (.bool true) ∧ Below w.heap.size w w' := by
  have CA : Hid (Calls Tryd.prog 10 #[] w fun e w' => e = .returned (.bool true) ∧ Below w.heap.size w w') := Lib.hid (awake_any w T)
  clear T
  go_enter Tryd.func5, Tryd.ntmps5
  go_upto_region 1 with (fail)
  go_cut [29] (fun s29 wx => wx = w ∧ s29 = .bool true)
  case first =>
    by_cases h1 : 200 < n2 ∧ n2 ≤ 8000
    · obtain ⟨h1, h1'⟩ := h1
      have d1 : decide ((200 : Int) < (n2 : Int)) = true := decide_eq_true (by omega)
      have d2 : decide ((n2 : Int) ≤ 8000) = true := decide_eq_true (by omega)
      clear hb
      go_wp2
      go_meet
      exact ⟨rfl, rfl⟩
    · have h2 : 8100 < n2 := by omega
      have d1 : decide ((200 : Int) < (n2 : Int)) = true := decide_eq_true (by omega)
      have d2 : decide ((n2 : Int) ≤ 8000) = false := decide_eq_false (by omega)
      have d3 : decide ((8100 : Int) < (n2 : Int)) = true := decide_eq_true (by omega)
      clear hb h1
      go_wp2
      go_meet
      exact ⟨rfl, rfl⟩
  case rest =>
    obtain ⟨rfl, rfl⟩ := hcut
    clear hb
    go_wp2_with (go_at_call 10; refine CA.out.mono ?_; rintro e w1 ⟨rfl, hb1⟩)
    go_ret
    exact ⟨rfl, hb1⟩
theorem lawS_any (v2 : Value) (l : List UInt8) (i : Int) (w : World) (T : Tabs w) (h2 : ArgAt w v2 (l.map bc)) :
    Calls Tryd.prog 5 #[v2, .int .i64 i] w fun e w' => e = .returned (.bool true) ∧ Below w.heap.size w w' := by
  have h2' := h2
  obtain ⟨a2, n2, c2, rfl, hn2, _, _⟩ := h2'
  rw [List.length_map] at hn2
  by_cases hb : n2 ≤ 200 ∨ (8000 < n2 ∧ n2 ≤ 8100)
  · exact lawS_small a2 n2 c2 i l w T h2 hn2 hb
  · exact lawS_big a2 n2 c2 i w T hb
end Go.Proofs.YtkpapggojiejdaaDoor
