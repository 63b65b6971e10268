/- The law RunesTexts, walked. -/
import Derived.Test.YtkpapggojiejdaaDoorRref6
import Derived.Test.YtkpapggojiejdaaDoorRawake
namespace Go.Proofs.YtkpapggojiejdaaDoor
open Go.RowKit Go.PlainAid

set_option maxRecDepth 100000 in
set_option maxHeartbeats 12800000 in
theorem lawT_small (a2 a3 : Option Addr) (n2 n3 c2 c3 : Nat) (l : List UInt8) (m : List Int) (w : World) (T : Tabs w) (h2 : ArgAt w (.slice a2 n2 c2) (l.map bc)) (hn2 : n2 = l.length) (h3 : RunesAt w (.slice a3 n3 c3) m) (hn3 : n3 = m.length)
    (hb2 : n2 ≤ 200 ∨ (8000 < n2 ∧ n2 ≤ 8100)) (hb3 : n3 ≤ 100 ∨ (2000 < n3 ∧ n3 ≤ 8100)) :
    Calls Tryd.prog 4 #[.slice a2 n2 c2, .slice a3 n3 c3] w fun e w' => e = .returned (.bool true) ∧ Below w.heap.size w w' := by
  have HT : Hid (∀ W, Below w.heap.size w W → Tabs W) := Lib.hid fun W hb => T.below hb
  have H2 : Hid (∀ W, Below w.heap.size w W → ArgAt W (.slice a2 n2 c2) (l.map bc)) := Lib.hid fun W hb => h2.below hb (Nat.le_refl _)
  have H3 : Hid (∀ W, Below w.heap.size w W → RunesAt W (.slice a3 n3 c3) m) := Lib.hid fun W hb => RowAt.below h3 hb (Nat.le_refl _)
  have CA : Hid (∀ W, Below w.heap.size w W → Calls Tryd.prog 10 #[] W fun e w' => e = .returned (.bool true) ∧ Below W.heap.size W w') := Lib.hid fun W hb => awake_any W (T.below hb)
  have hl2 : l.length ≤ 8100 := by omega
  have hl3 : m.length ≤ 8100 := by omega
  obtain ⟨x, f, hx⟩ : ∃ (x f : Int), chkV l = .tuple #[.int .i64 x, .int .i64 f] := ⟨_, _, rfl⟩
  have K1 : Hid (Calls Tryd.prog 17 #[.slice a2 n2 c2] w fun e' w' => e' = .returned (.tuple #[.int .i64 x, .int .i64 f]) ∧ Below w.heap.size w w') := Lib.hid (by
    rw [← hx]; exact check_any _ l w h2.row (by omega) T.marks T.hm)
  have K2 : Hid (∀ W, Below w.heap.size w W → Calls Tryd.prog 18 #[.slice a2 n2 c2] W fun e' w' => e' = .returned (.tuple #[.int .i64 x, .int .i64 f]) ∧ Below W.heap.size W w') := Lib.hid fun W hb => by
    rw [← hx]; exact rcheck_any _ l W (H2.out W hb) (by omega)
  obtain ⟨y, g, hy⟩ : ∃ (y g : Int), cntV l = .tuple #[.int .i64 y, .int .i64 g] := ⟨_, _, rfl⟩
  have K3 : Hid (∀ W, Below w.heap.size w W → Calls Tryd.prog 19 #[.slice a2 n2 c2] W fun e' w' => e' = .returned (.tuple #[.int .i64 y, .int .i64 g]) ∧ Below W.heap.size W w') := Lib.hid fun W hb => by
    rw [← hy]; exact count_any _ l W (H2.out W hb).row (by omega) (T.below hb).marks (T.below hb).hm
  have K4 : Hid (∀ W, Below w.heap.size w W → Calls Tryd.prog 20 #[.slice a2 n2 c2] W fun e' w' => e' = .returned (.tuple #[.int .i64 y, .int .i64 g]) ∧ Below W.heap.size W w') := Lib.hid fun W hb => by
    rw [← hy]; exact rcount_any _ l W (H2.out W hb) (by omega)
  obtain ⟨L, hL⟩ : ∃ L, (runesS l).1 = L := ⟨_, rfl⟩
  obtain ⟨j, hj⟩ : ∃ j, (runesS l).2 = j := ⟨_, rfl⟩
  have hLl : L.length ≤ 8100 := by
    rw [← hL]; unfold runesS; split
    · have := runs_len_le l; simp only; omega
    · simp
  have K5 : Hid (∀ W, Below w.heap.size w W → Calls Tryd.prog 21 #[.slice a2 n2 c2] W fun e w1 => ∃ a n c, e = .returned (.tuple #[.slice a n c, .int .i64 j]) ∧ RunesAt w1 (.slice a n c) L ∧ Below W.heap.size W w1) := Lib.hid fun W hb => by
    refine (runes_any _ l W (H2.out W hb).row (by omega) (T.below hb).marks (T.below hb).hm).mono ?_
    rintro e w1 ⟨v, h1, h2, h3⟩
    rw [hj] at h1
    rw [hL] at h2
    have h4 := RowAt.own h2
    obtain ⟨a, c, rfl⟩ := h4.slice
    exact ⟨_, _, _, h1, h4, h3⟩
  have K6 : Hid (∀ W, Below w.heap.size w W → Calls Tryd.prog 22 #[.slice a2 n2 c2] W fun e w1 => ∃ a n c, e = .returned (.tuple #[.slice a n c, .int .i64 j]) ∧ RunesAt w1 (.slice a n c) L ∧ Below W.heap.size W w1) := Lib.hid fun W hb => by
    refine (rrunes_any _ l W (H2.out W hb) (by omega)).mono ?_
    rintro e w1 ⟨v, h1, h2, h3⟩
    rw [hj] at h1
    rw [hL] at h2
    have h4 := RowAt.own h2
    obtain ⟨a, c, rfl⟩ := h4.slice
    exact ⟨_, _, _, h1, h4, h3⟩
  obtain ⟨M, hM⟩ : ∃ M, (bytesS m).1 = M := ⟨_, rfl⟩
  obtain ⟨q, hq⟩ : ∃ q, (bytesS m).2.1 = q := ⟨_, rfl⟩
  obtain ⟨k, hk⟩ : ∃ k, (bytesS m).2.2 = k := ⟨_, rfl⟩
  obtain ⟨p, hp⟩ : ∃ p, M.length = p := ⟨_, rfl⟩
  have K7 : Hid (∀ W, Below w.heap.size w W → Calls Tryd.prog 23 #[.slice a3 n3 c3] W fun e w1 => ∃ a c, e = .returned (.tuple #[.slice a p c, .int .i64 (q : Int), .int .i64 k]) ∧ SrcAt w1 (.slice a p c) p (M.map bc) ∧ Below W.heap.size W w1) := Lib.hid fun W hb => by
    refine (bytes_any _ m W (H3.out W hb) (by omega) (T.below hb).marks (T.below hb).hm).mono ?_
    rintro e w1 ⟨v, h1, h2, h3⟩
    rw [hq, hk] at h1
    rw [hM, hp] at h2
    obtain ⟨a, c, rfl⟩ := (RowAt.own h2).slice
    rw [List.length_map, hp] at h1 h2
    exact ⟨_, _, h1, SrcAt.own h2, h3⟩
  have K8 : Hid (∀ W, Below w.heap.size w W → Calls Tryd.prog 24 #[.slice a3 n3 c3] W fun e w1 => ∃ a c, e = .returned (.tuple #[.slice a p c, .int .i64 (q : Int), .int .i64 k]) ∧ SrcAt w1 (.slice a p c) p (M.map bc) ∧ Below W.heap.size W w1) := Lib.hid fun W hb => by
    refine (rbytes_any _ m W (H3.out W hb) (by omega)).mono ?_
    rintro e w1 ⟨v, h1, h2, h3⟩
    rw [hq, hk] at h1
    rw [hM, hp] at h2
    obtain ⟨a, c, rfl⟩ := (RowAt.own h2).slice
    rw [List.length_map, hp] at h1 h2
    exact ⟨_, _, h1, SrcAt.own h2, h3⟩
  have K9 : Hid (∀ W v v', RunesAt W v L → RunesAt W v' L → Calls Tryd.prog 25 #[v, v'] W fun e w1 => e = .returned (.bool true) ∧ Below W.heap.size W w1) := Lib.hid fun W v v' h1 h2 => by
    have := same_any v v' L L W h1 h2 (by omega)
    rw [decide_eq_true rfl] at this
    exact this
  have HP : Hid (p = M.length) := Lib.hid hp.symm
  clear T h2 h3 hn2 hn3 hx hy hL hj hM hq hk hp hl2 hl3 hLl
  go_enter Tryd.func4, Tryd.ntmps4
  go_upto_region 1 with (fail)
  go_cut [46] (fun s46 wx => wx = w ∧ s46 = .bool false)
  case first =>
    rcases hb2 with h2 | ⟨h2, h2'⟩ <;> rcases hb3 with h3 | ⟨h3, h3'⟩
    · have d1 : decide ((200 : Int) < (n2 : Int)) = false := decide_eq_false (by omega)
      have d3 : decide ((8100 : Int) < (n2 : Int)) = false := decide_eq_false (by omega)
      have d4 : decide ((100 : Int) < (n3 : Int)) = false := decide_eq_false (by omega)
      have d6 : decide ((8100 : Int) < (n3 : Int)) = false := decide_eq_false (by omega)
      go_wp2
      go_meet
      exact ⟨rfl, rfl⟩
    · have d1 : decide ((200 : Int) < (n2 : Int)) = false := decide_eq_false (by omega)
      have d3 : decide ((8100 : Int) < (n2 : Int)) = false := decide_eq_false (by omega)
      have d4 : decide ((100 : Int) < (n3 : Int)) = true := decide_eq_true (by omega)
      have d5 : decide ((n3 : Int) ≤ 2000) = false := decide_eq_false (by omega)
      have d6 : decide ((8100 : Int) < (n3 : Int)) = false := decide_eq_false (by omega)
      go_wp2
      go_meet
      exact ⟨rfl, rfl⟩
    · have d1 : decide ((200 : Int) < (n2 : Int)) = true := decide_eq_true (by omega)
      have d2 : decide ((n2 : Int) ≤ 8000) = false := decide_eq_false (by omega)
      have d3 : decide ((8100 : Int) < (n2 : Int)) = false := decide_eq_false (by omega)
      have d4 : decide ((100 : Int) < (n3 : Int)) = false := decide_eq_false (by omega)
      have d6 : decide ((8100 : Int) < (n3 : Int)) = false := decide_eq_false (by omega)
      go_wp2
      go_meet
      exact ⟨rfl, rfl⟩
    · have d1 : decide ((200 : Int) < (n2 : Int)) = true := decide_eq_true (by omega)
      have d2 : decide ((n2 : Int) ≤ 8000) = false := decide_eq_false (by omega)
      have d3 : decide ((8100 : Int) < (n2 : Int)) = false := decide_eq_false (by omega)
      have d4 : decide ((100 : Int) < (n3 : Int)) = true := decide_eq_true (by omega)
      have d5 : decide ((n3 : Int) ≤ 2000) = false := decide_eq_false (by omega)
      have d6 : decide ((8100 : Int) < (n3 : Int)) = false := decide_eq_false (by omega)
      go_wp2
      go_meet
      exact ⟨rfl, rfl⟩
  case rest =>
    obtain ⟨rfl, rfl⟩ := hcut
    clear hb2 hb3
    go_wp2_with fail
    refine K1.out.mono ?_
    rintro e1 w1 ⟨rfl, hb1⟩
    go_wp2_with fail
    refine (K2.out w1 hb1).mono ?_
    rintro e2 w2 ⟨rfl, hb2⟩
    have hB2 := hb1.trans (hb2.mono hb1.size)
    go_wp2_with fail
    refine (K3.out w2 hB2).mono ?_
    rintro e3 w3 ⟨rfl, hb3⟩
    have hB3 := hB2.trans (hb3.mono hB2.size)
    go_wp2_with fail
    refine (K4.out w3 hB3).mono ?_
    rintro e4 w4 ⟨rfl, hb4⟩
    have hB4 := hB3.trans (hb4.mono hB3.size)
    go_wp2_with fail
    refine (K5.out w4 hB4).mono ?_
    rintro e5 w5 ⟨a5, n5, c5, rfl, hr5, hb5⟩
    have hB5 := hB4.trans (hb5.mono hB4.size)
    have HR5 := Lib.hid hr5
    clear hr5
    go_wp2_with fail
    refine (K6.out w5 hB5).mono ?_
    rintro e6 w6 ⟨a6, n6, c6, rfl, hr6, hb6⟩
    have hB6 := hB5.trans (hb6.mono hB5.size)
    have HR5 := Lib.hid (RowAt.below HR5.out hb6 (Nat.le_refl _))
    have HR6 := Lib.hid hr6
    clear hr6
    go_wp2_with fail
    refine (K7.out w6 hB6).mono ?_
    rintro e7 w7 ⟨a7, c7, rfl, hs7, hb7⟩
    have hB7 := hB6.trans (hb7.mono hB6.size)
    have HR5 := Lib.hid (RowAt.below HR5.out hb7 (Nat.le_refl _))
    have HR6 := Lib.hid (RowAt.below HR6.out hb7 (Nat.le_refl _))
    have HS7 := Lib.hid hs7
    clear hs7
    go_wp2_with fail
    refine (K8.out w7 hB7).mono ?_
    rintro e8 w8 ⟨a8, c8, rfl, hs8, hb8⟩
    have hB8 := hB7.trans (hb8.mono hB7.size)
    have HR5 := Lib.hid (RowAt.below HR5.out hb8 (Nat.le_refl _))
    have HR6 := Lib.hid (RowAt.below HR6.out hb8 (Nat.le_refl _))
    have HS7 := Lib.hid (HS7.out.below hb8 (Nat.le_refl _))
    have HS8 := Lib.hid hs8
    clear hs8
    go_wp2_with fail
    refine (K9.out w8 _ _ HR5.out HR6.out).mono ?_
    rintro e9 w9 ⟨rfl, hb9⟩
    have hB9 := hB8.trans (hb9.mono hB8.size)
    have hv1 := conv_src (HS7.out.below hb9 (Nat.le_refl _)) HP.out
    have hv2 := conv_src (HS8.out.below hb9 (Nat.le_refl _)) HP.out
    go_wp2_with fail
    refine (CA.out w9 hB9).mono ?_
    rintro e10 w10 ⟨rfl, hb10⟩
    go_wp2_with fail
    go_ret
    exact ⟨rfl, hB9.trans (hb10.mono hB9.size)⟩

set_option maxRecDepth 100000 in
set_option maxHeartbeats 6400000 in
theorem lawT_big (a2 a3 : Option Addr) (n2 n3 c2 c3 : Nat) (w : World) (T : Tabs w) (hb : ¬ ((n2 ≤ 200 ∨ (8000 < n2 ∧ n2 ≤ 8100)) ∧ (n3 ≤ 100 ∨ (2000 < n3 ∧ n3 ≤ 8100)))) :
    Calls Tryd.prog 4 #[.slice a2 n2 c2, .slice a3 n3 c3] w fun e w' => e = .returned (.bool true) ∧ Below w.heap.size w w' := by
  have CA : Hid (Calls Tryd.prog 10 #[] w fun e w' => e = .returned (.bool true) ∧ Below w.heap.size w w') := Lib.hid (awake_any w T)
  clear T
  go_enter Tryd.func4, Tryd.ntmps4
  go_upto_region 1 with (fail)
  go_cut [46] (fun s46 wx => wx = w ∧ s46 = .bool true)
  case first =>
    by_cases h1 : 200 < n2 ∧ n2 ≤ 8000
    · obtain ⟨h1, h1'⟩ := h1
      have d1 : decide ((200 : Int) < (n2 : Int)) = true := decide_eq_true (by omega)
      have d2 : decide ((n2 : Int) ≤ 8000) = true := decide_eq_true (by omega)
      clear hb
      go_wp2
      go_meet
      exact ⟨rfl, rfl⟩
    · by_cases h2 : 8100 < n2
      · have d1 : decide ((200 : Int) < (n2 : Int)) = true := decide_eq_true (by omega)
        have d2 : decide ((n2 : Int) ≤ 8000) = false := decide_eq_false (by omega)
        have d3 : decide ((8100 : Int) < (n2 : Int)) = true := decide_eq_true (by omega)
        clear hb h1
        go_wp2
        go_meet
        exact ⟨rfl, rfl⟩
      · have d3 : decide ((8100 : Int) < (n2 : Int)) = false := decide_eq_false (by omega)
        by_cases h3 : 100 < n3 ∧ n3 ≤ 2000
        · obtain ⟨h3, h3'⟩ := h3
          have d4 : decide ((100 : Int) < (n3 : Int)) = true := decide_eq_true (by omega)
          have d5 : decide ((n3 : Int) ≤ 2000) = true := decide_eq_true (by omega)
          by_cases h4 : n2 ≤ 200
          · have d1 : decide ((200 : Int) < (n2 : Int)) = false := decide_eq_false (by omega)
            clear hb h1 h2
            go_wp2
            go_meet
            exact ⟨rfl, rfl⟩
          · have d1 : decide ((200 : Int) < (n2 : Int)) = true := decide_eq_true (by omega)
            have d2 : decide ((n2 : Int) ≤ 8000) = false := decide_eq_false (by omega)
            clear hb h1 h2 h4
            go_wp2
            go_meet
            exact ⟨rfl, rfl⟩
        · have h5 : 8100 < n3 := by omega
          have d4 : decide ((100 : Int) < (n3 : Int)) = true := decide_eq_true (by omega)
          have d5 : decide ((n3 : Int) ≤ 2000) = false := decide_eq_false (by omega)
          have d6 : decide ((8100 : Int) < (n3 : Int)) = true := decide_eq_true (by omega)
          by_cases h4 : n2 ≤ 200
          · have d1 : decide ((200 : Int) < (n2 : Int)) = false := decide_eq_false (by omega)
            clear hb h1 h2 h3
            go_wp2
            go_meet
            exact ⟨rfl, rfl⟩
          · have d1 : decide ((200 : Int) < (n2 : Int)) = true := decide_eq_true (by omega)
            have d2 : decide ((n2 : Int) ≤ 8000) = false := decide_eq_false (by omega)
            clear hb h1 h2 h3 h4
            go_wp2
            go_meet
            exact ⟨rfl, rfl⟩
  case rest =>
    obtain ⟨rfl, rfl⟩ := hcut
    clear hb
    go_wp2_with (go_at_call 10; refine CA.out.mono ?_; rintro e w1 ⟨rfl, hb1⟩)
    go_ret
    exact ⟨rfl, hb1⟩
theorem lawT_any (v2 v3 : Value) (l : List UInt8) (m : List Int) (w : World) (T : Tabs w) (h2 : ArgAt w v2 (l.map bc)) (h3 : RunesAt w v3 m) :
    Calls Tryd.prog 4 #[v2, v3] w fun e w' => e = .returned (.bool true) ∧ Below w.heap.size w w' := by
  obtain ⟨a3, c3, rfl⟩ := RowAt.slice h3
  have h2' := h2
  obtain ⟨a2, n2, c2, rfl, hn2, _, _⟩ := h2'
  rw [List.length_map] at hn2 h3 ⊢
  by_cases hb : (n2 ≤ 200 ∨ (8000 < n2 ∧ n2 ≤ 8100)) ∧ (m.length ≤ 100 ∨ (2000 < m.length ∧ m.length ≤ 8100))
  · exact lawT_small a2 a3 n2 _ c2 c3 l m w T h2 hn2 h3 rfl hb.1 hb.2
  · exact lawT_big a2 a3 n2 _ c2 c3 w T hb
end Go.Proofs.YtkpapggojiejdaaDoor
