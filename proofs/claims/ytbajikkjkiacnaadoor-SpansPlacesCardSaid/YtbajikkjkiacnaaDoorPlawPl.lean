/- The law SpansPlaces, walked. -/
import Derived.Test.YtbajikkjkiacnaaDoorPrpl2
import Derived.Test.YtbajikkjkiacnaaDoorPknown
import Derived.Test.YtbajikkjkiacnaaDoorPrlines
namespace Go.Proofs.YtbajikkjkiacnaaDoor
open Go.RowKit Go.PlainAid

set_option maxRecDepth 100000 in
set_option maxHeartbeats 25600000 in
theorem lawPl_in (a : Option Addr) (n c : Nat) (l : List UInt8) (p q j : Int) (w : World) (T : PTabs w) (h : ArgAt w (.slice a n c) (l.map bc)) (hn : n = l.length) (hcap : n ≤ c) (hb : n ≤ 100 ∨ (8000 < n ∧ n ≤ 8100)) :
    Calls Tryd.prog 5 #[.slice a n c, .agg #[.int .i64 p, .int .i64 q], .int .i64 j] w fun e w' => e = .returned (.bool true) ∧ Below w.heap.size w w' := by
  have hl : l.length ≤ 1000000 := by omega
  have hB0 : BytesAt w (.slice a n c) l := h.row
  have HB : Hid (∀ W, Below w.heap.size w W → BytesAt W (.slice a n c) l ∧ PTabs W ∧ ArgAt W (.slice a n c) (l.map bc)) := Lib.hid fun W hb => ⟨RowAt.below hB0 hb (Nat.le_refl _), T.below hb, h.below hb (Nat.le_refl _)⟩
  have CA : Hid (∀ W, Below w.heap.size w W → Calls Tryd.prog 12 #[] W fun e w' => e = .returned (.bool true) ∧ Below W.heap.size W w') := Lib.hid fun W hb => awake_any W (T.below hb)
  obtain ⟨W0, hW0⟩ : ∃ W0, W0 = w.alloc (.cells #[.int .i64 p, .int .i64 q] 25) := ⟨_, rfl⟩
  have HT := Lib.hid fun (W : World) (h : Below W0.heap.size W0 W) => one_cells w W p q 25 (by subst hW0; exact h)
  obtain ⟨LS, hLS⟩ : ∃ LS, (linesS l).1 = LS := ⟨_, rfl⟩
  obtain ⟨e0, he0⟩ : ∃ e0, (linesS l).2 = e0 := ⟨_, rfl⟩
  obtain ⟨m, hm⟩ : ∃ m, LS.length = m := ⟨_, rfl⟩
  have hm2 : LS.length ≤ 1000000 := by
    rw [← hLS]; unfold linesS; split
    · show (linesF 0 0 l).length ≤ _
      have := linesF_len l 0 0; omega
    · simp
  have KL : Hid (∀ W e w1, LnV l W e w1 → ∃ x cx, e = .returned (.tuple #[.slice x m cx, .int .i64 e0]) ∧ SpsAt w1 (.slice x m cx) LS ∧ Below W.heap.size W w1) := Lib.hid fun W e w1 ⟨v, h1, h2, h3⟩ => by
    rw [he0] at h1
    rw [hLS] at h2
    have h4 := SpsAt.own h2
    obtain ⟨x, cx, rfl⟩ := h4.slice
    rw [hm] at h1 h4
    exact ⟨x, cx, h1, h4, h3⟩
  have C1 : Hid (∀ W, Below w.heap.size w W → Calls Tryd.prog 28 #[.slice a n c] W (LnV l W)) := Lib.hid fun W hb => Lines_any _ l W (HB.out W hb).1 hl (HB.out W hb).2.1.marks (HB.out W hb).2.1.hm
  have C2 : Hid (∀ W, Below w.heap.size w W → Calls Tryd.prog 29 #[.slice a n c] W (LnV l W)) := Lib.hid fun W hb => rLines_any _ l W (HB.out W hb).2.2 hl
  obtain ⟨cs, ce, hcut⟩ : ∃ cs ce, cutV (cutP l (p, q)) = .tuple #[.string cs, .int .i64 ce] := ⟨_, _, rfl⟩
  have C3 : Hid (∀ W, Below w.heap.size w W → Calls Tryd.prog 30 #[.slice a n c, .agg #[.int .i64 p, .int .i64 q]] W fun e w' => e = .returned (.tuple #[.string cs, .int .i64 ce]) ∧ Below W.heap.size W w') := Lib.hid fun W hb => by
    have := Cut_any a n c l p q W (HB.out W hb).1 hn hcap hl (HB.out W hb).2.1.marks (HB.out W hb).2.1.hm; rw [hcut] at this; exact this
  have C4 : Hid (∀ W, Below w.heap.size w W → Calls Tryd.prog 31 #[.slice a n c, .agg #[.int .i64 p, .int .i64 q]] W fun e w' => e = .returned (.tuple #[.string cs, .int .i64 ce]) ∧ Below W.heap.size W w') := Lib.hid fun W hb => by
    have := rCut_any a n c l p q W (HB.out W hb).2.2 hn hcap hl; rw [hcut] at this; exact this
  have C5 : Hid (∀ W x cx x' cx', SpsAt W (.slice x m cx) LS → SpsAt W (.slice x' m cx') LS → Calls Tryd.prog 32 #[.slice x m cx, .slice x' m cx'] W fun e w' => e = .returned (.bool true) ∧ Below W.heap.size W w') := Lib.hid fun W x cx x' cx' h1 h2 => same3_any _ _ LS W h1 h2 hm2
  obtain ⟨px, py, pe, hpl⟩ : ∃ px py pe, plcV (placeP l p) = .tuple #[.int .i64 px, .int .i64 py, .int .i64 pe] := ⟨_, _, _, rfl⟩
  have C6 : Hid (∀ W, Below w.heap.size w W → Calls Tryd.prog 33 #[.slice a n c, .int .i64 p] W fun e w' => e = .returned (.tuple #[.int .i64 px, .int .i64 py, .int .i64 pe]) ∧ Below W.heap.size W w') := Lib.hid fun W hb => by
    have := Place_any a n c l p W (HB.out W hb).1 hn hcap hl (HB.out W hb).2.1.marks (HB.out W hb).2.1.hm; rw [hpl] at this; exact this
  have C7 : Hid (∀ W, Below w.heap.size w W → Calls Tryd.prog 34 #[.slice a n c, .int .i64 p] W fun e w' => e = .returned (.tuple #[.int .i64 px, .int .i64 py, .int .i64 pe]) ∧ Below W.heap.size W w') := Lib.hid fun W hb => by
    have := rPlace_any a n c l p W (HB.out W hb).2.2 hn hl; rw [hpl] at this; exact this
  obtain ⟨ax, ae, hat⟩ : ∃ ax ae, pairV (atP l q j) = .tuple #[.int .i64 ax, .int .i64 ae] := ⟨_, _, rfl⟩
  have C8 : Hid (∀ W, Below w.heap.size w W → Calls Tryd.prog 35 #[.slice a n c, .int .i64 q, .int .i64 j] W fun e w' => e = .returned (.tuple #[.int .i64 ax, .int .i64 ae]) ∧ Below W.heap.size W w') := Lib.hid fun W hb => by
    have := At_any a n c l q j W (HB.out W hb).1 hn hcap hl (HB.out W hb).2.1.marks (HB.out W hb).2.1.hm; rw [hat] at this; exact this
  have C9 : Hid (∀ W, Below w.heap.size w W → Calls Tryd.prog 36 #[.slice a n c, .int .i64 q, .int .i64 j] W fun e w' => e = .returned (.tuple #[.int .i64 ax, .int .i64 ae]) ∧ Below W.heap.size W w') := Lib.hid fun W hb => by
    have := rAt_any a n c l q j W (HB.out W hb).2.2 hn hl; rw [hat] at this; exact this
  have hb0 := Below.refl W0.heap.size W0
  obtain ⟨c0, c1, hB⟩ := HT.out _ hb0
  have hd3 : decide ((8100 : Int) < (n : Int)) = false := decide_eq_false (by omega)
  have hdd : (decide ((100 : Int) < (n : Int)) = false) ∨ (decide ((100 : Int) < (n : Int)) = true ∧ decide ((n : Int) ≤ (8000 : Int)) = false) := by
    rcases hb with hb | hb
    · exact .inl (decide_eq_false (by omega))
    · exact .inr ⟨decide_eq_true (by omega), decide_eq_false (by omega)⟩
  clear T h hB0 hn hl hcap hb hLS he0 hm hm2 hcut hpl hat
  rcases hdd with hd2 | ⟨hd2, hd4⟩ <;> (
    go_enter Tryd.func5, Tryd.ntmps5
    go_wp2_with fail
    rw [← hW0]
    refine (C1.out _ hB).mono ?_
    intro e w1 hln
    obtain ⟨xa, xc, rfl, hsp1, hb1⟩ := KL.out _ _ _ hln
    have HS1 := Lib.hid hsp1
    clear hln hsp1
    have hb := hb0.trans (hb1.mono hb0.size)
    obtain ⟨c0, c1, hB⟩ := HT.out _ hb
    go_wp2_with fail
    refine (C2.out _ hB).mono ?_
    intro e w2 hln
    obtain ⟨ya, yc, rfl, hsp2, hb2⟩ := KL.out _ _ _ hln
    have HS2 := Lib.hid hsp2
    clear hln hsp2
    have hb := hb.trans (hb2.mono hb.size)
    obtain ⟨c0, c1, hB⟩ := HT.out _ hb
    go_wp2_with fail
    refine (C3.out _ hB).mono ?_
    rintro e w3 ⟨rfl, hb3⟩
    have hb := hb.trans (hb3.mono hb.size)
    obtain ⟨c0, c1, hB⟩ := HT.out _ hb
    go_wp2_with fail
    refine (C4.out _ hB).mono ?_
    rintro e w4 ⟨rfl, hb4⟩
    have hb := hb.trans (hb4.mono hb.size)
    have h24 := hb3.trans (hb4.mono hb3.size)
    have h14 := hb2.trans (h24.mono hb2.size)
    obtain ⟨c0, c1, hB⟩ := HT.out _ hb
    go_wp2_with fail
    refine (C5.out _ _ _ _ _ (HS1.out.below h14 (Nat.le_refl _)) (HS2.out.below h24 (Nat.le_refl _))).mono ?_
    rintro e w5 ⟨rfl, hb5⟩
    have hb := hb.trans (hb5.mono hb.size)
    obtain ⟨c0, c1, hB⟩ := HT.out _ hb
    go_wp2_with fail
    refine (C6.out _ hB).mono ?_
    rintro e w6 ⟨rfl, hb6⟩
    have hb := hb.trans (hb6.mono hb.size)
    obtain ⟨c0, c1, hB⟩ := HT.out _ hb
    go_wp2_with fail
    refine (C7.out _ hB).mono ?_
    rintro e w7 ⟨rfl, hb7⟩
    have hb := hb.trans (hb7.mono hb.size)
    obtain ⟨c0, c1, hB⟩ := HT.out _ hb
    go_wp2_with fail
    refine (C8.out _ hB).mono ?_
    rintro e w8 ⟨rfl, hb8⟩
    have hb := hb.trans (hb8.mono hb.size)
    obtain ⟨c0, c1, hB⟩ := HT.out _ hb
    go_wp2_with fail
    refine (C9.out _ hB).mono ?_
    rintro e w9 ⟨rfl, hb9⟩
    have hb := hb.trans (hb9.mono hb.size)
    obtain ⟨c0, c1, hB⟩ := HT.out _ hb
    go_wp2_with (go_at_call 12; refine (CA.out _ hB).mono ?_; rintro e wz ⟨rfl, hbz⟩)
    go_ret
    exact ⟨rfl, hB.trans (hbz.mono hB.size)⟩)

set_option maxRecDepth 100000 in
theorem lawPl_any (v : Value) (l : List UInt8) (s : Sp) (j : Int) (w : World) (T : PTabs w) (h : ArgAt w v (l.map bc)) :
    Calls Tryd.prog 5 #[v, .agg #[.int .i64 s.1, .int .i64 s.2], .int .i64 j] w fun e w' => e = .returned (.bool true) ∧ Below w.heap.size w w' := by
  obtain ⟨p, q⟩ := s
  have h' := h
  obtain ⟨a, n, c, rfl, hn, hc, hs⟩ := h'
  rw [List.length_map] at hn
  by_cases hb : n ≤ 100 ∨ (8000 < n ∧ n ≤ 8100)
  · exact lawPl_in a n c l p q j w T h hn hc hb
  · obtain ⟨W0, hW0⟩ : ∃ W0, W0 = w.alloc (.cells #[.int .i64 p, .int .i64 q] 25) := ⟨_, rfl⟩
    have hw0 : Below w.heap.size w W0 := by subst hW0; exact below_a1 _ _
    have CA := Lib.hid (awake_any W0 (T.below hw0))
    have hd1 : decide ((100 : Int) < (n : Int)) = true := decide_eq_true (by omega)
    have hdd : (decide ((n : Int) ≤ (8000 : Int)) = true) ∨ (decide ((n : Int) ≤ (8000 : Int)) = false ∧ decide ((8100 : Int) < (n : Int)) = true) := by
      by_cases h1 : n ≤ 8000
      · exact .inl (decide_eq_true (by omega))
      · exact .inr ⟨decide_eq_false (by omega), decide_eq_true (by omega)⟩
    clear T h hs hn hb
    rcases hdd with hd2 | ⟨hd2, hd3⟩ <;> (
      go_enter Tryd.func5, Tryd.ntmps5
      go_wp2_with (go_at_call 12; rw [← hW0]; refine CA.out.mono ?_; rintro e w1 ⟨rfl, hb1⟩)
      go_ret
      exact ⟨rfl, hw0.trans (hb1.mono hw0.size)⟩)
end Go.Proofs.YtbajikkjkiacnaaDoor
