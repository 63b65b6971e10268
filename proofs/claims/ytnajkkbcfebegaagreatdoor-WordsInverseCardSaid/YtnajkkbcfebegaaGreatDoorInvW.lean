/- The law WordsInverse, walked, second part. -/
import Derived.Test.YtnajkkbcfebegaaGreatDoorInvL
namespace Go.Proofs.YtnajkkbcfebegaaGreatDoor
open Go.RowKit Go.PlainAid

set_option maxRecDepth 100000 in
set_option maxHeartbeats 3200000 in
theorem inverse_long (s : ByteArray) (vl vx : Value) (N : Int) (w : World) (T : Ties w) (hs : 3000 < s.size) :
    Calls Tryz.prog 4 #[.string s, vl, .agg #[vx, .int .i64 N]] w fun e w' => e = .returned (.bool true) ∧ Below w.heap.size w w' := by
  have hB0 : Below w.heap.size w (w.alloc (.cells #[vx, .int .i64 N] 33)) := (Below.refl _ w).alloc (Nat.le_refl _) _
  have CS := Lib.hid (shown_any (w.alloc (.cells #[vx, .int .i64 N] 33)) (T _ hB0) (T.below hB0))
  have hd : decide ((3000 : Int) < (s.size : Int)) = true := decide_eq_true (by omega)
  clear T hs
  go_enter Tryz.func4, Tryz.ntmps4
  go_wp2_with (go_at_call 6; refine CS.out.mono ?_; rintro e w1 ⟨rfl, hb1⟩)
  go_ret
  exact ⟨rfl, hB0.trans (hb1.mono hB0.size)⟩

set_option maxRecDepth 100000 in
set_option maxHeartbeats 6400000 in
theorem inverse_walk (s : ByteArray) (vl : Value) (l : List Fld) (va : Option Addr) (n vc : Nat) (xs : List Int) (N : Int) (w : World) (F : List Fld) (e0 : Int) (t : List UInt8) (j0 : Int) (q V : ByteArray) (g : Int) (LX : ByteArray) (l0 : Int) (M : List Int) (p0 : Int) (D : ByteArray) (k g2 : Int)
    (G : Hid (Gives s vl l va n vc xs N w F e0 t j0 q V g LX l0 M p0 D k g2)) (hs : ¬ 3000 < s.size) :
    Calls Tryz.prog 4 #[.string s, vl, .agg #[.slice va n vc, .int .i64 N]] w fun e w' => e = .returned (.bool true) ∧ Below w.heap.size w w' := by
  have hB0 : Below w.heap.size w (w.alloc (.cells #[.slice va n vc, .int .i64 N] 33)) := (Below.refl _ w).alloc (Nat.le_refl _) _
  obtain ⟨W0, hW0⟩ : ∃ W0, W0 = w.alloc (.cells #[.slice va n vc, .int .i64 N] 33) := ⟨_, rfl⟩
  have HB : Hid (∀ W, Below W0.heap.size W0 W → Below w.heap.size w W ∧ W.cell? ⟨w.heap.size, 0, none⟩ = some (.slice va n vc) ∧ W.cell? ⟨w.heap.size, 1, none⟩ = some (.int .i64 N)) := Lib.hid fun W hb => by
    have hc := World.alloc_heap_new w (.cells #[.slice va n vc, .int .i64 N] 33)
    rw [← hW0] at hc hB0
    have hc2 := (hb.block w.heap.size (Array.getElem?_eq_some_iff.1 hc).1).trans hc
    exact ⟨hB0.trans (hb.mono hB0.size), by simp [World.cell?, hc2], by simp [World.cell?, hc2]⟩
  have hd : decide ((3000 : Int) < (s.size : Int)) = false := decide_eq_false (by omega)
  have hE := Below.refl W0.heap.size W0
  clear hs
  go_enter Tryz.func4, Tryz.ntmps4
  go_wp2_with fail
  -- MARK1
  rw [← hW0]
  clear hW0 hB0
  obtain ⟨hb, c0, c1⟩ := HB.out _ hE
  refine (G.out.far _ hb).mono ?_
  rintro e w1 ⟨b, rfl, hb70, hb1⟩
  have hE := hE.trans (hb1.mono hE.size)
  clear hb1 hb c0 c1
  obtain ⟨hb, c0, c1⟩ := HB.out _ hE
  have CSh := Lib.hid (G.out.shown _ hb)
  cases b with
  | true =>
    go_wp2_with (go_at_call 6; refine CSh.out.mono ?_; rintro e w9 ⟨rfl, hb9⟩)
    go_ret
    exact ⟨rfl, hb.trans (hb9.mono hb.size)⟩
  | false =>
  have H70 := Lib.hid (hb70 rfl)
  clear hb70
  by_cases hn : 510 < n
  · have hdn : decide ((510 : Int) < (n : Int)) = true := decide_eq_true (by omega)
    clear hn
    go_wp2_with (go_at_call 6; refine CSh.out.mono ?_; rintro e w9 ⟨rfl, hb9⟩)
    go_ret
    exact ⟨rfl, hb.trans (hb9.mono hb.size)⟩
  have hdn : decide ((510 : Int) < (n : Int)) = false := decide_eq_false (by omega)
  clear hn CSh
  go_wp2_with fail
  -- MARK2
  refine (G.out.split _ hb).mono ?_
  rintro e w2 ⟨v2, rfl, hf2, hb2⟩
  have hE := hE.trans (hb2.mono hE.size)
  clear hb2 hb c0 c1
  obtain ⟨hb, c0, c1⟩ := HB.out _ hE
  go_upto_if 45 with (fail)
  -- MARK3
  go_cut [] from 25 to 57 (fun wx => Below W0.heap.size W0 wx)
  case first =>
    by_cases he : e0 = 0
    · subst he
      go_wp2_with (go_at_call 14; refine (G.out.join1 rfl _ _ hb hf2.out).mono ?_; rintro e w3 ⟨rfl, hb3⟩)
      go_meet
      exact hE.trans (hb3.mono hE.size)
    · have hne : (e0 == 0) = false := by rw [beq_eq_false_iff_ne]; exact he
      clear he
      go_wp2
      go_meet
      exact hE
  case rest =>
  have hE := hcut
  clear hf2 hb c0 c1 hcut
  obtain ⟨hb, c0, c1⟩ := HB.out _ hE
  -- MARK4
  go_wp2_with fail
  refine (G.out.join2 H70.out _ hb).mono ?_
  rintro e w4 ⟨rfl, hb4⟩
  have hE := hE.trans (hb4.mono hE.size)
  clear hb4 hb c0 c1
  obtain ⟨hb, c0, c1⟩ := HB.out _ hE
  go_upto_if 64 with (fail)
  go_cut [] from 58 to 77 (fun wx => Below W0.heap.size W0 wx)
  case first =>
    by_cases he : j0 = 0
    · subst he
      go_wp2_with fail
      refine (G.out.split2 rfl _ hb).mono ?_
      rintro e w5 ⟨v5, rfl, hf5, hb5⟩
      have hE := hE.trans (hb5.mono hE.size)
      clear hb5 hb c0 c1
      obtain ⟨hb, c0, c1⟩ := HB.out _ hE
      go_wp2_with (go_at_call 15; refine (G.out.same H70.out _ _ hb hf5.out).mono ?_; rintro e w6 ⟨rfl, hb6⟩)
      go_meet
      exact hE.trans (hb6.mono hE.size)
    · have hne : (j0 == 0) = false := by rw [beq_eq_false_iff_ne]; exact he
      clear he
      go_wp2
      go_meet
      exact hE
  case rest =>
  have hE := hcut
  clear hb c0 c1 hcut H70
  obtain ⟨hb, c0, c1⟩ := HB.out _ hE
  -- MARK5
  go_wp2_with fail
  refine (G.out.quote _ hb).mono ?_
  rintro e w7 ⟨rfl, hb7⟩
  have hE := hE.trans (hb7.mono hE.size)
  clear hb7 hb c0 c1
  obtain ⟨hb, c0, c1⟩ := HB.out _ hE
  go_wp2_with fail
  refine (G.out.unq1 _ hb).mono ?_
  rintro e w8 ⟨rfl, hb8⟩
  have hE := hE.trans (hb8.mono hE.size)
  clear hb8 hb c0 c1
  obtain ⟨hb, c0, c1⟩ := HB.out _ hE
  go_wp2_with fail
  refine (G.out.unq2 _ hb).mono ?_
  rintro e w9 ⟨rfl, hb9⟩
  have hE := hE.trans (hb9.mono hE.size)
  clear hb9 hb c0 c1
  obtain ⟨hb, c0, c1⟩ := HB.out _ hE
  -- MARK6
  go_upto_region 15 with (fail)
  go_cut [105] from 78 to 105 (fun s105 wx => s105 = .bool false ∧ Below W0.heap.size W0 wx)
  case first =>
    by_cases he : g = 0
    · subst he
      go_wp2_with (go_at_call 17; refine (G.out.quote2 rfl _ hb).mono ?_; rintro e w10 ⟨rfl, hb10⟩)
      go_meet
      exact ⟨rfl, hE.trans (hb10.mono hE.size)⟩
    · have hne : (g == 0) = false := by rw [beq_eq_false_iff_ne]; exact he
      clear he
      go_wp2
      go_meet
      exact ⟨rfl, hE⟩
  case rest =>
  obtain ⟨rfl, hE⟩ := hcut
  clear hb c0 c1
  obtain ⟨hb, c0, c1⟩ := HB.out _ hE
  -- MARK7
  go_wp2_with fail
  refine (G.out.list _ hb).mono ?_
  rintro e w11 ⟨rfl, hb11⟩
  have hE := hE.trans (hb11.mono hE.size)
  clear hb11 hb c0 c1
  obtain ⟨hb, c0, c1⟩ := HB.out _ hE
  go_upto_if 113 with (fail)
  go_cut [] from 106 to 127 (fun wx => Below W0.heap.size W0 wx)
  case first =>
    by_cases he : l0 = 0
    · subst he
      go_wp2_with fail
      refine (G.out.parse1 rfl _ hb).mono ?_
      rintro e w12 ⟨v12, rfl, hf12, hb12⟩
      have hE := hE.trans (hb12.mono hE.size)
      clear hb12 hb c0 c1
      obtain ⟨hb, c0, c1⟩ := HB.out _ hE
      go_wp2_with (go_at_call 11; refine (G.out.lists _ _ hb hf12.out).mono ?_; rintro e w13 ⟨rfl, hb13⟩)
      go_meet
      exact hE.trans (hb13.mono hE.size)
    · have hne : (l0 == 0) = false := by rw [beq_eq_false_iff_ne]; exact he
      clear he
      go_wp2
      go_meet
      exact hE
  case rest =>
  have hE := hcut
  clear hb c0 c1 hcut
  obtain ⟨hb, c0, c1⟩ := HB.out _ hE
  -- MARK8
  go_wp2_with fail
  refine (G.out.parse2 _ hb).mono ?_
  rintro e w14 ⟨v14, rfl, hf14, hb14⟩
  have hE := hE.trans (hb14.mono hE.size)
  clear hb14 hb c0 c1
  obtain ⟨hb, c0, c1⟩ := HB.out _ hE
  go_upto_if 134 with (fail)
  go_cut [] from 128 to 146 (fun wx => Below W0.heap.size W0 wx)
  case first =>
    by_cases he : p0 = 0
    · subst he
      go_wp2_with (go_at_call 7; refine (G.out.list2 rfl _ _ hb hf14.out).mono ?_; rintro e w15 ⟨rfl, hb15⟩)
      go_meet
      exact hE.trans (hb15.mono hE.size)
    · have hne : (p0 == 0) = false := by rw [beq_eq_false_iff_ne]; exact he
      clear he
      go_wp2
      go_meet
      exact hE
  case rest =>
  have hE := hcut
  clear hb c0 c1 hcut hf14
  obtain ⟨hb, c0, c1⟩ := HB.out _ hE
  go_wp2_with fail
  -- MARK9
  have HD : Hid (∀ W, Below wc.drew.heap.size wc.drew W → Below W0.heap.size W0 W) := Lib.hid fun W hW => by
    have h1 : Below wc.heap.size wc W := ⟨hW.os, hW.tape, hW.output, hW.size, hW.block⟩
    exact hE.trans (h1.mono hE.size)
  go_region_held3 (fun w' => w'.cell? ⟨w.heap.size, 1, none⟩ = some (.int .i64 N)) (go_keep)
    (first
      | (go_at_call 19; refine (G.out.dig1 _ (HB.out _ (HD.out _ (Below.refl _ _))).1).mono ?_; rintro e w16 ⟨rfl, hb16⟩; have hE16 := HD.out _ hb16; obtain ⟨hb, z0, z1⟩ := HB.out _ hE16)
      | (go_at_call 18; refine (G.out.int1 _ hb).mono ?_; rintro e w17 ⟨rfl, hb17⟩; have hE17 := hE16.trans (hb17.mono hE16.size); obtain ⟨hb', y0, y1⟩ := HB.out _ hE17))
  -- MARK10
  all_goals
    have hE := hE17
    obtain ⟨hb, c0, c1⟩ := HB.out _ hE
    go_wp2_with fail
    refine (G.out.int2 _ hb).mono ?_
    rintro e w18 ⟨rfl, hb18⟩
    have hE := hE.trans (hb18.mono hE.size)
    obtain ⟨hb, c0, c1⟩ := HB.out _ hE
    -- MARK11
    by_cases he : g2 = 0
    · subst he
      go_wp2_with fail
      refine (G.out.dig2 rfl _ hb).mono ?_
      rintro e w19 ⟨rfl, hb19⟩
      have hE := hE.trans (hb19.mono hE.size)
      obtain ⟨hb, c0, c1⟩ := HB.out _ hE
      go_wp2_with (go_at_call 6; refine (G.out.shown _ hb).mono ?_; rintro e w20 ⟨rfl, hb20⟩)
      go_ret
      exact ⟨rfl, hb.trans (hb20.mono hb.size)⟩
    · have hne : (g2 != 0) = true := by rw [bne_iff_ne]; exact he
      clear he
      go_wp2_with (go_at_call 6; refine (G.out.shown _ hb).mono ?_; rintro e w20 ⟨rfl, hb20⟩)
      go_ret
      exact ⟨rfl, hb.trans (hb20.mono hb.size)⟩

set_option maxRecDepth 100000 in
set_option maxHeartbeats 3200000 in
theorem inverse_many (s : ByteArray) (vl : Value) (l : List Fld) (va : Option Addr) (n vc : Nat) (N : Int) (w : World) (T : Ties w) (hl : FldsArg w vl l) (hs : ¬ 3000 < s.size) (hn : 510 < n) :
    Calls Tryz.prog 4 #[.string s, vl, .agg #[.slice va n vc, .int .i64 N]] w fun e w' => e = .returned (.bool true) ∧ Below w.heap.size w w' := by
  have hB0 : Below w.heap.size w (w.alloc (.cells #[.slice va n vc, .int .i64 N] 33)) := (Below.refl _ w).alloc (Nat.le_refl _) _
  have CF := Lib.hid (far_arg vl l (w.alloc (.cells #[.slice va n vc, .int .i64 N] 33)) (hl.below hB0))
  have CS : Hid (∀ W, Below w.heap.size w W → Calls Tryz.prog 6 #[] W fun e w' => e = .returned (.bool true) ∧ Below W.heap.size W w') := Lib.hid fun W hb => shown_any W (T W hb) (T.below hb)
  obtain ⟨W0, hW0⟩ : ∃ W0, W0 = w.alloc (.cells #[.slice va n vc, .int .i64 N] 33) := ⟨_, rfl⟩
  have HB : Hid (∀ W, Below W0.heap.size W0 W → Below w.heap.size w W ∧ W.cell? ⟨w.heap.size, 0, none⟩ = some (.slice va n vc)) := Lib.hid fun W hb => by
    have hc := World.alloc_heap_new w (.cells #[.slice va n vc, .int .i64 N] 33)
    rw [← hW0] at hc hB0
    have hc2 := (hb.block w.heap.size (Array.getElem?_eq_some_iff.1 hc).1).trans hc
    exact ⟨hB0.trans (hb.mono hB0.size), by simp [World.cell?, hc2]⟩
  have hd : decide ((3000 : Int) < (s.size : Int)) = false := decide_eq_false (by omega)
  have hdn : decide ((510 : Int) < (n : Int)) = true := decide_eq_true (by omega)
  clear hs hn T hl
  go_enter Tryz.func4, Tryz.ntmps4
  go_wp2_with fail
  rw [← hW0] at CF ⊢
  clear hW0 hB0
  refine CF.out.mono ?_
  rintro e w1 ⟨b, rfl, hb70, hb1⟩
  clear hb70
  obtain ⟨hb, c0⟩ := HB.out _ hb1
  have CSh := Lib.hid (CS.out _ hb)
  cases b <;> (
    go_wp2_with (go_at_call 6; refine CSh.out.mono ?_; rintro e w9 ⟨rfl, hb9⟩)
    go_ret
    exact ⟨rfl, hb.trans (hb9.mono hb.size)⟩)

theorem inverse_any (s : ByteArray) (vl : Value) (l : List Fld) (vx : Value) (xs : List Int) (N : Int) (w : World) (T : Ties w) (hm : MaxIs w) (hrl : 2 < w.heap.size)
    (hl : FldsArg w vl l) (hx : IntsArg w vx xs) (hr : ∀ n ∈ xs, i64r n) (_ : xs.length ≤ maxLen) (hN : i64r N) :
    Calls Tryz.prog 4 #[.string s, vl, .agg #[vx, .int .i64 N]] w fun e w' => e = .returned (.bool true) ∧ Below w.heap.size w w' := by
  by_cases hs : 3000 < s.size
  · exact inverse_long s vl vx N w T hs
  · obtain ⟨va, vc, rfl⟩ := intsArg_shape hx
    by_cases h510 : xs.length ≤ 510
    · obtain ⟨F, e0, t, j0, q, V, g, LX, l0, M, p0, D, k, g2, G⟩ := gives s vl l va vc xs N w T hm hrl (by omega) hl hx hr h510 hN
      exact inverse_walk s vl l va _ vc xs N w F e0 t j0 q V g LX l0 M p0 D k g2 (Lib.hid G) hs
    · exact inverse_many s vl l va _ vc N w T hl hs (by omega)
end Go.Proofs.YtnajkkbcfebegaaGreatDoor
