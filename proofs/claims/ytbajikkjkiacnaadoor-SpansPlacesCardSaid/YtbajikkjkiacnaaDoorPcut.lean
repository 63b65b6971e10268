/- Layer 3: Cut. -/
import Derived.Test.YtbajikkjkiacnaaDoorPconv
import Derived.Test.YtbajikkjkiacnaaDoorPbox
namespace Go.Proofs.YtbajikkjkiacnaaDoor
open Go.RowKit Go.PlainAid

def cutV (r : List UInt8 × Int) : Value := .tuple #[.string (str r.1), .int .i64 r.2]

set_option maxRecDepth 50000 in
set_option maxHeartbeats 6400000 in
theorem Cut_in (a : Option Addr) (n c : Nat) (l : List UInt8) (p q : Nat) (w : World) (h : BytesAt w (.slice a n c) l) (hn : n = l.length) (hcap : n ≤ c) (hl : l.length ≤ 1000000) (hm : MarksTab w) (hg : 0 < w.heap.size)
    (h0 : (chkS l).2 = 0) (hpq : p ≤ q) (hqn : q ≤ n) :
    Calls Tryd.prog 30 #[.slice a n c, .agg #[.int .i64 p, .int .i64 q]] w fun e w' => e = .returned (cutV (cutP l (p, q))) ∧ Below w.heap.size w w' := by
  obtain ⟨W0, hW0⟩ : ∃ W0, W0 = w.alloc (.cells #[.int .i64 p, .int .i64 q] 25) := ⟨_, rfl⟩
  have HT := Lib.hid fun (W : World) (h : Below W0.heap.size W0 W) => one_cells w W p q 25 (by subst hW0; exact h)
  have HB : Hid (∀ W, Below w.heap.size w W → BytesAt W (.slice a n c) l ∧ MarksTab W ∧ 0 < W.heap.size) := Lib.hid fun W hb => ⟨RowAt.below h hb (Nat.le_refl _), marks_below hm hb hg, Nat.lt_of_lt_of_le hg hb.size⟩
  obtain ⟨x, hx⟩ : ∃ (x : Int), chkV l = .tuple #[.int .i64 x, .int .i64 0] := ⟨(chkS l).1, by unfold chkV; rw [h0]⟩
  have C1 : Hid (∀ W, Below w.heap.size w W → Calls Tryd.prog 49 #[.slice a n c] W fun e' w' => e' = .returned (.tuple #[.int .i64 x, .int .i64 0]) ∧ Below W.heap.size W w') := Lib.hid fun W hb => by
    rw [← hx]; exact check_any _ l W (HB.out W hb).1 (by omega) (HB.out W hb).2.1 (HB.out W hb).2.2
  have C2 : Hid (∀ W, Calls Tryd.prog 21 #[.int .i64 (n : Int), .agg #[.int .i64 (p : Int), .int .i64 (q : Int)]] W fun e' w' => e' = .returned (.int .i64 0) ∧ Below W.heap.size W w') := Lib.hid fun W => by
    have := check_spans n p q W
    unfold checkS isS at this; simp only at this
    rw [decide_eq_true (by omega), if_neg (by simp), if_neg (by omega)] at this; exact this
  have hc0 : checkS l.length ((p : Int), (q : Int)) = 0 := by
    unfold checkS isS; simp only
    rw [decide_eq_true (by omega), if_neg (by simp), if_neg (by omega)]
  obtain ⟨y0, g0, hy0⟩ : ∃ y0 g0, onS l p = (y0, g0) := ⟨_, _, rfl⟩
  obtain ⟨y1, g1, hy1⟩ : ∃ y1 g1, onS l q = (y1, g1) := ⟨_, _, rfl⟩
  have K0 : Hid (∀ W, Below w.heap.size w W → Calls Tryd.prog 51 #[.slice a n c, .int .i64 (p : Int)] W fun e' w' => e' = .returned (.tuple #[.bool y0, .int .i64 g0]) ∧ Below W.heap.size W w') := Lib.hid fun W hb => by
    have := on_any _ l p W (HB.out W hb).1 (by omega) (HB.out W hb).2.1 (HB.out W hb).2.2
    unfold onV at this; rw [hy0] at this; exact this
  have K1 : Hid (∀ W, Below w.heap.size w W → Calls Tryd.prog 51 #[.slice a n c, .int .i64 (q : Int)] W fun e' w' => e' = .returned (.tuple #[.bool y1, .int .i64 g1]) ∧ Below W.heap.size W w') := Lib.hid fun W hb => by
    have := on_any _ l q W (HB.out W hb).1 (by omega) (HB.out W hb).2.1 (HB.out W hb).2.2
    unfold onV at this; rw [hy1] at this; exact this
  have HNO : Hid (¬ ((y0, g0) = (true, 0) ∧ (y1, g1) = (true, 0)) → cutV (cutP l (p, q)) = .tuple #[.string ⟨#[]⟩, .int .i64 6]) := Lib.hid fun hx => by
    unfold cutP; rw [if_neg (by simpa using h0), hc0, if_neg (by simp), if_neg (by simp only; rw [hy0, hy1]; exact hx)]; rfl
  have HYES : Hid ((y0, g0) = (true, 0) → (y1, g1) = (true, 0) → cutV (cutP l (p, q)) = .tuple #[.string (str (segL l (p, q))), .int .i64 0]) := Lib.hid fun hx1 hx2 => by
    unfold cutP; rw [if_neg (by simpa using h0), hc0, if_neg (by simp), if_pos (by simp only; rw [hy0, hy1]; exact ⟨hx1, hx2⟩)]; rfl
  have HV : Hid (∀ W, Below w.heap.size w W → (convert 43 9 (.slice (if c = p then a else a.map (·.add p)) (q - p) (c - p))).run Tryd.prog W = .ok (.string (str (segL l (p, q)))) W) := Lib.hid fun W hb =>
    conv_row (drop_at (take_at (HB.out W hb).1 hqn) hpq (by omega))
  have hb := Below.refl W0.heap.size W0
  obtain ⟨c0, c1, hB⟩ := HT.out _ hb
  clear h hm hx hl h0 hc0 hy0 hy1 hn
  have i1 : (0 : Int) ≤ (p : Int) := Int.natCast_nonneg _
  have i2 : (p : Int) ≤ (q : Int) := by omega
  have i3 : (q : Int) ≤ (c : Int) := by omega
  have hI0 : ∀ w, (Instr.index 71 (.agg #[.int .i64 (p : Int), .int .i64 (q : Int)]) (.int .i64 0)).run Tryd.prog w = .ok (.int .i64 (p : Int)) w := fun _ => by kernel_rfl
  have hI1 : ∀ w, (Instr.index 71 (.agg #[.int .i64 (p : Int), .int .i64 (q : Int)]) (.int .i64 1)).run Tryd.prog w = .ok (.int .i64 (q : Int)) w := fun _ => by kernel_rfl
  go_enter Tryd.func30, Tryd.ntmps30
  go_wp2_with fail
  rw [← hW0]
  refine (C1.out _ hB).mono ?_
  rintro e w1 ⟨rfl, hb1⟩
  have hb := hb.trans (hb1.mono hb.size)
  obtain ⟨c0, c1, hB⟩ := HT.out _ hb
  go_wp2_with fail
  refine (C2.out _).mono ?_
  rintro e w2 ⟨rfl, hb2⟩
  have hb := hb.trans (hb2.mono hb.size)
  obtain ⟨c0, c1, hB⟩ := HT.out _ hb
  go_wp2_with fail
  obtain ⟨wo, hwo⟩ : ∃ z, z = w2 := ⟨_, rfl⟩
  subst hwo
  clear c0 c1 hB
  go_loopw [33] (fun x33 wr => ∃ k : Nat, x33 = .int .i64 k ∧ k ≤ 2 ∧ (1 ≤ k → y0 = true ∧ g0 = 0) ∧ (2 ≤ k → y1 = true ∧ g1 = 0) ∧ Below W0.heap.size W0 wr) (fun x33 _ => 2 - (intOf x33).toNat)
  case atStart => exact ⟨0, rfl, by omega, fun h => (by omega), fun h => (by omega), hb⟩
  case round =>
    obtain ⟨k, rfl, hk, q0, q1, hr⟩ := hrel
    obtain ⟨c0, c1, hB⟩ := HT.out _ hr
    have hk3 : k = 0 ∨ k = 1 ∨ k = 2 := by omega
    rcases hk3 with rfl | rfl | rfl
    · clear q0 q1
      go_wp2_with fail
      -- MARK1
      refine (K0.out _ hB).mono ?_
      rintro e w3 ⟨rfl, hb3⟩
      have hr3 := hr.trans (hb3.mono hr.size)
      have hB3 := (HT.out _ hr3).2.2
      by_cases hg0 : g0 = 0
      · subst hg0
        cases y0 with
        | true =>
          go_wp2_with fail
          go_roundw
          case rel => exact ⟨1, by go_num, by omega, fun _ => by simp, fun h => (by omega), hr3⟩
          case measure => simp [intOf]
        | false =>
          have HE := HNO.out (by simp)
          go_wp2_with fail
          go_returns
          exact ⟨(congrArg Ending.returned HE).symm, hB3⟩
      · have HE := HNO.out (by simp [hg0])
        have hne : (g0 != 0) = true := by rw [bne_iff_ne]; exact hg0
        clear hg0
        go_wp2_with fail
        go_returns
        exact ⟨(congrArg Ending.returned HE).symm, hB3⟩
    · obtain ⟨rfl, rfl⟩ := q0 (by omega)
      clear q0 q1
      go_wp2_with fail
      refine (K1.out _ hB).mono ?_
      rintro e w3 ⟨rfl, hb3⟩
      have hr3 := hr.trans (hb3.mono hr.size)
      have hB3 := (HT.out _ hr3).2.2
      by_cases hg0 : g1 = 0
      · subst hg0
        cases y1 with
        | true =>
          go_wp2_with fail
          go_roundw
          case rel => exact ⟨2, by go_num, by omega, fun _ => by simp, fun _ => by simp, hr3⟩
          case measure => simp [intOf]
        | false =>
          have HE := HNO.out (by simp)
          go_wp2_with fail
          go_returns
          exact ⟨(congrArg Ending.returned HE).symm, hB3⟩
      · have HE := HNO.out (by simp [hg0])
        have hne : (g1 != 0) = true := by rw [bne_iff_ne]; exact hg0
        clear hg0
        go_wp2_with fail
        go_returns
        exact ⟨(congrArg Ending.returned HE).symm, hB3⟩
    · obtain ⟨rfl, rfl⟩ := q0 (by omega)
      obtain ⟨rfl, rfl⟩ := q1 (by omega)
      have HE := HYES.out rfl rfl
      clear q0 q1 HNO
      have hv := HV.out _ hB
      by_cases hcp : c = p
      · rw [if_pos hcp, show q - p = 0 by omega, show c - p = 0 by omega] at hv
        obtain rfl : q = p := by omega
        subst hcp
        go_wp2_with fail
        -- MARK2
        go_returns
        first | exact ⟨(congrArg Ending.returned HE).symm, hB⟩ | exact ⟨rfl, hB⟩ | exact ⟨congrArg Ending.returned HE, hB⟩
      · rw [if_neg hcp] at hv
        go_wp2_with fail
        go_returns
        first | exact ⟨(congrArg Ending.returned HE).symm, hB⟩ | exact ⟨rfl, hB⟩ | exact ⟨congrArg Ending.returned HE, hB⟩

set_option maxRecDepth 50000 in
set_option maxHeartbeats 6400000 in
theorem Cut_any (a : Option Addr) (n c : Nat) (l : List UInt8) (p q : Int) (w : World) (h : BytesAt w (.slice a n c) l) (hn : n = l.length) (hcap : n ≤ c) (hl : l.length ≤ 1000000) (hm : MarksTab w) (hg : 0 < w.heap.size) :
    Calls Tryd.prog 30 #[.slice a n c, .agg #[.int .i64 p, .int .i64 q]] w fun e w' => e = .returned (cutV (cutP l (p, q))) ∧ Below w.heap.size w w' := by
  by_cases h0 : (chkS l).2 = 0
  · by_cases hf : checkS n (p, q) = 0
    · obtain ⟨p', q', rfl, rfl, h1, h2⟩ : ∃ a b : Nat, p = (a : Int) ∧ q = (b : Int) ∧ a ≤ b ∧ b ≤ n := by
        unfold checkS isS at hf
        simp only at hf
        by_cases h1 : 0 ≤ p ∧ p ≤ q
        · rw [decide_eq_true h1, if_neg (by simp)] at hf
          by_cases h2 : (n : Int) < q
          · rw [if_pos h2] at hf; omega
          · exact ⟨p.toNat, q.toNat, by omega, by omega, by omega, by omega⟩
        · rw [decide_eq_false h1, if_pos rfl] at hf; omega
      exact Cut_in a n c l p' q' w h hn hcap hl hm hg h0 h1 h2
    · obtain ⟨f, hff⟩ : ∃ f, checkS n (p, q) = f := ⟨_, rfl⟩
      have HV : Hid (cutV (cutP l (p, q)) = .tuple #[.string ⟨#[]⟩, .int .i64 f]) := Lib.hid (by
        unfold cutP; rw [if_neg (by simpa using h0), ← hn, hff, if_pos (by rw [← hff]; exact hf)]; rfl)
      obtain ⟨W0, hW0⟩ : ∃ W0, W0 = w.alloc (.cells #[.int .i64 p, .int .i64 q] 25) := ⟨_, rfl⟩
      have HT := Lib.hid fun (W : World) (h : Below W0.heap.size W0 W) => one_cells w W p q 25 (by subst hW0; exact h)
      obtain ⟨x, hx⟩ : ∃ (x : Int), chkV l = .tuple #[.int .i64 x, .int .i64 0] := ⟨(chkS l).1, by unfold chkV; rw [h0]⟩
      have hb := Below.refl W0.heap.size W0
      obtain ⟨c0, c1, hB⟩ := HT.out _ hb
      have C1 : Hid (Calls Tryd.prog 49 #[.slice a n c] W0 fun e' w' => e' = .returned (.tuple #[.int .i64 x, .int .i64 0]) ∧ Below W0.heap.size W0 w') := Lib.hid (by
        rw [← hx]; exact check_any _ l W0 (RowAt.below h hB (Nat.le_refl _)) (by omega) (marks_below hm hB hg) (Nat.lt_of_lt_of_le hg hB.size))
      have C2 : Hid (∀ W, Calls Tryd.prog 21 #[.int .i64 (n : Int), .agg #[.int .i64 p, .int .i64 q]] W fun e' w' => e' = .returned (.int .i64 f) ∧ Below W.heap.size W w') := Lib.hid fun W => by
        have := check_spans n p q W; rw [hff] at this; exact this
      have hne : (f != 0) = true := by rw [bne_iff_ne, ← hff]; exact hf
      clear h hm hx hl hn hf hff h0
      go_enter Tryd.func30, Tryd.ntmps30
      go_wp2_with fail
      rw [← hW0]
      refine C1.out.mono ?_
      rintro e w1 ⟨rfl, hb1⟩
      have hb := hb.trans (hb1.mono hb.size)
      obtain ⟨c0, c1, hB⟩ := HT.out _ hb
      go_wp2_with fail
      refine (C2.out _).mono ?_
      rintro e w2 ⟨rfl, hb2⟩
      have hb := hb.trans (hb2.mono hb.size)
      obtain ⟨c0, c1, hB⟩ := HT.out _ hb
      go_wp2_with fail
      go_returns
      exact ⟨(congrArg Ending.returned HV.out).symm, hB⟩
  · obtain ⟨e0, he0⟩ : ∃ e0, (chkS l).2 = e0 := ⟨_, rfl⟩
    have HV : Hid (cutV (cutP l (p, q)) = .tuple #[.string ⟨#[]⟩, .int .i64 e0]) := Lib.hid (by
      unfold cutP; rw [if_pos h0, he0]; rfl)
    obtain ⟨W0, hW0⟩ : ∃ W0, W0 = w.alloc (.cells #[.int .i64 p, .int .i64 q] 25) := ⟨_, rfl⟩
    have hw0 : Below w.heap.size w W0 := by subst hW0; exact below_a1 _ _
    obtain ⟨x, hx⟩ : ∃ (x : Int), chkV l = .tuple #[.int .i64 x, .int .i64 e0] := ⟨(chkS l).1, by unfold chkV; rw [he0]⟩
    have C1 : Hid (Calls Tryd.prog 49 #[.slice a n c] W0 fun e' w' => e' = .returned (.tuple #[.int .i64 x, .int .i64 e0]) ∧ Below W0.heap.size W0 w') := Lib.hid (by
      rw [← hx]; exact check_any _ l W0 (RowAt.below h hw0 (Nat.le_refl _)) (by omega) (marks_below hm hw0 hg) (Nat.lt_of_lt_of_le hg hw0.size))
    have hne : (e0 != 0) = true := by rw [bne_iff_ne, ← he0]; exact h0
    clear h hm hx hl hn h0 he0
    go_enter Tryd.func30, Tryd.ntmps30
    go_wp2_with fail
    rw [← hW0]
    refine C1.out.mono ?_
    rintro e w1 ⟨rfl, hb1⟩
    go_wp2_with fail
    go_returns
    exact ⟨(congrArg Ending.returned HV.out).symm, hw0.trans (hb1.mono hw0.size)⟩
end Go.Proofs.YtbajikkjkiacnaaDoor
