/- The reference's Place, At and Cut, of any arguments. -/
import Derived.Test.YtbajikkjkiacnaaDoorPrpl
namespace Go.Proofs.YtbajikkjkiacnaaDoor
open Go.RowKit Go.PlainAid

/-- What the reference's Starts leaves, as far as its error goes. -/
theorem rst_e (a : Option Addr) (n c : Nat) (l : List UInt8) (w : World) (h : ArgAt w (.slice a n c) (l.map bc)) (hl : l.length ≤ 1000000) :
    Calls Tryd.prog 38 #[.slice a n c] w fun e w1 => ∃ x z cx, e = .returned (.tuple #[.slice x z cx, .int .i64 (chkS l).2]) ∧ Below w.heap.size w w1 := by
  refine (rstarts_any _ l w h hl).mono ?_
  rintro e w1 ⟨v, h1, h2, h3⟩
  have hv : (startsS l).2 = (chkS l).2 := by
    unfold startsS; split
    · rename_i h0; exact h0.symm
    · rfl
  rw [hv] at h1
  obtain ⟨x, cx, rfl⟩ := (RowAt.own h2).slice
  exact ⟨x, _, cx, h1, h3⟩

set_option maxRecDepth 50000 in
set_option maxHeartbeats 6400000 in
theorem rPlace_any (a : Option Addr) (n c : Nat) (l : List UInt8) (i : Int) (w : World) (h : ArgAt w (.slice a n c) (l.map bc)) (hn : n = l.length) (hl : l.length ≤ 1000000) :
    Calls Tryd.prog 34 #[.slice a n c, .int .i64 i] w fun e w' => e = .returned (plcV (placeP l i)) ∧ Below w.heap.size w w' := by
  by_cases h0 : (chkS l).2 = 0
  · by_cases hi : 0 ≤ i ∧ i ≤ n
    · obtain ⟨k, rfl⟩ : ∃ k : Nat, i = k := ⟨i.toNat, by omega⟩
      exact rPlace_at a n c l k w h hn hl h0 (by omega)
    · have HE : Hid (plcV (placeP l i) = .tuple #[.int .i64 0, .int .i64 0, .int .i64 7]) := Lib.hid (by
        rw [place_err (e := 7) (by rw [on_e, if_neg (by simpa using h0), if_pos (by omega)]) (by omega)]; rfl)
      have CS := Lib.hid (rst_e a n c l w h hl)
      rw [h0] at CS
      have hk : (decide (i < 0) = true) ∨ (decide (i < 0) = false ∧ decide ((n : Int) < i) = true) := by
        by_cases h1 : i < 0
        · exact .inl (decide_eq_true h1)
        · exact .inr ⟨decide_eq_false h1, decide_eq_true (by omega)⟩
      clear h hn hl h0 hi
      rcases hk with k1 | ⟨k1, k2⟩ <;> (
        go_enter Tryd.func34, Tryd.ntmps34
        go_wp2_with fail
        refine CS.out.mono ?_
        rintro e w1 ⟨xa, z, cx, rfl, hb1⟩
        go_wp2_with fail
        go_returns
        exact ⟨(congrArg Ending.returned HE.out).symm, hb1⟩)
  · have HE : Hid (plcV (placeP l i) = .tuple #[.int .i64 0, .int .i64 0, .int .i64 (chkS l).2]) := Lib.hid (by
      rw [place_err (e := (chkS l).2) (by rw [on_e, if_pos (by simpa using h0)]) h0]; rfl)
    have CS := Lib.hid (rst_e a n c l w h hl)
    obtain ⟨e0, he0⟩ : ∃ e0, (chkS l).2 = e0 := ⟨_, rfl⟩
    rw [he0] at CS HE h0
    have k1 : (e0 == 0) = false := by rw [beq_eq_false_iff_ne]; exact h0
    have k2 : (e0 != 0) = true := by rw [bne_iff_ne]; exact h0
    clear h hn hl h0 he0
    go_enter Tryd.func34, Tryd.ntmps34
    go_wp2_with fail
    refine CS.out.mono ?_
    rintro e w1 ⟨xa, z, cx, rfl, hb1⟩
    go_wp2_with fail
    go_returns
    exact ⟨(congrArg Ending.returned HE.out).symm, hb1⟩

set_option maxRecDepth 50000 in
set_option maxHeartbeats 6400000 in
theorem rAt_any (a : Option Addr) (n c : Nat) (l : List UInt8) (i j : Int) (w : World) (h : ArgAt w (.slice a n c) (l.map bc)) (hn : n = l.length) (hl : l.length ≤ 1000000) :
    Calls Tryd.prog 36 #[.slice a n c, .int .i64 i, .int .i64 j] w fun e w' => e = .returned (pairV (atP l i j)) ∧ Below w.heap.size w w' := by
  by_cases h0 : (chkS l).2 = 0
  · obtain ⟨S, hS⟩ : ∃ S, stS l = S := ⟨_, rfl⟩
    obtain ⟨z, hz⟩ : ∃ z, S.length = z := ⟨_, rfl⟩
    have CS : Hid (Calls Tryd.prog 38 #[.slice a n c] w fun e w1 => ∃ x cx, e = .returned (.tuple #[.slice x z cx, .int .i64 0]) ∧ RowAt w1 (.slice x z cx) (S.map fun k : Nat => Value.int .i64 (k : Int)) ∧ Below w.heap.size w w1) := Lib.hid (by
      refine (rstarts_any _ l w h hl).mono ?_
      rintro e w1 ⟨v, h1, h2, h3⟩
      have hv : startsS l = (S, 0) := by unfold startsS; rw [if_pos h0, hS]
      rw [hv] at h1 h2
      have h4 := RowAt.own h2
      obtain ⟨x, cx, rfl⟩ := h4.slice
      rw [List.length_map, hz] at h1 h4
      exact ⟨x, cx, h1, h4, h3⟩)
    have CP : Hid (∀ (p : Int) W, Below w.heap.size w W → Calls Tryd.prog 34 #[.slice a n c, .int .i64 p] W fun e w' => e = .returned (plcV (placeP l p)) ∧ Below W.heap.size W w') := Lib.hid fun p W hb =>
      rPlace_any a n c l p W (h.below hb (Nat.le_refl _)) hn hl
    have HST : Hid (∀ k s : Nat, S[k]? = some s → ∃ X Y : Int, placeP l (s : Int) = (X, Y, 0) ∧ atP l X Y = ((s : Int), 0)) := Lib.hid fun k s hs => start_place h0 (by rw [hS]; exact hs)
    have HNO : Hid ((∀ (k s : Nat), S[k]? = some s → placeP l (s : Int) ≠ (i, j, 0)) → pairV (atP l i j) = .tuple #[.int .i64 0, .int .i64 4]) := Lib.hid fun hx => by
      rw [at_none h0 (by rw [hS]; exact hx)]; rfl
    have hzb : z ≤ 1000001 := by
      rw [← hz, ← hS, st_length]
      have := runs_len_le l; omega
    have HZ := Lib.hid hz
    clear h hn hl h0 hS hz
    go_enter Tryd.func36, Tryd.ntmps36
    go_wp2_with fail
    refine CS.out.mono ?_
    rintro e w1 ⟨xa, cx, rfl, hr1, hb1⟩
    have HR1 := Lib.hid hr1
    clear hr1 CS
    go_wp2_with fail
    go_loopw [10] (fun x10 wr => ∃ k : Nat, x10 = .int .i64 k ∧ k ≤ z ∧ Hid (∀ (m s : Nat), m < k → S[m]? = some s → placeP l (s : Int) ≠ (i, j, 0)) ∧ Below w1.heap.size w1 wr) (fun x10 _ => z - (intOf x10).toNat)
    case atStart => exact ⟨0, rfl, Nat.zero_le _, Lib.hid (fun m s hm => by omega), Below.refl _ _⟩
    case round =>
      obtain ⟨k, rfl, hk, HN, hE⟩ := hrel
      have hB := hb1.trans (hE.mono hb1.size)
      by_cases hlt : k < z
      · obtain ⟨s, hs⟩ : ∃ s, S[k]? = some s := ⟨_, List.getElem?_eq_getElem (by rw [HZ.out]; exact hlt)⟩
        obtain ⟨X, Y, p1, p2⟩ := HST.out k s hs
        have KP : Hid (∀ W, Below w.heap.size w W → Calls Tryd.prog 34 #[.slice a n c, .int .i64 (s : Int)] W fun e w' => e = .returned (.tuple #[.int .i64 X, .int .i64 Y, .int .i64 0]) ∧ Below W.heap.size W w') := Lib.hid fun W hb => by
          have := CP.out s W hb; rw [p1] at this; exact this
        rcases RowAt.below HR1.out hE (Nat.le_refl _) with ⟨_, _, hv, hnil⟩ | ⟨g, off, _, cc, hv, _, hg, hcl⟩
        · have := (Value.slice.inj hv).2.1; omega
        · obtain ⟨rfl, hv2, rfl⟩ := Value.slice.inj hv
          have HD : Hid (∀ W, Below wr.heap.size wr W → W.cell? ⟨g, off + k, none⟩ = some (.int .i64 (s : Int))) := Lib.hid fun W hW => (hW.cell (p := ⟨g, off + k, none⟩) hg).trans (hcl k _ (by rw [List.getElem?_map, hs]; rfl))
          have d0 := HD.out _ (Below.refl _ _)
          have hk0 : (0 : Int) ≤ (k : Int) := Int.natCast_nonneg _
          have hk1 : (k : Int) < (z : Int) := by omega
          have HXY : Hid (X = i → Y = j → pairV (atP l i j) = .tuple #[.int .i64 (s : Int), .int .i64 0]) := Lib.hid fun e1 e2 => by rw [← e1, ← e2, p2]; rfl
          have HN' : Hid (¬ (X = i ∧ Y = j) → ∀ (m t : Nat), m < k + 1 → S[m]? = some t → placeP l (t : Int) ≠ (i, j, 0)) := Lib.hid fun hne m t hm ht => by
            by_cases e : m = k
            · rw [e, hs] at ht
              rw [← Option.some.inj ht, p1]
              intro hq
              exact hne ⟨congrArg (·.1) hq, congrArg (fun z => z.2.1) hq⟩
            · exact HN.out m t (by omega) ht
          clear hcl hv hv2 hs p1 p2
          go_wp2_with fail
          refine (KP.out _ hB).mono ?_
          rintro e w2 ⟨rfl, hb2⟩
          have hE2 := hE.trans (hb2.mono hE.size)
          have hB2 := hB.trans (hb2.mono hB.size)
          have d0 := HD.out _ hb2
          by_cases hx : X = i
          · have e1 : (X == i) = true := by rw [beq_iff_eq]; exact hx
            by_cases hy : Y = j
            · have e2 : (Y == j) = true := by rw [beq_iff_eq]; exact hy
              have HE := Lib.hid (HXY.out hx hy)
              clear hx hy
              go_wp2_with fail
              go_returns
              exact ⟨(congrArg Ending.returned HE.out).symm, hB2⟩
            · have e2 : (Y == j) = false := by rw [beq_eq_false_iff_ne]; exact hy
              have HN2 := Lib.hid (HN'.out (fun q => hy q.2))
              clear hx hy
              go_wp2_with fail
              go_roundw
              case rel => exact ⟨k + 1, int_v (by omega), by omega, HN2, hE2⟩
              case measure => simp [intOf]; omega
          · have e1 : (X == i) = false := by rw [beq_eq_false_iff_ne]; exact hx
            have HN2 := Lib.hid (HN'.out (fun q => hx q.1))
            clear hx
            go_wp2_with fail
            go_roundw
            case rel => exact ⟨k + 1, int_v (by omega), by omega, HN2, hE2⟩
            case measure => simp [intOf]; omega
      · obtain rfl : k = z := by omega
        have HE := Lib.hid (HNO.out fun m s hs => HN.out m s (by have := (List.getElem?_eq_some_iff.1 hs).1; rw [HZ.out] at this; omega) hs)
        clear HN HNO HST CP hlt
        go_wp2_with fail
        go_returns
        exact ⟨(congrArg Ending.returned HE.out).symm, hB⟩
  · have HE : Hid (pairV (atP l i j) = .tuple #[.int .i64 0, .int .i64 (chkS l).2]) := Lib.hid (by rw [at_err h0]; rfl)
    have CS := Lib.hid (rst_e a n c l w h hl)
    obtain ⟨e0, he0⟩ : ∃ e0, (chkS l).2 = e0 := ⟨_, rfl⟩
    rw [he0] at CS HE h0
    have k2 : (e0 != 0) = true := by rw [bne_iff_ne]; exact h0
    clear h hn hl h0 he0
    go_enter Tryd.func36, Tryd.ntmps36
    go_wp2_with fail
    refine CS.out.mono ?_
    rintro e w1 ⟨xa, z, cx, rfl, hb1⟩
    go_wp2_with fail
    go_returns
    exact ⟨(congrArg Ending.returned HE.out).symm, hb1⟩

set_option maxRecDepth 50000 in
set_option maxHeartbeats 6400000 in
theorem rCut_any (a : Option Addr) (n c : Nat) (l : List UInt8) (p q : Int) (w : World) (h : ArgAt w (.slice a n c) (l.map bc)) (hn : n = l.length) (hcap : n ≤ c) (hl : l.length ≤ 1000000) :
    Calls Tryd.prog 31 #[.slice a n c, .agg #[.int .i64 p, .int .i64 q]] w fun e w' => e = .returned (cutV (cutP l (p, q))) ∧ Below w.heap.size w w' := by
  obtain ⟨W0, hW0⟩ : ∃ W0, W0 = w.alloc (.cells #[.int .i64 p, .int .i64 q] 25) := ⟨_, rfl⟩
  have HT := Lib.hid fun (W : World) (h : Below W0.heap.size W0 W) => one_cells w W p q 25 (by subst hW0; exact h)
  obtain ⟨e0, he0⟩ : ∃ e0, (chkS l).2 = e0 := ⟨_, rfl⟩
  obtain ⟨x, hx⟩ : ∃ (x : Int), chkV l = .tuple #[.int .i64 x, .int .i64 e0] := ⟨(chkS l).1, by unfold chkV; rw [he0]⟩
  have hb := Below.refl W0.heap.size W0
  obtain ⟨c0, c1, hB⟩ := HT.out _ hb
  have C1 : Hid (Calls Tryd.prog 50 #[.slice a n c] W0 fun e' w' => e' = .returned (.tuple #[.int .i64 x, .int .i64 e0]) ∧ Below W0.heap.size W0 w') := Lib.hid (by
    rw [← hx]; exact rcheck_any _ l W0 (h.below hB (Nat.le_refl _)) hl)
  by_cases h0 : e0 = 0
  · subst h0
    obtain ⟨f, hff⟩ : ∃ f, checkS n (p, q) = f := ⟨_, rfl⟩
    have C2 : Hid (∀ W, Calls Tryd.prog 22 #[.int .i64 (n : Int), .agg #[.int .i64 p, .int .i64 q]] W fun e' w' => e' = .returned (.int .i64 f) ∧ Below W.heap.size W w') := Lib.hid fun W => by
      have := rcheck_spans n p q W; rw [hff] at this; exact this
    by_cases hf : f = 0
    · subst hf
      obtain ⟨hp0, hpq, hqn⟩ : 0 ≤ p ∧ p ≤ q ∧ q ≤ n := by
        unfold checkS isS at hff
        simp only at hff
        by_cases h1 : 0 ≤ p ∧ p ≤ q
        · rw [decide_eq_true h1, if_neg (by simp)] at hff
          by_cases h2 : (n : Int) < q
          · rw [if_pos h2] at hff; omega
          · omega
        · rw [decide_eq_false h1, if_pos rfl] at hff; omega
      obtain ⟨p, rfl⟩ : ∃ k : Nat, p = k := ⟨p.toNat, by omega⟩
      obtain ⟨q, rfl⟩ : ∃ k : Nat, q = k := ⟨q.toNat, by omega⟩
      have hc0 : checkS l.length ((p : Int), (q : Int)) = 0 := by rw [← hn]; exact hff
      obtain ⟨y0, hy0⟩ : ∃ y0, onS l p = (y0, 0) := ⟨(onS l p).1, by
        refine Prod.ext rfl ?_
        rw [on_e, he0, if_neg (by simp), if_neg (by omega)]⟩
      obtain ⟨y1, hy1⟩ : ∃ y1, onS l q = (y1, 0) := ⟨(onS l q).1, by
        refine Prod.ext rfl ?_
        rw [on_e, he0, if_neg (by simp), if_neg (by omega)]⟩
      have K0 : Hid (∀ W, Below w.heap.size w W → Calls Tryd.prog 52 #[.slice a n c, .int .i64 (p : Int)] W fun e' w' => e' = .returned (.tuple #[.bool y0, .int .i64 0]) ∧ Below W.heap.size W w') := Lib.hid fun W hb => by
        have := ron_any _ l p W (h.below hb (Nat.le_refl _)) hl
        unfold onV at this; rw [hy0] at this; exact this
      have K1 : Hid (∀ W, Below w.heap.size w W → Calls Tryd.prog 52 #[.slice a n c, .int .i64 (q : Int)] W fun e' w' => e' = .returned (.tuple #[.bool y1, .int .i64 0]) ∧ Below W.heap.size W w') := Lib.hid fun W hb => by
        have := ron_any _ l q W (h.below hb (Nat.le_refl _)) hl
        unfold onV at this; rw [hy1] at this; exact this
      have HNO : Hid (¬ (y0 = true ∧ y1 = true) → cutV (cutP l (p, q)) = .tuple #[.string ⟨#[]⟩, .int .i64 6]) := Lib.hid fun hx => by
        unfold cutP; rw [if_neg (by simpa using he0), hc0, if_neg (by simp), if_neg (by simp only; rw [hy0, hy1]; rintro ⟨e1, e2⟩; exact hx ⟨congrArg (·.1) e1, congrArg (·.1) e2⟩)]; rfl
      have HYES : Hid (y0 = true → y1 = true → cutV (cutP l (p, q)) = .tuple #[.string (str (segL l (p, q))), .int .i64 0]) := Lib.hid fun hx1 hx2 => by
        unfold cutP; rw [if_neg (by simpa using he0), hc0, if_neg (by simp), if_pos (by simp only; rw [hy0, hy1, hx1, hx2]; exact ⟨rfl, rfl⟩)]; rfl
      have hB0 : BytesAt w (.slice a n c) l := h.row
      have HV : Hid (∀ W, Below w.heap.size w W → (convert 43 9 (.slice (if c = p then a else a.map (·.add p)) (q - p) (c - p))).run Tryd.prog W = .ok (.string (str (segL l (p, q)))) W) := Lib.hid fun W hb =>
        conv_row (drop_at (take_at (RowAt.below hB0 hb (Nat.le_refl _)) (show q ≤ n by omega)) (show p ≤ q by omega) (by omega))
      have i1 : (0 : Int) ≤ (p : Int) := Int.natCast_nonneg _
      have i2 : (p : Int) ≤ (q : Int) := by omega
      have i3 : (q : Int) ≤ (c : Int) := by omega
      have j1 : p ≤ q := by omega
      have j2 : q ≤ c := by omega
      clear h hx hl hn hff hc0 hy0 hy1 hB0 he0 hp0 hpq hqn c0 c1
      go_enter Tryd.func31, Tryd.ntmps31
      go_wp2_with fail
      rw [← hW0]
      refine C1.out.mono ?_
      rintro e w1 ⟨rfl, hb1⟩
      have hb := hb.trans (hb1.mono hb.size)
      obtain ⟨c0, c1, hB⟩ := HT.out _ hb
      go_wp2_with fail
      refine (C2.out _).mono ?_
      rintro e w2 ⟨rfl, hb2⟩
      have hb := hb.trans (hb2.mono hb.size)
      obtain ⟨c0, c1, hB⟩ := HT.out _ hb
      go_wp2_with fail
      refine (K0.out _ hB).mono ?_
      rintro e w3 ⟨rfl, hb3⟩
      have hb := hb.trans (hb3.mono hb.size)
      obtain ⟨c0, c1, hB⟩ := HT.out _ hb
      go_wp2_with fail
      refine (K1.out _ hB).mono ?_
      rintro e w4 ⟨rfl, hb4⟩
      have hb := hb.trans (hb4.mono hb.size)
      obtain ⟨c0, c1, hB⟩ := HT.out _ hb
      cases y0 with
      | false =>
        have HE := Lib.hid (HNO.out (by simp))
        clear HNO HYES
        go_wp2_with fail
        go_returns
        exact ⟨(congrArg Ending.returned HE.out).symm, hB⟩
      | true =>
        cases y1 with
        | false =>
          have HE := Lib.hid (HNO.out (by simp))
          clear HNO HYES
          go_wp2_with fail
          go_returns
          exact ⟨(congrArg Ending.returned HE.out).symm, hB⟩
        | true =>
          have HE := Lib.hid (HYES.out rfl rfl)
          clear HNO HYES
          have hv := HV.out _ hB
          by_cases hcp : c = p
          · rw [if_pos hcp, show q - p = 0 by omega, show c - p = 0 by omega] at hv
            obtain rfl : q = p := by omega
            subst hcp
            go_wp2_with fail
            go_returns
            exact ⟨(congrArg Ending.returned HE.out).symm, hB⟩
          · rw [if_neg hcp] at hv
            go_wp2_with fail
            go_returns
            exact ⟨(congrArg Ending.returned HE.out).symm, hB⟩
    · have HE : Hid (cutV (cutP l (p, q)) = .tuple #[.string ⟨#[]⟩, .int .i64 f]) := Lib.hid (by
        unfold cutP; rw [if_neg (by simpa using he0), ← hn, hff, if_pos hf]; rfl)
      have hne : (f != 0) = true := by rw [bne_iff_ne]; exact hf
      clear h hx hl hn hff hf he0
      go_enter Tryd.func31, Tryd.ntmps31
      go_wp2_with fail
      rw [← hW0]
      refine C1.out.mono ?_
      rintro e w1 ⟨rfl, hb1⟩
      have hb := hb.trans (hb1.mono hb.size)
      obtain ⟨c0, c1, hB⟩ := HT.out _ hb
      go_wp2_with fail
      refine (C2.out _).mono ?_
      rintro e w2 ⟨rfl, hb2⟩
      have hb := hb.trans (hb2.mono hb.size)
      obtain ⟨c0, c1, hB⟩ := HT.out _ hb
      go_wp2_with fail
      go_returns
      exact ⟨(congrArg Ending.returned HE.out).symm, hB⟩
  · have HE : Hid (cutV (cutP l (p, q)) = .tuple #[.string ⟨#[]⟩, .int .i64 e0]) := Lib.hid (by
      unfold cutP; rw [he0, if_pos h0]; rfl)
    have k1 : (e0 == 0) = false := by rw [beq_eq_false_iff_ne]; exact h0
    have hne : (e0 != 0) = true := by rw [bne_iff_ne]; exact h0
    clear h hx hl hn he0 h0
    go_enter Tryd.func31, Tryd.ntmps31
    go_wp2_with fail
    rw [← hW0]
    refine C1.out.mono ?_
    rintro e w1 ⟨rfl, hb1⟩
    have hb := hb.trans (hb1.mono hb.size)
    obtain ⟨c0, c1, hB⟩ := HT.out _ hb
    go_wp2_with fail
    go_returns
    exact ⟨(congrArg Ending.returned HE.out).symm, hB⟩
end Go.Proofs.YtbajikkjkiacnaaDoor
