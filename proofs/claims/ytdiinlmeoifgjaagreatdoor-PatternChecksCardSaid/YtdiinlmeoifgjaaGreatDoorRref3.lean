/- The reference's begins and Decode. -/
import Derived.Test.YtdiinlmeoifgjaaGreatDoorRref2
namespace Go.Proofs.YtdiinlmeoifgjaaGreatDoor
open Go.RowKit Go.PlainAid

set_option maxRecDepth 100000 in
set_option maxHeartbeats 1600000 in
theorem begno_lo (a : Option Addr) (n cap : Nat) (c : UInt8) (t : List UInt8) (w : World) (h : SrcAt w (.slice a n cap) n ((c :: t).map bc)) (hn : n = t.length + 1) (h1 : ub c < 192) (_hm : 0 ≤ n) :
    Calls Tryz.prog 66 #[.slice a n cap] w fun e w' => e = .returned (.bool (begS (c :: t))) ∧ Below w.heap.size w w' := by
  have hB : BytesAt w (.slice a n cap) (c :: t) := h.row (by simpa using hn)
  have HE : Hid (begS (c :: t) = false) := Lib.hid (beg_no (by rw [many_0 (.inl h1)]; omega))
  have c0 : ∃ g off, a = some ⟨g, off, none⟩ ∧ w.cell? ⟨g, off, none⟩ = some (.int .u8 (ub c)) := by
    rcases hB with ⟨_, _, _, hnil⟩ | ⟨g, off, _, _, hv, _, _, hc⟩
    · simp at hnil
    · refine ⟨g, off, (Value.slice.inj hv).1, ?_⟩
      have := hc 0 (bc c) rfl
      rwa [Nat.add_zero] at this
  obtain ⟨g, off, ha, c0⟩ := c0
  have hcb := ub_bd c
  obtain ⟨x, hx⟩ : ∃ x, ub c = x := ⟨_, rfl⟩
  rw [hx] at c0 h1 hcb
  subst ha
  have hn1 : 1 ≤ n := by omega
  obtain ⟨hc1, hc2⟩ := hcb
  have hf0 : decide ((192 : Int) ≤ x) = false := decide_eq_false (by omega)
  have hf1 : decide ((224 : Int) ≤ x) = false := decide_eq_false (by omega)
  have hf2 : decide ((240 : Int) ≤ x) = false := decide_eq_false (by omega)
  have hlen : decide ((0 : Int) ≤ (n : Int)) = true := decide_eq_true (by omega)
  clear hB h hn hx h1
  go_enter Tryz.func66, Tryz.ntmps66
  go_wp2
  go_ret
  exact ⟨ret_bool HE.out.symm, Below.refl _ _⟩
set_option maxRecDepth 100000 in
set_option maxHeartbeats 1600000 in
theorem begno_hi (a : Option Addr) (n cap : Nat) (c : UInt8) (t : List UInt8) (w : World) (h : SrcAt w (.slice a n cap) n ((c :: t).map bc)) (hn : n = t.length + 1) (h1 : 248 ≤ ub c) (_hm : 0 ≤ n) :
    Calls Tryz.prog 66 #[.slice a n cap] w fun e w' => e = .returned (.bool (begS (c :: t))) ∧ Below w.heap.size w w' := by
  have hB : BytesAt w (.slice a n cap) (c :: t) := h.row (by simpa using hn)
  have HE : Hid (begS (c :: t) = false) := Lib.hid (beg_no (by rw [many_0 (.inr h1)]; omega))
  have c0 : ∃ g off, a = some ⟨g, off, none⟩ ∧ w.cell? ⟨g, off, none⟩ = some (.int .u8 (ub c)) := by
    rcases hB with ⟨_, _, _, hnil⟩ | ⟨g, off, _, _, hv, _, _, hc⟩
    · simp at hnil
    · refine ⟨g, off, (Value.slice.inj hv).1, ?_⟩
      have := hc 0 (bc c) rfl
      rwa [Nat.add_zero] at this
  obtain ⟨g, off, ha, c0⟩ := c0
  have hcb := ub_bd c
  obtain ⟨x, hx⟩ : ∃ x, ub c = x := ⟨_, rfl⟩
  rw [hx] at c0 h1 hcb
  subst ha
  have hn1 : 1 ≤ n := by omega
  obtain ⟨hc1, hc2⟩ := hcb
  have hf0 : decide ((192 : Int) ≤ x) = true := decide_eq_true (by omega)
  have hf1 : decide (x < 224) = false := decide_eq_false (by omega)
  have hf2 : decide ((224 : Int) ≤ x) = true := decide_eq_true (by omega)
  have hf3 : decide (x < 240) = false := decide_eq_false (by omega)
  have hf4 : decide ((240 : Int) ≤ x) = true := decide_eq_true (by omega)
  have hf5 : decide (x < 248) = false := decide_eq_false (by omega)
  have hlen : decide ((0 : Int) ≤ (n : Int)) = true := decide_eq_true (by omega)
  clear hB h hn hx h1
  go_enter Tryz.func66, Tryz.ntmps66
  go_wp2
  go_ret
  exact ⟨ret_bool HE.out.symm, Below.refl _ _⟩
set_option maxRecDepth 100000 in
set_option maxHeartbeats 1600000 in
theorem begno_2 (a : Option Addr) (n cap : Nat) (c : UInt8) (t : List UInt8) (w : World) (h : SrcAt w (.slice a n cap) n ((c :: t).map bc)) (hn : n = t.length + 1) (h1 : 192 ≤ ub c ∧ ub c < 224) (hm : 2 ≤ n) :
    Calls Tryz.prog 66 #[.slice a n cap] w fun e w' => e = .returned (.bool (begS (c :: t))) ∧ Below w.heap.size w w' := by
  have hB : BytesAt w (.slice a n cap) (c :: t) := h.row (by simpa using hn)
  have HE : Hid (begS (c :: t) = false) := Lib.hid (beg_no (by rw [many_2 h1.1 h1.2]; omega))
  have c0 : ∃ g off, a = some ⟨g, off, none⟩ ∧ w.cell? ⟨g, off, none⟩ = some (.int .u8 (ub c)) := by
    rcases hB with ⟨_, _, _, hnil⟩ | ⟨g, off, _, _, hv, _, _, hc⟩
    · simp at hnil
    · refine ⟨g, off, (Value.slice.inj hv).1, ?_⟩
      have := hc 0 (bc c) rfl
      rwa [Nat.add_zero] at this
  obtain ⟨g, off, ha, c0⟩ := c0
  have hcb := ub_bd c
  obtain ⟨x, hx⟩ : ∃ x, ub c = x := ⟨_, rfl⟩
  rw [hx] at c0 h1 hcb
  subst ha
  have hn1 : 1 ≤ n := by omega
  obtain ⟨hc1, hc2⟩ := hcb
  have hf0 : decide ((192 : Int) ≤ x) = true := decide_eq_true (by omega)
  have hf1 : decide (x < 224) = true := decide_eq_true (by omega)
  have hlen : decide ((2 : Int) ≤ (n : Int)) = true := decide_eq_true (by omega)
  clear hB h hn hx h1
  go_enter Tryz.func66, Tryz.ntmps66
  go_wp2
  go_ret
  exact ⟨ret_bool HE.out.symm, Below.refl _ _⟩
set_option maxRecDepth 100000 in
set_option maxHeartbeats 1600000 in
theorem begno_3 (a : Option Addr) (n cap : Nat) (c : UInt8) (t : List UInt8) (w : World) (h : SrcAt w (.slice a n cap) n ((c :: t).map bc)) (hn : n = t.length + 1) (h1 : 224 ≤ ub c ∧ ub c < 240) (hm : 3 ≤ n) :
    Calls Tryz.prog 66 #[.slice a n cap] w fun e w' => e = .returned (.bool (begS (c :: t))) ∧ Below w.heap.size w w' := by
  have hB : BytesAt w (.slice a n cap) (c :: t) := h.row (by simpa using hn)
  have HE : Hid (begS (c :: t) = false) := Lib.hid (beg_no (by rw [many_3 h1.1 h1.2]; omega))
  have c0 : ∃ g off, a = some ⟨g, off, none⟩ ∧ w.cell? ⟨g, off, none⟩ = some (.int .u8 (ub c)) := by
    rcases hB with ⟨_, _, _, hnil⟩ | ⟨g, off, _, _, hv, _, _, hc⟩
    · simp at hnil
    · refine ⟨g, off, (Value.slice.inj hv).1, ?_⟩
      have := hc 0 (bc c) rfl
      rwa [Nat.add_zero] at this
  obtain ⟨g, off, ha, c0⟩ := c0
  have hcb := ub_bd c
  obtain ⟨x, hx⟩ : ∃ x, ub c = x := ⟨_, rfl⟩
  rw [hx] at c0 h1 hcb
  subst ha
  have hn1 : 1 ≤ n := by omega
  obtain ⟨hc1, hc2⟩ := hcb
  have hf0 : decide ((192 : Int) ≤ x) = true := decide_eq_true (by omega)
  have hf1 : decide (x < 224) = false := decide_eq_false (by omega)
  have hf2 : decide ((224 : Int) ≤ x) = true := decide_eq_true (by omega)
  have hf3 : decide (x < 240) = true := decide_eq_true (by omega)
  have hlen : decide ((3 : Int) ≤ (n : Int)) = true := decide_eq_true (by omega)
  clear hB h hn hx h1
  go_enter Tryz.func66, Tryz.ntmps66
  go_wp2
  go_ret
  exact ⟨ret_bool HE.out.symm, Below.refl _ _⟩
set_option maxRecDepth 100000 in
set_option maxHeartbeats 1600000 in
theorem begno_4 (a : Option Addr) (n cap : Nat) (c : UInt8) (t : List UInt8) (w : World) (h : SrcAt w (.slice a n cap) n ((c :: t).map bc)) (hn : n = t.length + 1) (h1 : 240 ≤ ub c ∧ ub c < 248) (hm : 4 ≤ n) :
    Calls Tryz.prog 66 #[.slice a n cap] w fun e w' => e = .returned (.bool (begS (c :: t))) ∧ Below w.heap.size w w' := by
  have hB : BytesAt w (.slice a n cap) (c :: t) := h.row (by simpa using hn)
  have HE : Hid (begS (c :: t) = false) := Lib.hid (beg_no (by rw [many_4 h1.1 h1.2]; omega))
  have c0 : ∃ g off, a = some ⟨g, off, none⟩ ∧ w.cell? ⟨g, off, none⟩ = some (.int .u8 (ub c)) := by
    rcases hB with ⟨_, _, _, hnil⟩ | ⟨g, off, _, _, hv, _, _, hc⟩
    · simp at hnil
    · refine ⟨g, off, (Value.slice.inj hv).1, ?_⟩
      have := hc 0 (bc c) rfl
      rwa [Nat.add_zero] at this
  obtain ⟨g, off, ha, c0⟩ := c0
  have hcb := ub_bd c
  obtain ⟨x, hx⟩ : ∃ x, ub c = x := ⟨_, rfl⟩
  rw [hx] at c0 h1 hcb
  subst ha
  have hn1 : 1 ≤ n := by omega
  obtain ⟨hc1, hc2⟩ := hcb
  have hf0 : decide ((192 : Int) ≤ x) = true := decide_eq_true (by omega)
  have hf1 : decide (x < 224) = false := decide_eq_false (by omega)
  have hf2 : decide ((224 : Int) ≤ x) = true := decide_eq_true (by omega)
  have hf3 : decide (x < 240) = false := decide_eq_false (by omega)
  have hf4 : decide ((240 : Int) ≤ x) = true := decide_eq_true (by omega)
  have hf5 : decide (x < 248) = true := decide_eq_true (by omega)
  have hlen : decide ((4 : Int) ≤ (n : Int)) = true := decide_eq_true (by omega)
  clear hB h hn hx h1
  go_enter Tryz.func66, Tryz.ntmps66
  go_wp2
  go_ret
  exact ⟨ret_bool HE.out.symm, Below.refl _ _⟩
theorem begins_any (a : Option Addr) (n cap : Nat) (c : UInt8) (t : List UInt8) (w : World) (h : SrcAt w (.slice a n cap) n ((c :: t).map bc)) (hn : n = t.length + 1) :
    Calls Tryz.prog 66 #[.slice a n cap] w fun e w' => e = .returned (.bool (begS (c :: t))) ∧ Below w.heap.size w w' := by
  have hf : ub c < 192 ∨ 248 ≤ ub c ∨ (192 ≤ ub c ∧ ub c < 224) ∨ (224 ≤ ub c ∧ ub c < 240) ∨ (240 ≤ ub c ∧ ub c < 248) := by omega
  rcases hf with h1 | h1 | h1 | h1 | h1
  · exact begno_lo a n cap c t w h hn h1 (Nat.zero_le _)
  · exact begno_hi a n cap c t w h hn h1 (Nat.zero_le _)
  · by_cases hm : 2 ≤ n
    · exact begno_2 a n cap c t w h hn h1 hm
    · exact begins_2 a n cap c t w h hn h1.1 h1.2 (by omega)
  · by_cases hm : 3 ≤ n
    · exact begno_3 a n cap c t w h hn h1 hm
    · exact begins_3 a n cap c t w h hn h1.1 h1.2 (by omega)
  · by_cases hm : 4 ≤ n
    · exact begno_4 a n cap c t w h hn h1 hm
    · exact begins_4 a n cap c t w h hn h1.1 h1.2 (by omega)

set_option maxHeartbeats 1600000 in
theorem rdecode_out (a : Option Addr) (l : List UInt8) (n cap : Nat) (i : Int) (w : World) (hn : n = l.length) (h : i < 0 ∨ (n : Int) ≤ i) :
    Calls Tryz.prog 59 #[.slice a n cap, .int .i64 i] w fun e w' => e = .returned (decV (decAt l i)) ∧ Below w.heap.size w w' := by
  rw [decAt_out (by omega)]
  by_cases h0 : i < 0
  · go_enter Tryz.func59, Tryz.ntmps59
    go_wp2
    go_ret3
    exact ⟨rfl, Below.refl _ _⟩
  · have h1 : (n : Int) ≤ i := by omega
    clear h
    go_enter Tryz.func59, Tryz.ntmps59
    go_wp2
    go_ret3
    exact ⟨rfl, Below.refl _ _⟩
/-- A part of a row, as a source. -/
theorem src_part {w : World} {g off c2 : Nat} {l : List UInt8} (hc : ∀ j u, (l.map bc)[j]? = some u → w.cell? ⟨g, off + j, none⟩ = some u) (k q : Nat) :
    SrcAt w (.slice (some ⟨g, off + k, none⟩) q c2) q (((l.drop k).take q).map bc) := by
  refine .inr ⟨_, _, rfl, fun j u hj => ?_⟩
  rw [Go.WideShapes.add_plain]
  show w.cell? ⟨g, off + k + j, none⟩ = some u
  rw [Nat.add_assoc]
  refine hc (k + j) u ?_
  rw [List.map_take, List.map_drop, List.getElem?_take] at hj
  split at hj
  · rw [List.getElem?_drop] at hj; exact hj
  · cases hj

set_option maxRecDepth 100000 in
set_option maxHeartbeats 6400000 in
theorem rdecode_in (g off : Nat) (l : List UInt8) (n cap k : Nat) (w : World) (hn : n = l.length) (hk : k < n) (hl : l.length ≤ 1000000) (hcap : n ≤ cap)  (hg : g < w.heap.size)
    (hc : ∀ j u, (l.map bc)[j]? = some u → w.cell? ⟨g, off + j, none⟩ = some u) :
    Calls Tryz.prog 59 #[.slice (some ⟨g, off, none⟩) n cap, .int .i64 (k : Int)] w fun e w' => e = .returned (decV (decAt l k)) ∧ Below w.heap.size w w' := by
  rw [decAt_in]
  have hkl : k < l.length := by omega
  obtain ⟨c, t, hL⟩ : ∃ c t, l.drop k = c :: t := ⟨_, _, drop_cons hkl⟩
  have hlt : t.length + 1 = n - k := by
    have := congrArg List.length hL
    rw [List.length_drop, List.length_cons] at this; omega
  have HC : Hid (∀ W, Below w.heap.size w W → ∀ j u, (l.map bc)[j]? = some u → W.cell? ⟨g, off + j, none⟩ = some u) := Lib.hid fun W hb j u hj => (hb.cell (p := ⟨g, off + j, none⟩) hg).trans (hc j u hj)
  have CS : Hid (∀ W (q : Nat), Below w.heap.size w W → 1 ≤ q → k + q ≤ n → Calls Tryz.prog 65 #[.slice (some ⟨g, off + k, none⟩) q (cap - k)] W fun e w' => e = .returned (.tuple #[.int .i32 (stdS ((l.drop k).take q)).1, .bool (stdS ((l.drop k).take q)).2]) ∧ Below W.heap.size W w') := Lib.hid fun W q hb h1 h2 => by
    have hs := src_part (c2 := cap - k) (HC.out W hb) k q
    rw [hL] at hs ⊢
    obtain ⟨p, rfl⟩ : ∃ p, q = p + 1 := ⟨q - 1, by omega⟩
    rw [List.take_succ_cons] at hs ⊢
    have hp : (t.take p).length + 1 = p + 1 := by rw [List.length_take]; omega
    rw [← hp] at hs ⊢
    exact stands_any _ c (t.take p) W hs (by rw [List.length_take]; omega)
  have CB : Hid (∀ W, Below w.heap.size w W → Calls Tryz.prog 66 #[.slice (some ⟨g, off + k, none⟩) (n - k) (cap - k)] W fun e w' => e = .returned (.bool (begS (c :: t))) ∧ Below W.heap.size W w') := Lib.hid fun W hb => by
    have hs := src_part (c2 := cap - k) (HC.out W hb) k (n - k)
    rw [hL, List.take_of_length_le (by rw [List.length_cons]; omega)] at hs
    exact begins_any _ _ _ c t W hs hlt.symm
  have HT : Hid (∀ q, q ≤ n - k → (stdS ((l.drop k).take q)).2 = true → dec (l.drop k) = ((stdS ((l.drop k).take q)).1, q, 0)) := Lib.hid fun q hq => std_take (by rw [List.length_drop]; omega)
  have HNo : Hid ((∀ q, 1 ≤ q → q ≤ 4 → q ≤ n - k → (stdS ((l.drop k).take q)).2 = false) → (dec (l.drop k)).2.2 ≠ 0) := Lib.hid fun h => std_none fun q h1 h2 h3 => h q h1 h2 (by rw [List.length_drop] at h3; omega)
  have HL := Lib.hid hL
  have hnb : n ≤ 1000000 := by omega
  clear hc hL hn hl hkl
  go_enter Tryz.func59, Tryz.ntmps59
  go_wp2
  go_loopw [7] (fun x7 wr => ∃ q : Nat, 1 ≤ q ∧ q ≤ 5 ∧ x7 = .int .i64 q ∧ Below w.heap.size w wr ∧ Hid (∀ p, 1 ≤ p → p < q → p ≤ n - k → (stdS ((l.drop k).take p)).2 = false)) (fun x7 _ => 5 - (intOf x7).toNat)
  case atStart => exact ⟨1, by omega, by omega, rfl, Below.refl _ _, Lib.hid fun p h1 h2 => by omega⟩
  case round =>
    obtain ⟨q, hq1, hq2, rfl, hB, HQ⟩ := hrel
    by_cases hlt4 : q ≤ 4 ∧ k + q ≤ n
    · obtain ⟨h4, hkq⟩ := hlt4
      have C := CS.out wr q hB hq1 hkq
      obtain ⟨y, hy⟩ : ∃ y, (stdS ((l.drop k).take q)).1 = y := ⟨_, rfl⟩
      obtain ⟨b, hb⟩ : ∃ b, (stdS ((l.drop k).take q)).2 = b := ⟨_, rfl⟩
      rw [hy, hb] at C
      have C := Lib.hid C
      have hkc : (k : Int) + (q : Int) ≤ (cap : Int) := by omega
      cases b
      · have HQ' : Hid (∀ p, 1 ≤ p → p < q + 1 → p ≤ n - k → (stdS ((l.drop k).take p)).2 = false) := Lib.hid fun p h1 h2 h3 => by
          by_cases hp : p = q
          · rw [hp]; exact hb
          · exact HQ.out p h1 (by omega) h3
        clear hy hb
        go_wp2_with (go_at_call 65; refine C.out.mono ?_; rintro e w5 ⟨rfl, hb5⟩)
        go_roundw
        case rel => exact ⟨q + 1, by omega, by omega, by go_num, hB.trans (hb5.mono hB.size), HQ'⟩
        case measure => simp [intOf]; omega
      · have HD : Hid (dec (l.drop k) = (y, q, 0)) := Lib.hid (by rw [← hy]; exact HT.out q (by omega) hb)
        clear hy hb
        go_wp2_with (go_at_call 65; refine C.out.mono ?_; rintro e w5 ⟨rfl, hb5⟩)
        go_ret3
        exact ⟨ret_dec HD.out.symm, hB.trans (hb5.mono hB.size)⟩
    · have hno : (dec (l.drop k)).2.2 ≠ 0 := HNo.out fun p h1 h2 h3 => HQ.out p h1 (by omega) h3
      have hd := dec_no hno
      obtain ⟨e, he⟩ : ∃ e, (dec (l.drop k)).2.2 = e := ⟨_, rfl⟩
      rw [he] at hd hno
      have h6 : e = 6 ∨ e = 320 := by
        have := dec_err c t
        rw [← HL.out, he] at this
        omega
      have hor : q = 5 ∨ n < k + q := by omega
      by_cases h3 : n - k < 4
      · have hbg : begS (c :: t) = decide (e = 320) := by
          have := beg_dec (c := c) (t := t) (by omega) (by rw [← HL.out, he]; exact hno)
          rw [this, ← HL.out, he]
        have C := CB.out wr hB
        rw [hbg] at C
        have HD := Lib.hid hd
        have h3' : decide ((n : Int) - (k : Int) < 4) = true := decide_eq_true (by omega)
        have hkn : k ≤ n := by omega
        clear hlt4 hno hd he hbg
        have hor2 : q = 5 ∨ (q ≤ 4 ∧ n < k + q) := by omega
        clear hor
        rcases h6 with rfl | rfl
        · rw [show decide ((6 : Int) = 320) = false by decide] at C
          have C := Lib.hid C
          rcases hor2 with hq5 | hq4
          · obtain rfl : q = 5 := hq5
            go_wp2_with (go_at_call 66; refine C.out.mono ?_; rintro e w5 ⟨rfl, hb5⟩)
            go_ret3
            exact ⟨ret_dec HD.out.symm, hB.trans (hb5.mono hB.size)⟩
          · obtain ⟨h4, hnk⟩ := hq4
            have hd4 : decide ((q : Int) ≤ 4) = true := decide_eq_true (by omega)
            have hd5 : decide ((k : Int) + (q : Int) ≤ (n : Int)) = false := decide_eq_false (by omega)
            go_wp2_with (go_at_call 66; refine C.out.mono ?_; rintro e w5 ⟨rfl, hb5⟩)
            go_ret3
            exact ⟨ret_dec HD.out.symm, hB.trans (hb5.mono hB.size)⟩
        · rw [show decide ((320 : Int) = 320) = true by decide] at C
          have C := Lib.hid C
          rcases hor2 with hq5 | hq4
          · obtain rfl : q = 5 := hq5
            go_wp2_with (go_at_call 66; refine C.out.mono ?_; rintro e w5 ⟨rfl, hb5⟩)
            go_ret3
            exact ⟨ret_dec HD.out.symm, hB.trans (hb5.mono hB.size)⟩
          · obtain ⟨h4, hnk⟩ := hq4
            have hd4 : decide ((q : Int) ≤ 4) = true := decide_eq_true (by omega)
            have hd5 : decide ((k : Int) + (q : Int) ≤ (n : Int)) = false := decide_eq_false (by omega)
            go_wp2_with (go_at_call 66; refine C.out.mono ?_; rintro e w5 ⟨rfl, hb5⟩)
            go_ret3
            exact ⟨ret_dec HD.out.symm, hB.trans (hb5.mono hB.size)⟩
      · have he6 : e = 6 := by
          rcases h6 with h | h
          · exact h
          · have := dec_more (c := c) (t := t) (by rw [← HL.out, he]; exact h); omega
        subst he6
        have hq5 : q = 5 := by omega
        have HD := Lib.hid hd
        have h3' : decide ((n : Int) - (k : Int) < 4) = false := decide_eq_false (by omega)
        clear hlt4 hno hd he h6 hor
        subst hq5
        go_wp2
        go_ret3
        exact ⟨ret_dec HD.out.symm, hB⟩
end Go.Proofs.YtdiinlmeoifgjaaGreatDoor
