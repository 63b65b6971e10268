/- The reference's Place, At and Cut. -/
import Derived.Test.YtbajikkjkiacnaaDoorPcut
import Derived.Test.YtbajikkjkiacnaaDoorPargs
import Derived.Test.YtbajikkjkiacnaaDoorPmbA
namespace Go.Proofs.YtbajikkjkiacnaaDoor
open Go.RowKit Go.PlainAid

set_option maxRecDepth 50000 in
set_option maxHeartbeats 6400000 in
theorem rPlace_at (a : Option Addr) (n c : Nat) (l : List UInt8) (i : Nat) (w : World) (h : ArgAt w (.slice a n c) (l.map bc)) (hn : n = l.length) (hl : l.length ≤ 1000000) (h0 : (chkS l).2 = 0) (hi : i ≤ n) :
    Calls Tryd.prog 34 #[.slice a n c, .int .i64 i] w fun e w' => e = .returned (plcV (placeP l i)) ∧ Below w.heap.size w w' := by
  obtain ⟨S, hS⟩ : ∃ S, stS l = S := ⟨_, rfl⟩
  obtain ⟨z, hz⟩ : ∃ z, S.length = z := ⟨_, rfl⟩
  have CS : Hid (Calls Tryd.prog 38 #[.slice a n c] w fun e w1 => ∃ x cx, e = .returned (.tuple #[.slice x z cx, .int .i64 0]) ∧ RowAt w1 (.slice x z cx) (S.map fun k : Nat => Value.int .i64 (k : Int)) ∧ Below w.heap.size w w1) := Lib.hid (by
    refine (rstarts_any _ l w h hl).mono ?_
    rintro e w1 ⟨v, h1, h2, h3⟩
    have hv : startsS l = (S, 0) := by unfold startsS; rw [if_pos h0, hS]
    rw [hv] at h1 h2
    have h4 := RowAt.own h2
    obtain ⟨x, cx, rfl⟩ := h4.slice
    rw [List.length_map, hz] at h1 h4
    exact ⟨x, cx, h1, h4, h3⟩)
  have hB0 : BytesAt w (.slice a n c) l := h.row
  have HB : Hid (∀ W, Below w.heap.size w W → BytesAt W (.slice a n c) l) := Lib.hid fun W hb => RowAt.below hB0 hb (Nat.le_refl _)
  have HNX : Hid (∀ k s s' : Nat, S[k]? = some s → S[k + 1]? = some s' → ∀ X Y, placeP l (s : Int) = (X, Y, 0) → ∃ c, l[s]? = some c ∧ s < n ∧ placeP l (s' : Int) = if (c.toNat : Int) = 10 then (X + 1, 1, 0) else (X, Y + 1, 0)) := Lib.hid fun k s s' h1 h2 X Y h3 => by
    rw [hn]; exact place_next h0 (by rw [hS]; exact h1) (by rw [hS]; exact h2) h3
  have HFST : Hid (∀ s : Nat, S[0]? = some s → placeP l (s : Int) = (1, 1, 0)) := Lib.hid fun s hs => place_first h0 (by rw [hS]; exact hs)
  have HOFF : Hid (i ∉ S → plcV (placeP l (i : Int)) = .tuple #[.int .i64 0, .int .i64 0, .int .i64 6]) := Lib.hid fun hm => by
    rw [place_off h0 (by omega) (by rw [hS]; exact hm)]; rfl
  have HLST : Hid (∀ k s : Nat, S[k]? = some s → k + 1 = z → s = n) := Lib.hid fun k s hs hk => by
    rw [← hS] at hs hz
    rw [st_length] at hz
    rw [st_get h0 (by omega), List.take_of_length_le (by omega), ← len_wid h0] at hs
    rw [hn]; exact (Option.some.inj hs).symm
  have hzb : z ≤ 1000001 := by
    rw [← hz, ← hS, st_length]
    have := runs_len_le l; omega
  have HZ := Lib.hid hz
  have hnb : n ≤ 1000000 := by omega
  have q1 : (0 : Int) ≤ (i : Int) := Int.natCast_nonneg _
  have q2 : (i : Int) ≤ (n : Int) := by omega
  have q3 : decide ((n : Int) < (i : Int)) = false := decide_eq_false (by omega)
  have q4 : decide ((i : Int) < 0) = false := decide_eq_false (by omega)
  clear h hB0 hn hl h0 hS hz hi
  go_enter Tryd.func34, Tryd.ntmps34
  go_wp2_with fail
  refine CS.out.mono ?_
  rintro e w1 ⟨xa, cx, rfl, hr1, hb1⟩
  have HR1 := Lib.hid hr1
  clear hr1 CS
  go_wp2_with fail
  clear q3 q4
  -- MARK1
  go_loopw [9, 10, 11] (fun x9 x10 x11 wr => ∃ (k : Nat) (X Y : Int), x9 = .int .i64 X ∧ x10 = .int .i64 Y ∧ x11 = .int .i64 k ∧ k ≤ z ∧ 0 ≤ X ∧ X ≤ k + 1 ∧ 0 ≤ Y ∧ Y ≤ k + 1 ∧ Hid (∀ s : Nat, S[k]? = some s → placeP l (s : Int) = (X, Y, 0)) ∧ Hid (∀ (j s : Nat), j < k → S[j]? = some s → s ≠ i) ∧ Below w1.heap.size w1 wr) (fun _ _ x11 _ => z - (intOf x11).toNat)
  case atStart => exact ⟨0, 1, 1, rfl, rfl, rfl, Nat.zero_le _, by omega, by omega, by omega, by omega, HFST, Lib.hid (fun j s h => (by omega)), Below.refl _ _⟩
  case round =>
    obtain ⟨k, X, Y, rfl, rfl, rfl, hk, b1, b2, b3, b4, HP, HN, hE⟩ := hrel
    have hB := hb1.trans (hE.mono hb1.size)
    by_cases hlt : k < z
    · obtain ⟨s, hs⟩ : ∃ s, S[k]? = some s := ⟨_, List.getElem?_eq_getElem (by rw [HZ.out]; exact hlt)⟩
      have hps := HP.out s hs
      rcases RowAt.below HR1.out hE (Nat.le_refl _) with ⟨_, _, hv, hnil⟩ | ⟨g, off, _, cc, hv, _, hg, hcl⟩
      · have := (Value.slice.inj hv).2.1; omega
      · obtain ⟨rfl, hv2, rfl⟩ := Value.slice.inj hv
        have d0 : wr.cell? ⟨g, off + k, none⟩ = some (.int .i64 (s : Int)) := hcl k _ (by rw [List.getElem?_map, hs]; rfl)
        have hk0 : (0 : Int) ≤ (k : Int) := Int.natCast_nonneg _
        have hk1 : (k : Int) < (z : Int) := by omega
        clear hcl hv hv2
        by_cases hsi : s = i
        · have HE : Hid (plcV (placeP l (i : Int)) = .tuple #[.int .i64 X, .int .i64 Y, .int .i64 0]) := Lib.hid (by rw [← hsi, hps]; rfl)
          have he : ((s : Int) == (i : Int)) = true := by rw [beq_iff_eq]; omega
          clear hsi hps hs
          go_wp2_with fail
          go_returns
          exact ⟨(congrArg Ending.returned HE.out).symm, hB⟩
        · have he : ((s : Int) == (i : Int)) = false := by rw [beq_eq_false_iff_ne]; omega
          have HN' : Hid (∀ (j s : Nat), j < k + 1 → S[j]? = some s → s ≠ i) := Lib.hid fun j t hj ht => by
            by_cases e : j = k
            · rw [e, hs] at ht; rw [← Option.some.inj ht]; exact hsi
            · exact HN.out j t (by omega) ht
          by_cases hlast : k + 1 < z
          · obtain ⟨s', hs'⟩ : ∃ s', S[k + 1]? = some s' := ⟨_, List.getElem?_eq_getElem (by rw [HZ.out]; exact hlast)⟩
            obtain ⟨ch, hch, hsn, hnx⟩ := HNX.out k s s' hs hs' X Y hps
            rcases HB.out wr hB with ⟨_, _, hv, hnil⟩ | ⟨g2, off2, _, cc2, hv, _, hg2, hcl2⟩
            · have : l = [] := List.map_eq_nil_iff.1 hnil
              rw [this] at hch; simp at hch
            · obtain ⟨rfl, hv2, rfl⟩ := Value.slice.inj hv
              have d1 : wr.cell? ⟨g2, off2 + s, none⟩ = some (.int .u8 (ch.toNat : Int)) := hcl2 s _ (by rw [List.getElem?_map, hch]; rfl)
              have hs0 : (0 : Int) ≤ (s : Int) := Int.natCast_nonneg _
              have hs1 : (s : Int) < (n : Int) := by omega
              have HS' : ∀ t : Nat, S[k + 1]? = some t → t = s' := fun t ht => by rw [hs'] at ht; exact (Option.some.inj ht).symm
              have HS2 := Lib.hid HS'
              clear hcl2 hv hv2 HS' hs hs' hps hsi hch
              by_cases h10 : (ch.toNat : Int) = 10
              · rw [if_pos h10] at hnx
                have HNXX := Lib.hid hnx
                have hc10 : ((ch.toNat : Int) == 10) = true := by rw [beq_iff_eq]; exact h10
                clear hnx h10
                go_wp2_with fail
                go_roundw
                case rel => exact ⟨k + 1, X + 1, 1, by go_num, by go_num, int_v (by omega), by omega, by omega, by omega, by omega, by omega, Lib.hid (fun t ht => by rw [HS2.out t ht]; exact HNXX.out), HN', hE⟩
                case measure => simp [intOf]; omega
              · rw [if_neg h10] at hnx
                have HNXX := Lib.hid hnx
                have hc10 : ((ch.toNat : Int) == 10) = false := by rw [beq_eq_false_iff_ne]; exact h10
                clear hnx h10
                go_wp2_with fail
                go_roundw
                case rel => exact ⟨k + 1, X, Y + 1, by go_num, by go_num, int_v (by omega), by omega, by omega, by omega, by omega, by omega, Lib.hid (fun t ht => by rw [HS2.out t ht]; exact HNXX.out), HN', hE⟩
                case measure => simp [intOf]; omega
          · have hsn : s = n := HLST.out k s hs (by omega)
            have hns : ¬ s < n := by omega
            have hns2 : decide ((s : Int) < (n : Int)) = false := decide_eq_false (by omega)
            clear hsn hs hps hsi
            go_wp2_with fail
            go_roundw
            case rel => exact ⟨k + 1, X, Y + 1, by go_num, by go_num, int_v (by omega), by omega, by omega, by omega, by omega, by omega, Lib.hid (fun t ht => by have := (List.getElem?_eq_some_iff.1 ht).1; rw [HZ.out] at this; omega), HN', hE⟩
            case measure => simp [intOf]; omega
    · obtain rfl : k = z := by omega
      have HE := Lib.hid (HOFF.out fun hm => by
        obtain ⟨j, hj⟩ := List.getElem?_of_mem hm
        exact HN.out j i (by have := (List.getElem?_eq_some_iff.1 hj).1; rw [HZ.out] at this; omega) hj rfl)
      clear HP HN HNX HFST HOFF HLST hlt
      go_wp2_with fail
      go_returns
      exact ⟨(congrArg Ending.returned HE.out).symm, hB⟩
end Go.Proofs.YtbajikkjkiacnaaDoor
