/- The reference's Same, of any two lists of nodes. -/
import Derived.Test.YtkngkajojcmmlaaDoorDh
namespace Go.Proofs.YtkngkajojcmmlaaDoor
open Go.RowKit Go.PlainAid

theorem nd_parts {x y : Nd} (h : x ≠ y) : (x.1 == y.1) = false ∨ (x.1 = y.1 ∧ (x.2.1 == y.2.1) = false) ∨ (x.1 = y.1 ∧ x.2.1 = y.2.1 ∧ (x.2.2.1 == y.2.2.1) = false) ∨ (x.1 = y.1 ∧ x.2.1 = y.2.1 ∧ x.2.2.1 = y.2.2.1 ∧ ((str x.2.2.2).toList == (str y.2.2.2).toList) = false) := by
  obtain ⟨x0, x1, x2, x3⟩ := x
  obtain ⟨y0, y1, y2, y3⟩ := y
  by_cases h0 : x0 = y0
  · by_cases h1 : x1 = y1
    · by_cases h2 : x2 = y2
      · refine .inr (.inr (.inr ⟨h0, h1, h2, ?_⟩))
        rw [beq_eq_false_iff_ne]
        intro e
        rw [ByteArray.toList_eq, ByteArray.toList_eq, str_list, str_list] at e
        exact h (by rw [h0, h1, h2, show x3 = y3 from e])
      · exact .inr (.inr (.inl ⟨h0, h1, beq_eq_false_iff_ne.2 h2⟩))
    · exact .inr (.inl ⟨h0, beq_eq_false_iff_ne.2 h1⟩)
  · exact .inl (beq_eq_false_iff_ne.2 h0)
set_option maxRecDepth 50000 in
set_option maxHeartbeats 3200000 in
theorem same4_any (v v' : Value) (l m : List Nd) (w : World) (h : NdsAt w v l) (h' : NdsAt w v' m) (hl : l.length ≤ 1000000) :
    Calls Tryd.prog 35 #[v, v'] w fun e w' => e = .returned (.bool (decide (l = m))) ∧ Below w.heap.size w w' := by
  by_cases hlen : l.length = m.length
  · obtain ⟨a, c, hv⟩ := h.slice
    obtain ⟨a', c', hv'⟩ := h'.slice
    obtain ⟨n, hn⟩ : ∃ n, l.length = n := ⟨_, rfl⟩
    rw [hn] at hv
    rw [← hlen, hn] at hv'
    subst hv hv'
    have H := Lib.hid h
    have H' := Lib.hid h'
    have HN := Lib.hid hn
    have HM : Hid (m.length = n) := Lib.hid (by omega)
    have hnb : n ≤ 1000000 := by omega
    have hne : (((n : Int)) != (n : Int)) = false := by simp
    obtain ⟨R, hR⟩ : ∃ R, decide (l = m) = R := ⟨_, rfl⟩
    have HR := Lib.hid hR
    rw [hR]
    clear h h' hn hl hlen hR
    go_enter Tryd.func35, Tryd.ntmps35
    go_wp2
    go_loopw [5] (fun i wr => ∃ k : Nat, k ≤ n ∧ i = .int .i64 k ∧ Hid (l.take k = m.take k) ∧ Below w.heap.size w wr) (fun i _ => n - (intOf i).toNat)
    case atStart => exact ⟨0, Nat.zero_le _, rfl, Lib.hid (by rw [List.take_zero, List.take_zero]), Below.refl _ _⟩
    case round =>
      obtain ⟨k, hk, rfl, HT, hB⟩ := hrel
      by_cases hlt : k < n
      · obtain ⟨x, hx⟩ : ∃ x, l[k]? = some x := ⟨_, List.getElem?_eq_getElem (by rw [HN.out]; exact hlt)⟩
        obtain ⟨y, hy⟩ : ∃ y, m[k]? = some y := ⟨_, List.getElem?_eq_getElem (by rw [HM.out]; exact hlt)⟩
        rcases H.out.below hB (Nat.le_refl _) with ⟨_, _, _, hnil⟩ | ⟨g, off, cc, hv, hg, hcl⟩
        · rw [hnil] at hx; simp at hx
        · rcases H'.out.below hB (Nat.le_refl _) with ⟨_, _, _, hnil⟩ | ⟨g', off', cc', hv', hg', hcl'⟩
          · rw [hnil] at hy; simp at hy
          · obtain ⟨rfl, hv2, rfl⟩ := Value.slice.inj hv
            obtain ⟨rfl, hv3, rfl⟩ := Value.slice.inj hv'
            obtain ⟨p0, p1, p2, p3⟩ := dcs_at l hx
            obtain ⟨q0, q1, q2, q3⟩ := dcs_at m hy
            have d0 := hcl _ _ p0
            have d1 := hcl _ _ p1
            have d2 := hcl _ _ p2
            have d3 := hcl _ _ p3
            have e0 := hcl' _ _ q0
            have e1 := hcl' _ _ q1
            have e2 := hcl' _ _ q2
            have e3 := hcl' _ _ q3
            have hkm : (k : Int) < (n : Int) := by omega
            have hk0 : (0 : Int) ≤ (k : Int) := Int.natCast_nonneg _
            by_cases hxy : x = y
            · have HT2 : Hid (l.take (k + 1) = m.take (k + 1)) := Lib.hid (by rw [List.take_add_one, List.take_add_one, hx, hy, HT.out, hxy])
              subst hxy
              obtain ⟨x0, x1, x2, x3⟩ := x
              obtain ⟨z, hz⟩ : ∃ z, str x3 = z := ⟨_, rfl⟩
              simp only [hz, ← Nat.add_assoc] at d0 d1 d2 d3 e0 e1 e2 e3
              clear hcl hcl' hv hv' hv2 hv3 hx hy p0 p1 p2 p3 q0 q1 q2 q3 hz
              go_wp2
              go_quiet (fail)
              go_wp2
              exact ⟨⟨k + 1, by omega, by go_num, HT2, ⟨hB.os, hB.tape, hB.output, hB.size, hB.block⟩⟩, by simp [intOf]; omega⟩
            · have HF : Hid (R = false) := Lib.hid (by
                rw [← HR.out]
                refine decide_eq_false fun e => hxy ?_
                rw [e, hy] at hx
                exact (Option.some.inj hx).symm)
              have hp := nd_parts hxy
              obtain ⟨x0, x1, x2, x3⟩ := x
              obtain ⟨y0, y1, y2, y3⟩ := y
              simp only at hp
              obtain ⟨z, hz⟩ : ∃ z, str x3 = z := ⟨_, rfl⟩
              obtain ⟨u, hu⟩ : ∃ u, str y3 = u := ⟨_, rfl⟩
              rw [hz, hu] at hp
              simp only [hz, hu, ← Nat.add_assoc] at d0 d1 d2 d3 e0 e1 e2 e3
              clear hcl hcl' hv hv' hv2 hv3 hx hy p0 p1 p2 p3 q0 q1 q2 q3 hz hu hxy
              rcases hp with h0 | ⟨rfl, h1⟩ | ⟨rfl, rfl, h2⟩ | ⟨rfl, rfl, rfl, h3⟩ <;> (
                go_wp2
                go_quiet (fail)
                -- MARK1
                go_wp2
                go_ret
                exact ⟨by rw [HF.out]; rfl, ⟨hB.os, hB.tape, hB.output, hB.size, hB.block⟩⟩)
      · obtain rfl : k = n := by omega
        have HF : Hid (R = true) := Lib.hid (by
          rw [← HR.out]
          have := HT.out
          rw [List.take_of_length_le (Nat.le_of_eq HN.out), List.take_of_length_le (Nat.le_of_eq HM.out)] at this
          exact decide_eq_true this)
        go_wp2
        go_ret
        exact ⟨by rw [HF.out]; rfl, hB⟩
  · obtain ⟨a, c, rfl⟩ := h.slice
    obtain ⟨a', c', rfl⟩ := h'.slice
    have HF : Hid (decide (l = m) = false) := Lib.hid (decide_eq_false fun e => hlen (by rw [e]))
    have hne : ((l.length : Int) != (m.length : Int)) = true := bne_iff_ne.2 (by omega)
    rw [HF.out]
    clear h h' hlen HF
    go_enter Tryd.func35, Tryd.ntmps35
    go_wp2
    go_ret
    exact ⟨rfl, Below.refl _ _⟩
end Go.Proofs.YtkngkajojcmmlaaDoor
