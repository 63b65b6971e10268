/- The law SpansEdits: what is not looked at; all together. -/
import Derived.Test.YtbajikkjkiacnaaDoorPlawE
import Derived.Test.YtbajikkjkiacnaaDoorPtwo
namespace Go.Proofs.YtbajikkjkiacnaaDoor
open Go.RowKit Go.PlainAid

set_option maxRecDepth 100000 in
set_option maxHeartbeats 12800000 in
theorem edE_out (a : Option Addr) (n c : Nat) (ps : ByteArray) (sa sb ca cb : Int) (w : World) (T : PTabs w) (hx : 100 < n ∨ 50 < ps.size ∨ checkS n (sa, sb) ≠ 0 ∨ checkS n (ca, cb) ≠ 0 ∨ sa = sb) :
    Calls Tryd.prog 8 #[.slice a n c, .string ps, .agg #[.int .i64 sa, .int .i64 sb, .int .i64 ca, .int .i64 cb]] w fun e w' => e = .returned (.bool true) ∧ Below w.heap.size w w' := by
  have CA : Hid (∀ W, Below w.heap.size w W → Calls Tryd.prog 12 #[] W fun e w' => e = .returned (.bool true) ∧ Below W.heap.size W w') := Lib.hid fun W hb => awake_any W (T.below hb)
  obtain ⟨x1, hx1⟩ : ∃ x1, checkS n (sa, sb) = x1 := ⟨_, rfl⟩
  obtain ⟨x2, hx2⟩ : ∃ x2, checkS n (ca, cb) = x2 := ⟨_, rfl⟩
  have K1 : Hid (∀ W, Calls Tryd.prog 21 #[.int .i64 (n : Int), .agg #[.int .i64 sa, .int .i64 sb]] W fun e w' => e = .returned (.int .i64 x1) ∧ Below W.heap.size W w') := Lib.hid fun W => by
    have := check_spans n sa sb W; rw [hx1] at this; exact this
  have K2 : Hid (∀ W, Calls Tryd.prog 21 #[.int .i64 (n : Int), .agg #[.int .i64 ca, .int .i64 cb]] W fun e w' => e = .returned (.int .i64 x2) ∧ Below W.heap.size W w') := Lib.hid fun W => by
    have := check_spans n ca cb W; rw [hx2] at this; exact this
  rw [hx1, hx2] at hx
  have HXX := Lib.hid hx
  obtain ⟨W0, hW0⟩ : ∃ W0, W0 = w.alloc (.cells #[.int .i64 sa, .int .i64 sb, .int .i64 ca, .int .i64 cb] 59) := ⟨_, rfl⟩
  have hw0 : Below w.heap.size w W0 := by subst hW0; exact below_a1 _ _
  obtain ⟨f0, f1, f2, f3⟩ := four_facts (show W0.heap[w.heap.size]? = some (.cells #[.int .i64 sa, .int .i64 sb, .int .i64 ca, .int .i64 cb] 59 (0, 0)) by subst hW0; exact four_box _ _ _ _ _ _)
  have hs0 : w.heap.size < W0.heap.size := by subst hW0; simp only [World.size_alloc]; omega
  clear T hx hx1 hx2
  go_enter Tryd.func8, Tryd.ntmps8
  go_upto_region 1 with (fail)
  rw [← hW0]
  clear hW0
  go_cut [7, 8] (fun s7 s8 wx => ∃ p7 p8, s7 = .pointer (some ⟨p7, 0, none⟩) ∧ s8 = .pointer (some ⟨p8, 0, none⟩) ∧ wx.heap[p7]? = some (.cells #[.int .i64 sa, .int .i64 sb] 25 (0, 0)) ∧ wx.heap[p8]? = some (.cells #[.int .i64 ca, .int .i64 cb] 25 (0, 0)) ∧ Below w.heap.size w wx)
  case first =>
    go_region
    all_goals go_wp2
    all_goals go_meet
    all_goals refine ⟨_, _, rfl, rfl, ?_, ?_, ?_⟩
    all_goals first
      | exact bothA _ _ _ _
      | exact bothB _ _ _ _
      | exact bothC hw0 _ _
  case rest =>
    obtain ⟨p7, p8, rfl, rfl, ha, hb2, hBc⟩ := hcut
    clear f0 f1 f2 f3 hw0 hs0
    have hla := (Array.getElem?_eq_some_iff.1 ha).1
    have hlb := (Array.getElem?_eq_some_iff.1 hb2).1
    have HX : Hid (∀ W, Below wc.heap.size wc W → W.cell? ⟨p7, 0, none⟩ = some (.int .i64 sa) ∧ W.cell? ⟨p7, 1, none⟩ = some (.int .i64 sb) ∧ W.cell? ⟨p8, 0, none⟩ = some (.int .i64 ca) ∧ W.cell? ⟨p8, 1, none⟩ = some (.int .i64 cb)) := Lib.hid fun W hW => by
      obtain ⟨a0, a1, _, _⟩ := box_facts ((hW.block _ hla).trans ha)
      obtain ⟨b0, b1, _, _⟩ := box_facts ((hW.block _ hlb).trans hb2)
      exact ⟨a0, a1, b0, b1⟩
    clear ha hb2 hla hlb
    have hC := Below.refl wc.heap.size wc
    obtain ⟨a0, a1, b0, b1⟩ := HX.out _ hC
    by_cases d1 : 100 < n
    · have e1 : decide ((100 : Int) < (n : Int)) = true := decide_eq_true (by omega)
      go_wp2_with (go_at_call 12; refine (CA.out _ hBc).mono ?_; rintro e w8 ⟨rfl, hb8⟩)
      go_ret
      exact ⟨rfl, hBc.trans (hb8.mono hBc.size)⟩
    · have e1 : decide ((100 : Int) < (n : Int)) = false := decide_eq_false (by omega)
      by_cases d2 : 50 < ps.size
      · have e2 : decide ((50 : Int) < (ps.size : Int)) = true := decide_eq_true (by omega)
        go_wp2_with (go_at_call 12; refine (CA.out _ hBc).mono ?_; rintro e w8 ⟨rfl, hb8⟩)
        go_ret
        exact ⟨rfl, hBc.trans (hb8.mono hBc.size)⟩
      · have e2 : decide ((50 : Int) < (ps.size : Int)) = false := decide_eq_false (by omega)
        clear d2 d1
        go_wp2_with fail
        refine (K1.out _).mono ?_
        rintro e w1 ⟨rfl, hb1⟩
        have hC1 := hC.trans (hb1.mono hC.size)
        have hB1 := hBc.trans (hC1.mono hBc.size)
        obtain ⟨a0, a1, b0, b1⟩ := HX.out _ hC1
        by_cases d3 : x1 = 0
        · subst d3
          go_wp2_with fail
          refine (K2.out _).mono ?_
          rintro e w2 ⟨rfl, hb2⟩
          have hC2 := hC1.trans (hb2.mono hC1.size)
          have hB2 := hBc.trans (hC2.mono hBc.size)
          obtain ⟨a0, a1, b0, b1⟩ := HX.out _ hC2
          by_cases d4 : x2 = 0
          · subst d4
            have d5 : (sa == sb) = true := by
              rw [beq_iff_eq]
              have h1 : decide ((100 : Int) < (n : Int)) = false := e1
              have h2 : decide ((50 : Int) < (ps.size : Int)) = false := e2
              rw [decide_eq_false_iff_not] at h1 h2
              rcases HXX.out with h | h | h | h | h
              · omega
              · omega
              · exact absurd rfl h
              · exact absurd rfl h
              · exact h
            go_wp2_with (go_at_call 12; refine (CA.out _ hB2).mono ?_; rintro e w8 ⟨rfl, hb8⟩)
            go_ret
            exact ⟨rfl, hB2.trans (hb8.mono hB2.size)⟩
          · have d5 : (x2 != 0) = true := by rw [bne_iff_ne]; exact d4
            clear d4
            go_wp2_with (go_at_call 12; refine (CA.out _ hB2).mono ?_; rintro e w8 ⟨rfl, hb8⟩)
            go_ret
            exact ⟨rfl, hB2.trans (hb8.mono hB2.size)⟩
        · have d5 : (x1 != 0) = true := by rw [bne_iff_ne]; exact d3
          clear d3
          go_wp2_with (go_at_call 12; refine (CA.out _ hB1).mono ?_; rintro e w8 ⟨rfl, hb8⟩)
          go_ret
          exact ⟨rfl, hB1.trans (hb8.mono hB1.size)⟩

theorem checkS_ok {n : Nat} {p q : Int} (h : checkS n (p, q) = 0) : ∃ a b : Nat, p = (a : Int) ∧ q = (b : Int) ∧ a ≤ b ∧ b ≤ n := by
  unfold checkS isS at h
  simp only at h
  by_cases h1 : 0 ≤ p ∧ p ≤ q
  · rw [decide_eq_true h1, if_neg (by simp)] at h
    by_cases h2 : (n : Int) < q
    · rw [if_pos h2] at h; omega
    · exact ⟨p.toNat, q.toNat, by omega, by omega, by omega, by omega⟩
  · rw [decide_eq_false h1, if_pos rfl] at h; omega

theorem lawE_any (v : Value) (l : List UInt8) (ps : ByteArray) (x : Sp × Sp) (w : World) (T : PTabs w) (h : ByArg w v l) :
    Calls Tryd.prog 8 #[v, .string ps, .agg #[.int .i64 x.1.1, .int .i64 x.1.2, .int .i64 x.2.1, .int .i64 x.2.2]] w fun e w' => e = .returned (.bool true) ∧ Below w.heap.size w w' := by
  obtain ⟨a, n, c, rfl, hn, hc, h⟩ := h
  obtain ⟨⟨sa, sb⟩, ca, cb⟩ := x
  show Calls Tryd.prog 8 #[.slice a n c, .string ps, .agg #[.int .i64 sa, .int .i64 sb, .int .i64 ca, .int .i64 cb]] w _
  by_cases hx : 100 < n ∨ 50 < ps.size ∨ checkS n (sa, sb) ≠ 0 ∨ checkS n (ca, cb) ≠ 0 ∨ sa = sb
  · exact edE_out a n c ps sa sb ca cb w T hx
  · have h1 : n ≤ 100 := Classical.byContradiction fun e => hx (.inl (by omega))
    have h2 : ps.size ≤ 50 := Classical.byContradiction fun e => hx (.inr (.inl (by omega)))
    have h3 : checkS n (sa, sb) = 0 := Classical.byContradiction fun e => hx (.inr (.inr (.inl e)))
    have h4 : checkS n (ca, cb) = 0 := Classical.byContradiction fun e => hx (.inr (.inr (.inr (.inl e))))
    have h5 : ¬ sa = sb := fun e => hx (.inr (.inr (.inr (.inr e))))
    obtain ⟨p, q, rfl, rfl, s1, s2⟩ := checkS_ok h3
    obtain ⟨r, s, rfl, rfl, c1, c2⟩ := checkS_ok h4
    have s3 : p < q := by omega
    have hpl : ps.data.toList.length = ps.size := Array.length_toList
    rcases h with ⟨a', c', e, hnil⟩ | ⟨g, off, n', cap, e, hn', hg, hcl⟩
    · have : n = 0 := (Value.slice.inj e).2.1
      omega
    · obtain ⟨rfl, rfl, rfl⟩ := Value.slice.inj e
      have hB : BytesAt w (.slice (some ⟨g, off, none⟩) n c) l := .inr ⟨g, off, n, c, rfl, hn', hg, hcl⟩
      have hel := editL_len (b := l) (p := ps.data.toList) c1 (by omega)
      rcases shift_edit (d := ps.size) s3 s2 c1 c2 h1 h2 with ⟨hS, h6, h7⟩ | ⟨hS, h6, h7, h8⟩ | ⟨hS, h6, h7, h8⟩ | ⟨hS, h6, h6', h7, h8⟩
      · exact edE_go g off n c l ps p q r s 0 0 4 _ _ w T hB hn hc h1 h2 s3 s2 c1 c2 hS rfl rfl (Nat.le_refl _) (Nat.zero_le _) (.inl ⟨rfl, h6, h7⟩)
      · exact edE_go g off n c l ps p q r s p q 0 _ _ w T hB hn hc h1 h2 s3 s2 c1 c2 hS h7 h8 (by omega) (by omega) (.inr (.inl ⟨rfl, .inr rfl, edit_before c1 (by omega) (by omega) h6⟩))
      · refine edE_go g off n c l ps p q r s _ _ 0 _ _ w T hB hn hc h1 h2 s3 s2 c1 c2 hS h7 h8 (by omega) (by omega) (.inr (.inl ⟨rfl, .inl rfl, ?_⟩))
        have := edit_behind (b := l) (p := ps.data.toList) c1 (sb := q) (sa := p) (by omega) (by omega) h6
        rw [hpl] at this; exact this
      · refine edE_go g off n c l ps p q r s _ _ 0 _ _ w T hB hn hc h1 h2 s3 s2 c1 c2 hS h7 h8 (by omega) (by omega) (.inr (.inr ⟨rfl, rfl, rfl, h6, h6', ?_⟩))
        have := edit_in (b := l) (p := ps.data.toList) c1 (sb := q) (sa := p) (by omega) h6 h6'
        rw [hpl] at this; exact this
end Go.Proofs.YtbajikkjkiacnaaDoor
