/- LexerLexes: the reference's spaces. -/
import Derived.Test.YtemoeohchhpilaaDoorLxa
import Derived.Deep.DeepCutAuto
namespace Go.Proofs.YtemoeohchhpilaaDoor
open Go.RowKit Go.PlainAid

set_option maxRecDepth 50000 in
set_option maxHeartbeats 6400000 in
theorem rspaces_any (v : Value) (l : List UInt8) (k : Nat) (w : World) (h : ArgAt w v (l.map bc)) (hl : l.length ≤ 1000000) (hk : k ≤ l.length) :
    Calls Tryd.prog 18 #[v, .int .i64 (k : Int)] w fun e w' => e = .returned (.int .i64 ((k + spN (l.drop k) : Nat) : Int)) ∧ Below w.heap.size w w' := by
  have CC := Lib.hid (fun (m : Nat) W (hW : Below w.heap.size w W) => rclass_at v l m W (h.below hW (Nat.le_refl _)) hl)
  have hr := h.row
  obtain ⟨a, n, c, rfl, hn, hx1, _⟩ := h
  rw [List.length_map] at hn
  have HCell : Hid (∀ (j : Nat) (u : UInt8), l[j]? = some u → ∃ g off, a = some ⟨g, off, none⟩ ∧ ∀ W, Below w.heap.size w W → W.cell? ⟨g, off + j, none⟩ = some (.int .u8 (u.toNat : Int))) := Lib.hid fun j u hj => by
    rcases hr with ⟨a', c', e, hnil⟩ | ⟨g, off, n', cap, e, hn', hg, hcl⟩
    · have : l = [] := List.map_eq_nil_iff.1 hnil
      rw [this] at hj; cases hj
    · obtain ⟨rfl, _, _⟩ := Value.slice.inj e
      refine ⟨g, off, rfl, fun W hW => (hW.cell (p := ⟨g, off + j, none⟩) hg).trans (hcl j (bc u) ?_)⟩
      rw [List.getElem?_map, hj]; rfl
  have HN := Lib.hid hn
  rw [← hn] at hk hl
  clear hn hx1 hr
  go_enter Tryd.func18, Tryd.ntmps18
  go_wp2_with fail
  go_loopw [1] (fun x1 wr => ∃ m : Nat, x1 = .int .i64 (m : Int) ∧ m ≤ n ∧ Hid (k + spN (l.drop k) = m + spN (l.drop m)) ∧ Below w.heap.size w wr) (fun x1 _ => n - (intOf x1).toNat)
  case atStart => exact ⟨k, rfl, hk, Lib.hid rfl, Below.refl _ _⟩
  case round =>
    obtain ⟨m, rfl, hm, HS, hb⟩ := hrel
    by_cases hlt : m < n
    · have C := Lib.hid (CC.out m wr hb)
      have HNE : Hid (l.drop m ≠ []) := Lib.hid (drop_ne (by rw [← HN.out]; exact hlt))
      obtain ⟨cl, hcl⟩ : ∃ cl, clsL (l.drop m) = cl := ⟨_, rfl⟩
      obtain ⟨wd, hwd⟩ : ∃ wd, (dec (l.drop m)).2.1 = wd := ⟨_, rfl⟩
      rw [hcl, hwd] at C
      have HCL := Lib.hid hcl
      have HWD := Lib.hid hwd
      clear hcl hwd
      by_cases h1 : cl = 1
      · subst h1
        obtain ⟨g0, g1⟩ := spL_space (L := l.drop m) HCL.out
        have g2 := dec_wd g0
        rw [HWD.out, List.length_drop, ← HN.out] at g2
        obtain ⟨g2, g3, _⟩ := g2
        have HS2 : Hid (k + spN (l.drop k) = (m + wd) + spN (l.drop (m + wd))) := Lib.hid (by rw [HS.out, g1, HWD.out, List.drop_drop]; omega)
        clear g0 g1
        go_wp2_with fail
        refine C.out.mono ?_
        rintro e w1 ⟨rfl, hb1⟩
        go_wp2_with fail
        go_roundw
        case rel => exact ⟨m + wd, by go_num, by omega, HS2, hb.trans (hb1.mono hb.size)⟩
        case measure => simp [intOf]; omega
      have e1 : ((cl : Int) == 1) = false := beq_eq_false_iff_ne.2 h1
      by_cases h6 : cl = 6
      · subst h6
        obtain ⟨⟨t, ht⟩, g1⟩ := spL_semi (L := l.drop m) HCL.out
        have h59 : l[m]? = some 59 := by
          have := congrArg List.head? ht
          rw [List.head?_drop] at this; exact this
        have H59 := Lib.hid h59
        have HS2 : Hid (k + spN (l.drop k) = m + lsN (l.drop m)) := Lib.hid (by rw [HS.out, g1])
        clear ht g1 h59
        go_wp2_with fail
        refine C.out.mono ?_
        rintro e w1 ⟨rfl, hb1⟩
        have hb1w : Below w.heap.size w w1 := hb.trans (hb1.mono hb.size)
        have HB1 := Lib.hid hb1w
        go_wp2_with fail
        -- MARK1
        rename_i wro _
        go_loopw [1] (fun x1 wr => ∃ q : Nat, x1 = .int .i64 (q : Int) ∧ m ≤ q ∧ q ≤ n ∧ Hid (k + spN (l.drop k) = q + lsN (l.drop q)) ∧ Below w.heap.size w wr) (fun x1 _ => n - (intOf x1).toNat)
        case atStart => exact ⟨m, rfl, Nat.le_refl _, hm, HS2, HB1.out⟩
        case round =>
          obtain ⟨q, rfl, hmq, hq, HQ, hbq⟩ := hrel
          have HBq := Lib.hid hbq
          have hq0 : (0 : Int) ≤ (q : Int) := Int.natCast_nonneg _
          by_cases hlq : q < n
          · obtain ⟨u, hu⟩ : ∃ u, l[q]? = some u := ⟨_, List.getElem?_eq_getElem (by rw [← HN.out]; exact hlq)⟩
            obtain ⟨g, off, rfl, hcell⟩ := HCell.out q u hu
            have c0 := hcell wr hbq
            have hdr : l.drop q = u :: l.drop (q + 1) := by
              obtain ⟨hk', e⟩ := List.getElem?_eq_some_iff.1 hu
              rw [List.drop_eq_getElem_cons hk', e]
            have hlq' : (q : Int) < (n : Int) := by omega
            have HD := Lib.hid hdr
            have HU := Lib.hid hu
            clear hcell hdr hu
            by_cases h10 : u = 10
            · subst h10
              have hmq2 : m < q := by
                rcases Nat.lt_or_ge m q with h | h
                · exact h
                · obtain rfl : m = q := by omega
                  have := H59.out; rw [HU.out] at this; cases this
              have HV : Hid (k + spN (l.drop k) = q + spN (l.drop q)) := Lib.hid (by rw [HQ.out, HD.out, lsN_10])
              have c1 : wr.cell? ⟨g, off + q, none⟩ = some (.int .u8 10) := c0
              clear c0
              go_wp2_with fail
              -- MARK3
              go_roundw
              case rel => exact ⟨q, rfl, hq, HV, HBq.out⟩
              case measure => simp [intOf]; omega
            have e10 : (((u.toNat : Int)) != 10) = true := bne_iff_ne.2 (fun e => h10 (UInt8.toNat_inj.1 (by show u.toNat = 10; omega)))
            by_cases h128 : 128 ≤ ub u
            · have d128 : decide ((128 : Int) ≤ (u.toNat : Int)) = true := decide_eq_true (by unfold ub at h128; omega)
              have C2 := Lib.hid (CC.out q wr hbq)
              obtain ⟨wd2, hwd2⟩ : ∃ wd, (dec (l.drop q)).2.1 = wd := ⟨_, rfl⟩
              obtain ⟨cl2, hcl2⟩ : ∃ cl, clsL (l.drop q) = cl := ⟨_, rfl⟩
              rw [hwd2, hcl2] at C2
              by_cases h0 : (dec (l.drop q)).2.2 = 0
              · have g2 := dec_wd h0
                rw [hwd2, List.length_drop, ← HN.out] at g2
                obtain ⟨g2, g3, _⟩ := g2
                have e0 : ((wd2 : Int) == 0) = false := beq_eq_false_iff_ne.2 (by omega)
                have HQ2 : Hid (k + spN (l.drop k) = (q + wd2) + lsN (l.drop (q + wd2))) := Lib.hid (by
                  have h10' := dec_hi (c := u) (t := l.drop (q + 1)) h128 (by rw [← HD.out]; exact h0)
                  rw [HQ.out, lsN_hi h0 (by rw [HD.out]; exact h10'), hwd2, List.drop_drop]; omega)
                clear h0 hwd2 hcl2 h128
                go_wp2_with fail
                refine C2.out.mono ?_
                rintro e w2 ⟨rfl, hb2⟩
                go_wp2_with fail
                -- MARK4
                go_roundw
                case rel => exact ⟨q + wd2, by go_num, by omega, by omega, HQ2, HBq.out.trans (hb2.mono HBq.out.size)⟩
                case measure => simp [intOf]; omega
              · have e0 : wd2 = 0 := by rw [← hwd2]; exact wd_no h0
                subst e0
                have HV : Hid (k + spN (l.drop k) = q) := Lib.hid (by rw [HQ.out, lsN_bad h0]; rfl)
                clear h0 hwd2 hcl2 h128
                go_wp2_with fail
                refine C2.out.mono ?_
                rintro e w2 ⟨rfl, hb2⟩
                go_wp2_with fail
                -- MARK5
                go_ret
                exact ⟨by rw [HV.out]; rfl, HBq.out.trans (hb2.mono HBq.out.size)⟩
            · have d128 : decide ((128 : Int) ≤ (u.toNat : Int)) = false := decide_eq_false (by unfold ub at h128; omega)
              have HQ2 : Hid (k + spN (l.drop k) = (q + 1) + lsN (l.drop (q + 1))) := Lib.hid (by rw [HQ.out, HD.out, lsN_lo (by omega) h10]; omega)
              clear h128
              go_wp2_with fail
              -- MARK6
              go_roundw
              case rel => exact ⟨q + 1, by go_num, by omega, by omega, HQ2, HBq.out⟩
              case measure => simp [intOf]; omega
          · obtain rfl : q = n := by omega
            have HV : Hid (k + spN (l.drop k) = q + spN (l.drop q)) := Lib.hid (by
              rw [HQ.out, List.drop_of_length_le (Nat.le_of_eq HN.out.symm)]; rfl)
            go_wp2_with fail
            -- MARK7
            go_roundw
            case rel => exact ⟨q, rfl, Nat.le_refl _, HV, HBq.out⟩
            case measure => simp [intOf]; omega
      · have e6 : ((cl : Int) != 6) = true := bne_iff_ne.2 h6
        have HV : Hid (k + spN (l.drop k) = m) := Lib.hid (by rw [HS.out, spL_stop (by rw [HCL.out]; exact h1) (by rw [HCL.out]; exact h6)]; rfl)
        clear h1 h6
        go_wp2_with fail
        refine C.out.mono ?_
        rintro e w1 ⟨rfl, hb1⟩
        go_wp2_with fail
        go_ret
        exact ⟨by rw [HV.out]; rfl, hb.trans (hb1.mono hb.size)⟩
    · obtain rfl : m = n := by omega
      have HV : Hid (k + spN (l.drop k) = m) := Lib.hid (by rw [HS.out, List.drop_of_length_le (Nat.le_of_eq HN.out.symm)]; rfl)
      go_wp2_with fail
      go_ret
      exact ⟨by rw [HV.out]; rfl, hb⟩
-- MARK9
end Go.Proofs.YtemoeohchhpilaaDoor
