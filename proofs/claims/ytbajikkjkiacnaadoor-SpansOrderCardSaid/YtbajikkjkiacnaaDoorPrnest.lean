/- Layer 3: the reference's Nest. -/
import Derived.Test.YtbajikkjkiacnaaDoorPlawN
import Derived.Deep.AppendLies
namespace Go.Proofs.YtbajikkjkiacnaaDoor
open Go.RowKit Go.PlainAid

set_option maxRecDepth 50000 in
set_option maxHeartbeats 6400000 in
theorem rNest_any (v : Value) (l : List Sp) (w : World) (h : SpsAt w v l) (hl : l.length ≤ 1000000) :
    Calls Tryd.prog 26 #[v] w (NeV l w) := by
  obtain ⟨a, c, rfl⟩ := h.slice
  obtain ⟨n, hn⟩ : ∃ n, n = l.length := ⟨_, rfl⟩
  rw [← hn] at h ⊢
  by_cases h1 : 2000 < n
  · have HE : Hid (nestS l = ([], 0, 3)) := Lib.hid (by unfold nestS; rw [if_pos (by omega)])
    have hd : decide ((2000 : Int) < (n : Int)) = true := decide_eq_true (by omega)
    clear h hn hl h1
    go_enter Tryd.func26, Tryd.ntmps26
    go_wp2
    go_returns
    exact ne_err HE.out (Below.refl _ _)
  · have hd : decide ((2000 : Int) < (n : Int)) = false := decide_eq_false (by omega)
    have H := Lib.hid h
    have HN := Lib.hid hn
    have hnb : n ≤ 2000 := by omega
    obtain ⟨i0, hi, hj0, hj1, hj2⟩ := info_parts2 infoSt
    clear h hn hl h1
    go_enter Tryd.func26, Tryd.ntmps26
    go_wp2
    go_loopw [5] (fun x5 wr => ∃ k : Nat, x5 = .int .i64 k ∧ k ≤ n ∧ Hid (∀ (j : Nat) s, j < k → l[j]? = some s → okS s = true) ∧ Below w.heap.size w wr) (fun x5 _ => n - (intOf x5).toNat)
    case atStart => exact ⟨0, rfl, Nat.zero_le _, Lib.hid (fun j s h => by omega), Below.refl _ _⟩
    case round =>
      obtain ⟨k, rfl, hk, hno, hB⟩ := hrel
      by_cases hlt : k < n
      · obtain ⟨s, hs⟩ : ∃ s, l[k]? = some s := ⟨_, List.getElem?_eq_getElem (by rw [← HN.out]; exact hlt)⟩
        obtain ⟨ka, kb⟩ := s
        rcases H.out.below hB (Nat.le_refl _) with ⟨_, _, _, hnil⟩ | ⟨g, off, cc, hv, hg, hcl⟩
        · rw [hnil] at hs; simp at hs
        · obtain ⟨rfl, hv2, rfl⟩ := Value.slice.inj hv
          have d0 : wr.cell? ⟨g, off + k * 2, none⟩ = some (.int .i64 ka) := hcl _ _ (scs_at l hs).1
          have d1 : wr.cell? ⟨g, off + k * 2 + 1, none⟩ = some (.int .i64 kb) := hcl _ _ (scs_at l hs).2
          have HS := Lib.hid hs
          have hk0 : (0 : Int) ≤ (k : Int) := Int.natCast_nonneg _
          have hk1 : (k : Int) < (n : Int) := by omega
          clear hcl hv hv2 hs
          cases hok : okS (ka, kb)
          · have HE : Hid (nestS l = ([], (k : Int), 6)) := Lib.hid (by
              have := badS_at hno.out HS.out hok
              unfold nestS; rw [if_neg (by rw [← HN.out]; omega), if_pos (by omega), this])
            go_wp2_with (go_at_call 42; refine (ris_any _ _ _).mono ?_; rintro e w1 ⟨rfl, hb1⟩; rw [hok])
            go_returns
            exact ne_err HE.out (hB.trans (hb1.mono hB.size))
          · have HN' : Hid (∀ (j : Nat) s, j < k + 1 → l[j]? = some s → okS s = true) := Lib.hid (fun j s h1 h2 => by
              by_cases e : j = k
              · rw [e, HS.out] at h2; rw [← Option.some.inj h2]; exact hok
              · exact hno.out j s (by omega) h2)
            go_wp2_with (go_at_call 42; refine (ris_any _ _ _).mono ?_; rintro e w1 ⟨rfl, hb1⟩; rw [hok])
            go_roundw
            case rel => exact ⟨k + 1, by go_num, by omega, HN', hB.trans (hb1.mono hB.size)⟩
            case measure => simp [intOf]; omega
      · obtain rfl : k = n := by omega
        have HBd : Hid (badS l < 0) := Lib.hid (by rw [badS_no (fun j s h => hno.out j s (by rw [HN.out]; exact (List.getElem?_eq_some_iff.1 h).1) h)]; decide)
        clear hno
        obtain ⟨n, hkn⟩ : ∃ n, n = k := ⟨_, rfl⟩
        subst hkn
        go_wp2
        go_loopw [6, 7] (fun x6 x7 wr => ∃ k : Nat, x7 = .int .i64 k ∧ k ≤ n ∧ Hid (∀ j, j < k → rowOk l j = true) ∧ Hid (wr.ownsRow w.heap.size 3 1 x6 k ((parsS l k).map (Value.int .i64))) ∧ Below w.heap.size w wr) (fun _ x7 _ => n - (intOf x7).toNat)
        case atStart => exact ⟨0, rfl, Nat.zero_le _, Lib.hid (fun j h => by omega), Lib.hid ⟨rfl, .inl ⟨rfl, rfl⟩⟩, hB⟩
        case round =>
          obtain ⟨k, rfl, hk, HRo, HO, hBr⟩ := hrel
          obtain ⟨wo, hwo⟩ : ∃ x, x = wr := ⟨_, rfl⟩
          subst hwo
          by_cases hlt : k < n
          · obtain ⟨s, hs⟩ : ∃ s, l[k]? = some s := ⟨_, List.getElem?_eq_getElem (by rw [← HN.out]; exact hlt)⟩
            obtain ⟨ka, kb⟩ := s
            rcases H.out.below hBr (Nat.le_refl _) with ⟨_, _, _, hnil⟩ | ⟨g, off, cc, hv, hg, hcl⟩
            · rw [hnil] at hs; simp at hs
            · obtain ⟨rfl, hv2, rfl⟩ := Value.slice.inj hv
              have HCL := Lib.hid hcl
              have HK0 := Lib.hid (scs_at l hs)
              have HKg : Hid (gs l k = (ka, kb)) := Lib.hid (gs_at hs)
              have hk0 : (0 : Int) ≤ (k : Int) := Int.natCast_nonneg _
              have hk1 : (k : Int) < (n : Int) := by omega
              clear hcl hv hv2 hs
              go_wp2
              go_loopw [8, 9] (fun x8 x9 wr => ∃ (i : Nat) (P : Int), x9 = .int .i64 i ∧ x8 = .int .i64 P ∧ i ≤ k ∧ Hid (parS l (ka, kb) i = P) ∧ Hid (∀ j, j < i → fineS (ka, kb) (gs l j) = true) ∧ Below wo.heap.size wo wr) (fun _ x9 _ => k - (intOf x9).toNat)
              case atStart => exact ⟨0, -1, rfl, rfl, Nat.zero_le _, Lib.hid rfl, Lib.hid (fun j h => by omega), by first | exact Below.refl _ _ | exact ⟨rfl, rfl, rfl, Nat.le_refl _, fun _ _ => rfl⟩⟩
              case round =>
                obtain ⟨i, P, rfl, rfl, hik, HP, HF, hBi⟩ := hrel
                have hBo := hBr.trans (hBi.mono hBr.size)
                by_cases hilt : i < k
                · obtain ⟨t, ht⟩ : ∃ t, l[i]? = some t := ⟨_, List.getElem?_eq_getElem (by rw [← HN.out]; omega)⟩
                  obtain ⟨ia, ib⟩ := t
                  have HI0 := Lib.hid (scs_at l ht)
                  have HIg : Hid (gs l i = (ia, ib)) := Lib.hid (gs_at ht)
                  have HX : Hid (∀ W, Below wo.heap.size wo W → W.cell? ⟨g, off + k * 2, none⟩ = some (.int .i64 ka) ∧ W.cell? ⟨g, off + k * 2 + 1, none⟩ = some (.int .i64 kb) ∧ W.cell? ⟨g, off + i * 2, none⟩ = some (.int .i64 ia) ∧ W.cell? ⟨g, off + i * 2 + 1, none⟩ = some (.int .i64 ib)) := Lib.hid fun W hb =>
                    ⟨(hb.cell (p := ⟨g, off + k * 2, none⟩) hg).trans (HCL.out _ _ HK0.out.1), (hb.cell (p := ⟨g, off + k * 2 + 1, none⟩) hg).trans (HCL.out _ _ HK0.out.2), (hb.cell (p := ⟨g, off + i * 2, none⟩) hg).trans (HCL.out _ _ HI0.out.1), (hb.cell (p := ⟨g, off + i * 2 + 1, none⟩) hg).trans (HCL.out _ _ HI0.out.2)⟩
                  obtain ⟨x0, x1, x2, x3⟩ := HX.out wr hBi
                  have hi0' : (0 : Int) ≤ (i : Int) := Int.natCast_nonneg _
                  have hi1' : (i : Int) < (n : Int) := by omega
                  have hHWD : Below wo.heap.size wo wr.drew := ⟨hBi.os, hBi.tape, hBi.output, hBi.size, hBi.block⟩
                  have HWD := Lib.hid hHWD
                  clear ht hHWD
                  cases hw : wiS (ka, kb) (ia, ib)
                  · cases hbe : beS (ia, ib) (ka, kb)
                    · have HE : Hid (nestS l = ([], (k : Int), 6)) := Lib.hid (nest_err (by rw [← HN.out]; exact hnb) HBd.out HRo.out (by rw [← HN.out]; exact hlt) (by
                        cases hc : rowOk l k with
                        | false => rfl
                        | true =>
                          have := rowOk_iff.1 hc i hilt
                          rw [HKg.out, HIg.out] at this; unfold fineS at this; rw [hw, hbe] at this; cases this))
                      go_wp2
                      go_region_held3 (fun w' => w'.cell? ⟨g, off + k * 2, none⟩ = some (.int .i64 ka) ∧ w'.cell? ⟨g, off + k * 2 + 1, none⟩ = some (.int .i64 kb) ∧ w'.cell? ⟨g, off + i * 2, none⟩ = some (.int .i64 ia) ∧ w'.cell? ⟨g, off + i * 2 + 1, none⟩ = some (.int .i64 ib)) (go_keep) (first | (go_at_call 45; refine (rwithin_any _ _ _ _ _).mono ?_; rintro e w2 ⟨rfl, hb2⟩; rw [hw]; have hb2B := HWD.out.trans (hb2.mono HWD.out.size); obtain ⟨ya, yb, yc, yd⟩ := HX.out _ hb2B))
                      go_wp2
                      have HWE : Hid (Below wo.heap.size wo w2.drew) := Lib.hid ⟨hb2B.os, hb2B.tape, hb2B.output, hb2B.size, hb2B.block⟩
                      go_region_held3 (fun w' => w'.cell? ⟨g, off + k * 2, none⟩ = some (.int .i64 ka) ∧ w'.cell? ⟨g, off + k * 2 + 1, none⟩ = some (.int .i64 kb) ∧ w'.cell? ⟨g, off + i * 2, none⟩ = some (.int .i64 ia) ∧ w'.cell? ⟨g, off + i * 2 + 1, none⟩ = some (.int .i64 ib)) (go_keep) (first | (go_at_call 47; refine (rbefore_any _ _ _ _ _).mono ?_; rintro e w3 ⟨rfl, hb3⟩; rw [hbe]; have hb3B := HWE.out.trans (hb3.mono HWE.out.size); obtain ⟨za, zb, zc, zd⟩ := HX.out _ hb3B))
                      go_wp2
                      go_returns
                      exact ne_err HE.out (hBr.trans (hb3B.mono hBr.size))
                    · have HF' : Hid (∀ j, j < i + 1 → fineS (ka, kb) (gs l j) = true) := Lib.hid fun j hj => by
                        by_cases e : j = i
                        · rw [e, HIg.out]; unfold fineS; rw [hbe, Bool.or_true]
                        · exact HF.out j (by omega)
                      have HP' : Hid (parS l (ka, kb) (i + 1) = P) := Lib.hid (by rw [parS, HIg.out, hw, if_neg (by simp)]; exact HP.out)
                      go_wp2
                      go_region_held3 (fun w' => w'.cell? ⟨g, off + k * 2, none⟩ = some (.int .i64 ka) ∧ w'.cell? ⟨g, off + k * 2 + 1, none⟩ = some (.int .i64 kb) ∧ w'.cell? ⟨g, off + i * 2, none⟩ = some (.int .i64 ia) ∧ w'.cell? ⟨g, off + i * 2 + 1, none⟩ = some (.int .i64 ib)) (go_keep) (first | (go_at_call 45; refine (rwithin_any _ _ _ _ _).mono ?_; rintro e w2 ⟨rfl, hb2⟩; rw [hw]; have hb2B := HWD.out.trans (hb2.mono HWD.out.size); obtain ⟨ya, yb, yc, yd⟩ := HX.out _ hb2B))
                      go_wp2
                      have HWE : Hid (Below wo.heap.size wo w2.drew) := Lib.hid ⟨hb2B.os, hb2B.tape, hb2B.output, hb2B.size, hb2B.block⟩
                      go_region_held3 (fun w' => w'.cell? ⟨g, off + k * 2, none⟩ = some (.int .i64 ka) ∧ w'.cell? ⟨g, off + k * 2 + 1, none⟩ = some (.int .i64 kb) ∧ w'.cell? ⟨g, off + i * 2, none⟩ = some (.int .i64 ia) ∧ w'.cell? ⟨g, off + i * 2 + 1, none⟩ = some (.int .i64 ib)) (go_keep) (first | (go_at_call 47; refine (rbefore_any _ _ _ _ _).mono ?_; rintro e w3 ⟨rfl, hb3⟩; rw [hbe]; have hb3B := HWE.out.trans (hb3.mono HWE.out.size); obtain ⟨za, zb, zc, zd⟩ := HX.out _ hb3B))
                      go_wp2
                      go_roundw
                      case rel => exact ⟨i + 1, P, by go_num, rfl, by omega, HP', HF', hb3B⟩
                      case measure => simp [intOf]; omega
                  · have HF' : Hid (∀ j, j < i + 1 → fineS (ka, kb) (gs l j) = true) := Lib.hid fun j hj => by
                      by_cases e : j = i
                      · rw [e, HIg.out]; unfold fineS; rw [hw]; rfl
                      · exact HF.out j (by omega)
                    have HP' : Hid (parS l (ka, kb) (i + 1) = (i : Int)) := Lib.hid (by rw [parS, HIg.out, hw, if_pos rfl])
                    go_wp2
                    go_region_held3 (fun w' => w'.cell? ⟨g, off + k * 2, none⟩ = some (.int .i64 ka) ∧ w'.cell? ⟨g, off + k * 2 + 1, none⟩ = some (.int .i64 kb) ∧ w'.cell? ⟨g, off + i * 2, none⟩ = some (.int .i64 ia) ∧ w'.cell? ⟨g, off + i * 2 + 1, none⟩ = some (.int .i64 ib)) (go_keep) (first | (go_at_call 45; refine (rwithin_any _ _ _ _ _).mono ?_; rintro e w2 ⟨rfl, hb2⟩; rw [hw]; have hb2B := HWD.out.trans (hb2.mono HWD.out.size); obtain ⟨ya, yb, yc, yd⟩ := HX.out _ hb2B))
                    go_wp2
                    go_roundw
                    case rel => exact ⟨i + 1, (i : Int), by go_num, rfl, by omega, HP', HF', hb2B⟩
                    case measure => simp [intOf]; omega
                · obtain rfl : i = k := by omega
                  have HOo := Lib.hid (own_below HO.out hBi)
                  have HRn : Hid (∀ j, j < i + 1 → rowOk l j = true) := Lib.hid fun j hj => by
                    by_cases e : j = i
                    · rw [e, rowOk_iff]; intro x hx; rw [HKg.out]; exact HF.out x hx
                    · exact HRo.out j (by omega)
                  have HPS : Hid ((parsS l (i + 1)).map (Value.int .i64) = (parsS l i).map (Value.int .i64) ++ [.int .i64 P]) := Lib.hid (by rw [parsS_succ, List.map_append, HKg.out, HP.out]; rfl)
                  go_wp2_with (at_builtin; refine wpList_append_lies _ rfl _ _ 38 rfl w.heap.size 3 i0 (.int .i64 0) 1 8 Tryd.underlying38 hi hj0 hj1 hj2 rfl (by decide) _ _ _ rfl (HOo.out.alloc _) ⟨wr.heap.size, 0, none⟩ 1 1 [.int .i64 P] rfl rfl (new_cells wr [.int .i64 P] _) (by simp [Value.oneCell']) (by omega) (by unfold maxLen; omega) (by omega) (by rw [World.size_alloc]; have := hBo.size; omega) (wr.heap.size + 1) (by simp) ?_; intro g1 cap1 w3 hown1 hgrow1 hat1 hlt1; have HB3 : Below w.heap.size w w3 := (hBo.alloc hBo.size _).grown hgrow1 (by rw [World.size_alloc]; have := hBo.size; omega) (fun j hj => (HOo.out.lt j hj).1); have HO3 := Lib.hid hown1; clear hown1 hgrow1 hat1)
                  go_roundw
                  case rel => exact ⟨i + 1, by go_num, by omega, HRn, Lib.hid (by rw [HPS.out]; exact HO3.out), HB3⟩
                  case measure => simp [intOf]; omega
          · obtain rfl : k = n := by omega
            have HE : Hid (nestS l = (parsS l k, 0, 0)) := Lib.hid (by rw [HN.out]; exact nest_ok (by rw [← HN.out]; exact hnb) HBd.out (fun j hj => HRo.out j (by rw [HN.out]; exact hj)))
            go_wp2
            go_returns
            exact ⟨_, by rw [HE.out]; rfl, by rw [HE.out, parsS_len]; exact HO.out, hBr⟩
end Go.Proofs.YtbajikkjkiacnaaDoor
