/- The reference's Bytes. -/
import Derived.Deep.DeepCutAuto
import Derived.Test.YtkpapggojiejdaaDoorRref5
namespace Go.Proofs.YtkpapggojiejdaaDoor
open Go.RowKit Go.PlainAid

set_option maxRecDepth 100000 in
set_option maxHeartbeats 6400000 in
theorem rbytes_any (v : Value) (l : List Int) (w : World) (h : RunesAt w v l) (hl : l.length ≤ 1000000) :
    Calls Tryd.prog 24 #[v] w (BytesV l w) := by
  obtain ⟨a, cap, hv⟩ := h.slice
  rw [List.length_map] at hv
  obtain ⟨n, hn⟩ : ∃ n, n = l.length := ⟨_, rfl⟩
  rw [← hn] at hv
  subst hv
  have hnb : n ≤ 1000000 := by omega
  have HN := Lib.hid hn
  have HC : Hid (∀ w', Below w.heap.size w w' → ∀ (k : Nat) r, l[k]? = some r → ∃ g off, a = some ⟨g, off, none⟩ ∧ w'.cell? ⟨g, off + k, none⟩ = some (.int .i32 r)) := Lib.hid fun w' hb k r hk => by
    rcases (h.below hb (Nat.le_refl _)) with ⟨_, _, _, hnil⟩ | ⟨g, off, nn, cc, he, hnn, _, hcell⟩
    · rw [List.map_eq_nil_iff] at hnil; rw [hnil] at hk; simp at hk
    · exact ⟨g, off, (Value.slice.inj he).1, hcell k _ (by rw [List.getElem?_map, hk]; rfl)⟩
  clear h hn hl
  go_enter Tryd.func24, Tryd.ntmps24
  go_wp2
  go_loop [5] (fun x5 => ∃ k : Nat, k ≤ n ∧ x5 = .int .i64 k ∧ Hid (∀ x ∈ l.take k, isR x = true)) (fun x5 => n - (intOf x5).toNat)
  case atStart => exact ⟨0, Nat.zero_le _, rfl, Lib.hid (by simp)⟩
  case round =>
    obtain ⟨k, hk, rfl, HA⟩ := hrel
    by_cases hlt : k < n
    · obtain ⟨r, hr⟩ : ∃ r, l[k]? = some r := ⟨_, List.getElem?_eq_getElem (by rw [← HN.out]; exact hlt)⟩
      obtain ⟨g, off, ha, c0⟩ := HC.out w (Below.refl _ _) k r hr
      obtain ⟨b, hb⟩ : ∃ b, isR r = b := ⟨_, rfl⟩
      have CI : Hid (∀ w, Calls Tryd.prog 39 #[.int .i32 r] w fun e w' => e = .returned (.bool b) ∧ w = w') := Lib.hid (by rw [← hb]; exact fun w => is_any r w)
      cases b
      · have HB : Hid (bytesS l = ([], k, 7)) := Lib.hid (bytesS_bad HA.out hr hb)
        subst ha
        clear hr hb
        go_wp2_with (go_at_call 39; refine (CI.out _).mono ?_; rintro e w2 ⟨rfl, rfl⟩)
        go_ret3
        exact ⟨_, by rw [HB.out]; rfl, by rw [HB.out]; exact ⟨rfl, .inl ⟨rfl, rfl⟩⟩, Below.refl _ _⟩
      · have HA' : Hid (∀ x ∈ l.take (k + 1), isR x = true) := Lib.hid (by
          rw [take_snoc hr]; intro x hx; rcases List.mem_append.1 hx with hx | hx
          · exact HA.out x hx
          · rw [List.mem_singleton.1 hx]; exact hb)
        subst ha
        clear hr hb
        go_wp2_with (go_at_call 39; refine (CI.out _).mono ?_; rintro e w2 ⟨rfl, rfl⟩)
        go_round
        case rel => exact ⟨k + 1, by omega, by go_num, HA'⟩
        case measure => simp [intOf]; omega
    · have hkn : l.take k = l := by rw [List.take_of_length_le]; rw [← HN.out]; omega
      rw [hkn] at HA
      have HB := Lib.hid (bytesS_good HA.out)
      obtain ⟨i0, hi, hj0, hj1, hj2⟩ := info_parts2 info5
      clear hkn
      go_wp2
      go_loopw [6, 7] (fun x6 x7 wr => ∃ k : Nat, k ≤ n ∧ x7 = .int .i64 k ∧ wid (l.take k) ≤ 8000 ∧ Below w.heap.size w wr ∧ Hid (wr.ownsRow w.heap.size 5 1 x6 (encs (l.take k)).length ((encs (l.take k)).map bc)) ∧ w.heap.size ≤ wr.heap.size) (fun _ x7 _ => n - (intOf x7).toNat)
      case atStart => exact ⟨0, Nat.zero_le _, rfl, by simp [wid], Below.refl _ _, Lib.hid ⟨rfl, .inl ⟨rfl, rfl⟩⟩, Nat.le_refl _⟩
      case round =>
        obtain ⟨k, hk, rfl, h8, hB, HO, hsz⟩ := hrel
        by_cases hlt : k < n
        · obtain ⟨r, hr⟩ : ∃ r, l[k]? = some r := ⟨_, List.getElem?_eq_getElem (by rw [← HN.out]; exact hlt)⟩
          obtain ⟨g, off, ha, c0⟩ := HC.out wr hB k r hr
          have hir : isR r = true := HA.out r (List.mem_of_getElem? hr)
          obtain ⟨d, hd⟩ : ∃ d, wO r = d := ⟨_, rfl⟩
          have hd1 : 1 ≤ d := by rw [← hd]; exact wO_pos hir
          have hd4 : d ≤ 4 := by rw [← hd]; exact wO_le r
          have CE : Hid (Calls Tryd.prog 14 #[.int .i32 r] wr fun e w1 => ∃ g cap, e = .returned (.tuple #[.slice (some ⟨g, 0, none⟩) d cap, .int .i64 0]) ∧
              (∀ j u, ((enc r).map bc)[j]? = some u → w1.cell? ((⟨g, 0, none⟩ : Addr).add j) = some u) ∧ Below wr.heap.size wr w1) := Lib.hid (by
            refine (rencode_any r wr).mono ?_
            rintro e w1 ⟨v, h1, h2, h3⟩
            rw [hir, if_pos rfl] at h1
            rw [enc_len, hd] at h2
            obtain ⟨g, cap, rfl, _, _, h5⟩ := own_some h2 hd1
            exact ⟨g, cap, h1, h5, h3⟩)
          have hml := h8
          rw [← encs_len] at hml
          have HL : Hid ((enc r).length = d) := Lib.hid (by rw [enc_len, hd])
          have HT : Hid (encs (l.take (k + 1)) = encs (l.take k) ++ enc r) := Lib.hid (by rw [take_snoc hr, encs_app, encs_cons, encs_nil, List.append_nil])
          have HW : Hid (wid (l.take (k + 1)) = (encs (l.take k)).length + d) := Lib.hid (by rw [take_snoc hr, wid_app, wid_cons, wid_nil, hd, Nat.add_zero, encs_len])
          have HM := Lib.hid (wid_take_mono l (k + 1))
          obtain ⟨M, hM⟩ : ∃ M, encs (l.take k) = M := ⟨_, rfl⟩
          rw [hM] at hml HO HT HW
          obtain ⟨p, hp⟩ : ∃ p, M.length = p := ⟨_, rfl⟩
          rw [hp] at hml HO HW
          have HP := Lib.hid hp
          subst ha
          clear hd hr hir hM hp
          go_upto_if 42 with (first | (go_at_call 14; refine CE.out.mono ?_; rintro e w1 ⟨g2, cap2, rfl, hc2, hb2⟩; have Hc2 := Lib.hid hc2; clear hc2) | (at_builtin; refine wpList_append_own _ rfl _ _ 22 rfl w.heap.size 5 i0 (.int .u8 0) 1 1 Tryd.underlying22 hi hj0 hj1 hj2 rfl (by decide) _ _ _ rfl (own_below HO.out hb2) ⟨g2, 0, none⟩ d cap2 ((enc r).map bc) rfl (by rw [List.length_map, HL.out, Nat.mul_one]) Hc2.out (one_bc _) (by unfold maxLen; omega) (by omega) (by have := hb2.size; omega) ?_; intro v' w2 hown' hgrow _; obtain ⟨a7, c7, h7⟩ := (RowAt.own hown').slice; have h7' : v' = .slice a7 (p + d) c7 := (by rw [h7, List.length_append, List.length_map, List.length_map, HL.out, HP.out]); clear h7; subst h7'))
          have hsz1 : w.heap.size ≤ w1.heap.size := Nat.le_trans hsz hb2.size
          have hO1 := own_below HO.out hb2
          have HB2 : Hid (Below w.heap.size w w2) := Lib.hid ((hB.trans (hb2.mono hsz)).grown hgrow hsz1 (fun k hk => (hO1.lt k hk).1))
          have hs2 : w.heap.size ≤ w2.heap.size := Nat.le_trans hsz1 hgrow.size
          have HO2 : Hid (w2.ownsRow w.heap.size 5 1 (.slice a7 (p + d) c7) (encs (l.take (k + 1))).length ((encs (l.take (k + 1))).map bc)) := Lib.hid (by
            rw [HT.out]; rw [← HP.out] at hown' ⊢; exact own_app HL.out hown')
          clear hown' hgrow hO1
          by_cases h9 : 8000 < p + d
          · have HE : Hid (bytesS l = ([], 0, 3)) := Lib.hid (by rw [HB.out, if_pos (by have := HM.out; rw [HW.out] at this; omega)])
            have hd9 : decide ((8000 : Int) < (p : Int) + (d : Int)) = true := decide_eq_true (by omega)
            go_wp2
            go_ret3
            exact ⟨_, by rw [HE.out]; rfl, by rw [HE.out]; exact ⟨rfl, .inl ⟨rfl, rfl⟩⟩, HB2.out⟩
          · have h8' : wid (l.take (k + 1)) ≤ 8000 := by rw [HW.out]; omega
            have hd9 : decide ((8000 : Int) < (p : Int) + (d : Int)) = false := decide_eq_false (by omega)
            go_wp2
            go_roundw
            case rel => exact ⟨k + 1, by omega, by go_num, h8', HB2.out, HO2, hs2⟩
            case measure => simp [intOf]; omega
        · have hkn : l.take k = l := by rw [List.take_of_length_le]; rw [← HN.out]; omega
          rw [hkn] at HO h8
          have HE : Hid (bytesS l = (encs l, 0, 0)) := Lib.hid (by rw [HB.out, if_neg (by omega)])
          have HF := Lib.hid hB
          clear hkn hB h8
          go_wp2
          go_ret3
          exact ⟨_, by rw [HE.out]; rfl, by rw [HE.out]; exact HO.out, HF.out⟩
end Go.Proofs.YtkpapggojiejdaaDoor
