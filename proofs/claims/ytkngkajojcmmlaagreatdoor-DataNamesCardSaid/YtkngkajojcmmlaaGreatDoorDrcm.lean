/- The reference's Compare. -/
import Derived.Test.YtkngkajojcmmlaaGreatDoorDord
namespace Go.Proofs.YtkngkajojcmmlaaGreatDoor
open Go.RowKit Go.Shelf Go.PlainAid

theorem nodAt_of {w : World} {g o : Nat} {t : List Nd} (h1 : (chkT symS t).2 = 0) (hg : g < w.heap.size) (hc : ∀ j u, (dcs t)[j]? = some u → w.cell? ⟨g, o + j, none⟩ = some u) : NodAt w g o t.length t := by
  obtain ⟨a1, a2, a3, _⟩ := chkT_ok h1
  exact ⟨rfl, a1, a3, hg, hc, chkT_kids h1⟩
set_option maxRecDepth 50000 in
set_option maxHeartbeats 3200000 in
theorem rCompare_any (v v' : Value) (a b : List Nd) (w : World) (h : NdsAt w v a) (h' : NdsAt w v' b) (KB : KidsB a) (KB' : KidsB b) (hcv : capOk v) (hcv' : capOk v') :
    Calls Tryz.prog 8 #[v, v'] w fun e w' => e = .returned (cmpV a b) ∧ Below w.heap.size w w' := by
  have T1 := Lib.hid (RCheck_any symS v a w h (Lib.hid (rsymAll w)) (Lib.hid KB))
  have T2 := Lib.hid (fun W (hW : Below w.heap.size w W) => RCheck_any symS v' b W (h'.below hW (Nat.le_refl _)) (Lib.hid (rsymAll W)) (Lib.hid KB'))
  unfold chkTV at T1 T2
  obtain ⟨ci, hci⟩ : ∃ ci, (chkT symS a).1 = ci := ⟨_, rfl⟩
  rw [hci] at T1
  obtain ⟨ci', hci'⟩ : ∃ ci, (chkT symS b).1 = ci := ⟨_, rfl⟩
  rw [hci'] at T2
  by_cases h1 : (chkT symS a).2 = 0
  · by_cases h2 : (chkT symS b).2 = 0
    · obtain ⟨a1, a2, a3, _⟩ := chkT_ok h1
      obtain ⟨g, o, c, rfl, hg, hc⟩ := h.some a2
      obtain ⟨b1, b2, b3, _⟩ := chkT_ok h2
      obtain ⟨g', o', c', rfl, hg', hc'⟩ := h'.some b2
      have hca : a.length ≤ c := hcv _ _ _ rfl
      have hcb : b.length ≤ c' := hcv' _ _ _ rfl
      have HV : Hid (cmpV a b = .tuple #[.int .i64 (ordF a b 401 0 0), .int .i64 0]) := Lib.hid (by
        have e : cmpE a b = 0 := by unfold cmpE; rw [if_neg (by rw [h1]; simp)]; exact h2
        unfold cmpV cmpZ; rw [e, if_neg (by simp)]; rfl)
      have HCmp : Hid (∀ W, Below w.heap.size w W →
          Calls Tryz.prog 26 #[.slice (some ⟨g, o, none⟩) a.length c, .slice (some ⟨g', o', none⟩) b.length c'] W fun e w' => e = .returned (.int .i64 (ordF a b 401 0 0)) ∧ Below W.heap.size W w') := Lib.hid fun W hW =>
        rorder_go g o a.length g' o' b.length a b w (Lib.hid (nodAt_of h1 hg hc)) (Lib.hid (nodAt_of h2 hg' hc')) 401 0 0 a.length c b.length c' W hW (by omega) (by omega) (List.length_pos_iff.2 a2) hca (by omega) (List.length_pos_iff.2 b2) hcb
      rw [h1] at T1
      rw [h2] at T2
      obtain ⟨n, hn⟩ : ∃ n, a.length = n := ⟨_, rfl⟩
      obtain ⟨m, hm⟩ : ∃ m, b.length = m := ⟨_, rfl⟩
      rw [hn, hm] at HCmp
      rw [hn] at T1 ⊢
      rw [hm] at T2 ⊢
      obtain ⟨R, hR⟩ : ∃ R, ordF a b 401 0 0 = R := ⟨_, rfl⟩
      rw [hR] at HCmp HV
      clear h h' hc hc' KB KB' hcv hcv' h1 h2 a1 a2 a3 b1 b2 b3 hn hm hR hci hci' hca hcb
      go_enter Tryz.func8, Tryz.ntmps8
      go_wp2_with fail
      refine T1.out.mono ?_
      rintro e w2 ⟨rfl, hb2⟩
      go_wp2_with fail
      -- MARK1
      refine (T2.out w2 hb2).mono ?_
      rintro e w3 ⟨rfl, hb3⟩
      have hB3 := hb2.trans (hb3.mono hb2.size)
      go_wp2_with fail
      -- MARK2
      refine (HCmp.out _ hB3).mono ?_
      rintro e w4 ⟨rfl, hb4⟩
      go_wp2_with fail
      -- MARK3
      go_ret2
      exact ⟨(congrArg Ending.returned HV.out).symm, hB3.trans (hb4.mono hB3.size)⟩
    · obtain ⟨e2, he2⟩ : ∃ e2, (chkT symS b).2 = e2 := ⟨_, rfl⟩
      have HV : Hid (cmpV a b = .tuple #[.int .i64 0, .int .i64 e2]) := Lib.hid (by
        have e : cmpE a b = e2 := by unfold cmpE; rw [if_neg (by rw [h1]; simp)]; exact he2
        unfold cmpV cmpZ; rw [e, if_pos (by rw [← he2]; exact h2)])
      rw [h1] at T1
      rw [he2] at T2 h2
      have hne : (e2 != 0) = true := bne_iff_ne.2 h2
      obtain ⟨a0, c0, rfl⟩ := h.slice
      obtain ⟨a', c', rfl⟩ := h'.slice
      obtain ⟨n, hn⟩ : ∃ n, a.length = n := ⟨_, rfl⟩
      obtain ⟨m, hm⟩ : ∃ m, b.length = m := ⟨_, rfl⟩
      rw [hn] at T1 ⊢
      rw [hm] at T2 ⊢
      clear h h' KB KB' hcv hcv' h1 h2 hn hm he2 hci hci'
      go_enter Tryz.func8, Tryz.ntmps8
      go_wp2_with fail
      refine T1.out.mono ?_
      rintro e w2 ⟨rfl, hb2⟩
      go_wp2_with fail
      refine (T2.out w2 hb2).mono ?_
      rintro e w3 ⟨rfl, hb3⟩
      have hB3 := hb2.trans (hb3.mono hb2.size)
      go_wp2_with fail
      -- MARK4
      go_ret2
      exact ⟨(congrArg Ending.returned HV.out).symm, hB3⟩
  · obtain ⟨e2, he2⟩ : ∃ e2, (chkT symS a).2 = e2 := ⟨_, rfl⟩
    have HV : Hid (cmpV a b = .tuple #[.int .i64 0, .int .i64 e2]) := Lib.hid (by
      have e : cmpE a b = e2 := by unfold cmpE; rw [if_pos h1]; exact he2
      unfold cmpV cmpZ; rw [e, if_pos (by rw [← he2]; exact h1)])
    rw [he2] at T1 h1
    have hne : (e2 != 0) = true := bne_iff_ne.2 h1
    obtain ⟨a', c', rfl⟩ := h'.slice
    obtain ⟨a0, c0, rfl⟩ := h.slice
    clear h h' KB KB' hcv hcv' h1 he2 T2 hci hci'
    go_enter Tryz.func8, Tryz.ntmps8
    go_wp2_with fail
    refine T1.out.mono ?_
    rintro e w2 ⟨rfl, hb2⟩
    go_wp2_with fail
    -- MARK5
    go_ret2
    exact ⟨(congrArg Ending.returned HV.out).symm, hb2⟩
end Go.Proofs.YtkngkajojcmmlaaGreatDoor
