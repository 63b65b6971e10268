/- The reference's At, Path with its errors, Depth. -/
import Derived.Test.YtdbgmbbchjfpdaaDoorDrpath
namespace Go.Proofs.YtdbgmbbchjfpdaaDoor
open Go.RowKit Go.PlainAid

set_option maxRecDepth 50000 in
set_option maxHeartbeats 3200000 in
theorem rAt_ok (v vp : Value) (t : List Nd) (l : List Int) (w : World) (hD : DatAt w v t) (hp : IntRow w vp l) (hll : l.length ≤ 1000000) :
    Calls Tryd.prog 30 #[v, vp] w fun e w' => e = .returned (atPV symS t l) ∧ Below w.heap.size w w' := by
  have hz := hD.2.2.2.2
  have C := Lib.hid (RCheck_any symS v t w hD.1 (Lib.hid (rsymAll w)) (Lib.hid hD.2.2.1))
  have CK : Hid (∀ W, Below w.heap.size w W → ∀ j : Nat, j < t.length → Calls Tryd.prog 21 #[v, .int .i64 (j : Int)] W (intsV ((kidsN (kidsL t) j).map fun q : Nat => (q : Int)) 0 W)) := Lib.hid fun W hW j hj => by
    have hDW := hD.below hW
    have := rKids_l v t (j : Int) W hDW.1 hDW.2.2.1 hDW.2.2.2.1 hDW.2.1
    unfold kidZ at this
    rw [atE_dat hz hj, if_pos rfl, Int.toNat_natCast] at this
    exact this
  obtain ⟨hT, hne, hl, _, hce⟩ := chkT_ok hz
  unfold chkTV at C
  rw [hce] at C
  obtain ⟨a, c, rfl⟩ := hD.1.slice
  obtain ⟨ap, cp, rfl, hA⟩ := hp
  obtain ⟨n, hn⟩ : ∃ n, t.length = n := ⟨_, rfl⟩
  have hn0 : 0 < n := by rw [← hn]; exact List.length_pos_iff.2 hne
  have HV1 : Hid (∀ j, fol (kidsL t) 0 l = some j → atPV symS t l = .tuple #[.int .i64 (j : Int), .int .i64 0]) := Lib.hid fun j hj => by unfold atPV; rw [if_neg (by rw [hz]; simp), hj]
  have HV2 : Hid (fol (kidsL t) 0 l = none → atPV symS t l = .tuple #[.int .i64 0, .int .i64 4]) := Lib.hid fun hj => by unfold atPV; rw [if_neg (by rw [hz]; simp), hj]
  have HP : Hid (∀ W, Below w.heap.size w W → ∀ (k : Nat) (x : Int), l[k]? = some x → ∃ g o, ap = some ⟨g, o, none⟩ ∧ g < w.heap.size ∧ W.cell? ⟨g, o + k, none⟩ = some (.int .i64 x)) := Lib.hid fun W hW k x hx => by
    rcases hA with rfl | ⟨g, o, rfl, hg, hc⟩
    · cases hx
    · exact ⟨g, o, rfl, hg, (hW.cell (p := ⟨g, o + k, none⟩) hg).trans (hc k x hx)⟩
  obtain ⟨pl, hpl⟩ : ∃ pl, l.length = pl := ⟨_, rfl⟩
  have HPL := Lib.hid hpl
  have HN := Lib.hid hn
  have HT := Lib.hid hT
  rw [hn] at hl C CK
  rw [hpl] at hll
  rw [hn, hpl]
  have hkl := Lib.hid (kidsL_len t ▸ hn : (kidsL t).length = n)
  clear hD hz hT hn hne hpl hA hce
  go_enter Tryd.func30, Tryd.ntmps30
  go_wp2_with fail
  refine C.out.mono ?_
  rintro e' w2 ⟨rfl, hb2⟩
  clear C
  go_wp2_with fail
  -- MARK1
  go_loopw [8, 9] (fun x8 x9 wr => ∃ (j k : Nat), x8 = .int .i64 (j : Int) ∧ x9 = .int .i64 (k : Int) ∧ k ≤ pl ∧ j < n ∧ Hid (fol (kidsL t) j (l.drop k) = fol (kidsL t) 0 l) ∧ Below w.heap.size w wr) (fun _ x9 _ => pl - (intOf x9).toNat)
  case atStart => exact ⟨0, 0, rfl, rfl, Nat.zero_le _, hn0, Lib.hid rfl, hb2⟩
  case round =>
    obtain ⟨j, k, rfl, rfl, hk, hj, HFol, hbr⟩ := hrel
    have hk0 : (0 : Int) ≤ (k : Int) := Int.natCast_nonneg _
    by_cases hlt : k < pl
    · obtain ⟨x, hx⟩ : ∃ x, l[k]? = some x := ⟨_, List.getElem?_eq_getElem (by rw [HPL.out]; exact hlt)⟩
      obtain ⟨gp, op, rfl, hgp, d2⟩ := HP.out wr hbr k x hx
      have hk1 : (k : Int) < (pl : Int) := by omega
      have dk1 : decide ((k : Int) < (pl : Int)) = true := decide_eq_true hk1
      have CKj := Lib.hid (CK.out wr hbr j hj)
      have hst := fol_step (ks := kidsL t) (j := j) hx
      rw [HFol.out] at hst
      have HSt := Lib.hid hst
      obtain ⟨m, hm⟩ : ∃ m, cnt (kidsL t) j = m := ⟨_, rfl⟩
      have HMx := Lib.hid hm
      unfold intsV at CKj
      rw [List.length_map, kidsN_len, hm] at CKj
      clear hx hst hm
      go_wp2_with fail
      -- MARK2
      refine CKj.out.mono ?_
      rintro e' w6 ⟨a6, c6, rfl, hr6, hb6⟩
      have hbr6 := hbr.trans (hb6.mono hbr.size)
      have d3 := (hb6.cell (p := ⟨gp, op + k, none⟩) (Nat.lt_of_lt_of_le hgp hbr.size)).trans d2
      have HR6 := Lib.hid hr6
      clear hr6 CKj d2
      by_cases hx0 : x < 0
      · have e0 : decide (x < 0) = true := decide_eq_true hx0
        have HNo : Hid (fol (kidsL t) 0 l = none) := Lib.hid (by rw [HSt.out, if_neg (by omega)])
        go_wp2_with fail
        go_ret2
        exact ⟨(congrArg Ending.returned (HV2.out HNo.out)).symm, hbr6⟩
      · have e0 : decide (x < 0) = false := decide_eq_false hx0
        by_cases hx1 : (m : Int) ≤ x
        · have e1 : decide ((m : Int) ≤ x) = true := decide_eq_true hx1
          have HNo : Hid (fol (kidsL t) 0 l = none) := Lib.hid (by rw [HSt.out, if_neg (by rw [HMx.out]; omega)])
          go_wp2_with fail
          go_ret2
          exact ⟨(congrArg Ending.returned (HV2.out HNo.out)).symm, hbr6⟩
        · have e1 : decide ((m : Int) ≤ x) = false := decide_eq_false hx1
          obtain ⟨q, rfl⟩ : ∃ q : Nat, x = (q : Int) := ⟨x.toNat, by omega⟩
          have hq0 : (0 : Int) ≤ (q : Int) := Int.natCast_nonneg _
          have hq1 : (q : Int) < (m : Int) := by omega
          have hqm : q < cnt (kidsL t) j := by rw [HMx.out]; omega
          obtain ⟨_, p2, _⟩ := HT.out.pos_step (i := j) (by rw [hkl.out]; exact hj) hqm
          rw [hkl.out] at p2
          have HFol2 : Hid (fol (kidsL t) (posK (kidsL t) j q) (l.drop (k + 1)) = fol (kidsL t) 0 l) := Lib.hid (by rw [HSt.out, if_pos (by rw [HMx.out]; omega), Int.toNat_natCast])
          obtain ⟨a', c', ev, hA6⟩ := HR6.out
          obtain ⟨ea, eb, ec⟩ := Value.slice.inj ev
          subst ea
          clear ev eb ec
          rcases hA6 with h0 | ⟨gk, ok, rfl, hgk, hck⟩
          · have := kidsN_at hqm; rw [List.map_eq_nil_iff] at h0; rw [h0] at this; cases this
          have d6 := hck q _ (by rw [List.getElem?_map, kidsN_at hqm]; rfl)
          obtain ⟨j', hj'⟩ : ∃ j', posK (kidsL t) j q = j' := ⟨_, rfl⟩
          rw [hj'] at d6 HFol2 p2
          clear hck hqm hj' HR6
          go_wp2_with fail
          -- MARK3
          go_roundw
          case rel => exact ⟨j', k + 1, rfl, by go_num, by omega, p2, HFol2, hbr6⟩
          case measure => simp [intOf]; omega
    · obtain rfl : k = pl := by omega
      have dk1 : decide ((k : Int) < (k : Int)) = false := decide_eq_false (by omega)
      have HSome : Hid (fol (kidsL t) 0 l = some j) := Lib.hid (by rw [← HFol.out, List.drop_of_length_le (Nat.le_of_eq HPL.out)]; rfl)
      go_wp2_with fail
      go_ret2
      exact ⟨(congrArg Ending.returned (HV1.out j HSome.out)).symm, hbr⟩
set_option maxRecDepth 50000 in
set_option maxHeartbeats 1600000 in
theorem rAt_bad (v vp : Value) (t : List Nd) (l : List Int) (w : World) (h : NdsAt w v t) (KB : KidsB t) (hz : (chkT symS t).2 ≠ 0) :
    Calls Tryd.prog 30 #[v, vp] w fun e w' => e = .returned (atPV symS t l) ∧ Below w.heap.size w w' := by
  have C := Lib.hid (RCheck_any symS v t w h (Lib.hid (rsymAll w)) (Lib.hid KB))
  have HV : Hid (atPV symS t l = .tuple #[.int .i64 0, .int .i64 (chkT symS t).2]) := Lib.hid (by unfold atPV; rw [if_pos hz])
  unfold chkTV at C
  obtain ⟨i, e, hie⟩ : ∃ i e, chkT symS t = (i, e) := ⟨_, _, rfl⟩
  rw [hie] at C HV hz
  have hne : (e != 0) = true := bne_iff_ne.2 hz
  obtain ⟨a, c, rfl⟩ := h.slice
  clear h KB hz hie
  go_enter Tryd.func30, Tryd.ntmps30
  go_wp2_with fail
  refine C.out.mono ?_
  rintro e' w2 ⟨rfl, hb2⟩
  go_wp2_with fail
  go_ret2
  exact ⟨(congrArg Ending.returned HV.out).symm, hb2⟩
theorem rAt_any (v vp : Value) (t : List Nd) (l : List Int) (w : World) (h : NdsAt w v t) (hp : IntRow w vp l) (KB : KidsB t) (T : STabs w) (hcv : capOk v) (hll : l.length ≤ 1000000) :
    Calls Tryd.prog 30 #[v, vp] w fun e w' => e = .returned (atPV symS t l) ∧ Below w.heap.size w w' := by
  by_cases hz : (chkT symS t).2 = 0
  · exact rAt_ok v vp t l w ⟨h, hcv, KB, T, hz⟩ hp hll
  · exact rAt_bad v vp t l w h KB hz
end Go.Proofs.YtdbgmbbchjfpdaaDoor
