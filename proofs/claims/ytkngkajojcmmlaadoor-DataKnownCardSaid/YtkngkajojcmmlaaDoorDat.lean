/- The program's At. -/
import Derived.Test.YtkngkajojcmmlaaDoorDsub2
namespace Go.Proofs.YtkngkajojcmmlaaDoor
open Go.RowKit Go.Shelf Go.PlainAid

set_option maxRecDepth 50000 in
set_option maxHeartbeats 1600000 in
theorem At_bad (sy : List UInt8 → Bool) (v vp : Value) (t : List Nd) (l : List Int) (w : World) (h : NdsAt w v t) (HS : Hid (SymAll 16 sy w)) (KB : Hid (KidsB t)) (hz : (chkT sy t).2 ≠ 0) :
    Calls Tryd.prog 29 #[v, vp] w fun e w' => e = .returned (atPV sy t l) ∧ Below w.heap.size w w' := by
  have C := Lib.hid (treeOf_any sy v t w h HS KB)
  have HV : Hid (atPV sy t l = .tuple #[.int .i64 0, .int .i64 (chkT sy t).2]) := Lib.hid (by unfold atPV; rw [if_pos hz])
  obtain ⟨a, c, rfl⟩ := h.slice
  have hne : ((chkT sy t).2 != 0) = true := bne_iff_ne.2 hz
  have HZ := Lib.hid hz
  clear h HS KB hz
  go_enter Tryd.func29, Tryd.ntmps29
  go_wp2_with fail
  refine C.out.mono ?_
  rintro e' w2 ⟨hbad, _, hb2⟩
  obtain rfl := hbad HZ.out
  unfold zeroTree
  clear hbad
  go_wp2_with fail
  go_ret2
  exact ⟨(congrArg Ending.returned HV.out).symm, hb2.alloc hb2.size _⟩

theorem fol_step {ks : List Nat} {l : List Int} {j k : Nat} {x : Int} (h : l[k]? = some x) : fol ks j (l.drop k) = if 0 ≤ x ∧ x < (cnt ks j : Int) then fol ks (posK ks j x.toNat) (l.drop (k + 1)) else none := by
  obtain ⟨hk, rfl⟩ := List.getElem?_eq_some_iff.1 h
  rw [List.drop_eq_getElem_cons hk, fol]

set_option maxRecDepth 50000 in
set_option maxHeartbeats 3200000 in
theorem At_ok (sy : List UInt8 → Bool) (v vp : Value) (t : List Nd) (l : List Int) (w : World) (h : NdsAt w v t) (hp : IntRow w vp l) (HS : Hid (SymAll 16 sy w)) (KB : Hid (KidsB t)) (hz : (chkT sy t).2 = 0) (hll : l.length ≤ 1000000) :
    Calls Tryd.prog 29 #[v, vp] w fun e w' => e = .returned (atPV sy t l) ∧ Below w.heap.size w w' := by
  have C := Lib.hid (treeOf_any sy v t w h HS KB)
  obtain ⟨a, c, rfl⟩ := h.slice
  obtain ⟨ap, cp, rfl, hA⟩ := hp
  obtain ⟨hT, hne, hl, _, _⟩ := chkT_ok hz
  obtain ⟨n, hn⟩ : ∃ n, t.length = n := ⟨_, rfl⟩
  have hn0 : 0 < n := by rw [← hn]; exact List.length_pos_iff.2 hne
  have HV1 : Hid (∀ j, fol (kidsL t) 0 l = some j → atPV sy t l = .tuple #[.int .i64 (j : Int), .int .i64 0]) := Lib.hid fun j hj => by unfold atPV; rw [if_neg (by rw [hz]; simp), hj]
  have HV2 : Hid (fol (kidsL t) 0 l = none → atPV sy t l = .tuple #[.int .i64 0, .int .i64 4]) := Lib.hid fun hj => by unfold atPV; rw [if_neg (by rw [hz]; simp), hj]
  have HP : Hid (∀ W, Below w.heap.size w W → ∀ (k : Nat) (x : Int), l[k]? = some x → ∃ g o, ap = some ⟨g, o, none⟩ ∧ W.cell? ⟨g, o + k, none⟩ = some (.int .i64 x)) := Lib.hid fun W hW k x hx => by
    rcases hA with rfl | ⟨g, o, rfl, hg, hc⟩
    · cases hx
    · exact ⟨g, o, rfl, (hW.cell (p := ⟨g, o + k, none⟩) hg).trans (hc k x hx)⟩
  obtain ⟨pl, hpl⟩ : ∃ pl, l.length = pl := ⟨_, rfl⟩
  have HPL := Lib.hid hpl
  have HN := Lib.hid hn
  have HT := Lib.hid hT
  have HZ := Lib.hid hz
  rw [hn] at hl C
  rw [hpl] at hll
  rw [hn, hpl]
  have hkl := Lib.hid (kidsL_len t ▸ hn : (kidsL t).length = n)
  clear h HS KB hz hT hn hne hpl hA
  go_enter Tryd.func29, Tryd.ntmps29
  go_wp2_with fail
  -- MARK2
  refine C.out.mono ?_
  rintro e' w2 ⟨_, hok, hb2⟩
  obtain ⟨ve, rfl, ge, rfl, hge, hgl, hgc⟩ := hok HZ.out
  have HGC := Lib.hid hgc
  rw [HN.out]
  clear hok hgc C
  go_wp2_with fail
  -- MARK3
  obtain ⟨W3, hW3⟩ : ∃ W3, W3 = w2.alloc (.cells #[.slice a n c, .slice (some ⟨ge, 0, none⟩) n n] 72) := ⟨_, rfl⟩
  have hb3 : Below w2.heap.size w2 W3 := by rw [hW3]; exact below_b1 _ _
  have hB3 : Below w.heap.size w W3 := hb2.trans (hb3.mono hb2.size)
  have hbk3 : W3.heap[w2.heap.size]? = some (.cells #[.slice a n c, .slice (some ⟨ge, 0, none⟩) n n] 72 (0, 0)) := by rw [hW3]; exact World.alloc_heap_new _ _
  obtain ⟨g6, hg6⟩ : ∃ g6, w2.heap.size = g6 := ⟨_, rfl⟩
  rw [hg6] at hbk3 hgl hb3
  have HF : Hid (∀ W, Below W3.heap.size W3 W → W.cell? ⟨g6, 0, none⟩ = some (.slice a n c) ∧ W.cell? ⟨g6, 1, none⟩ = some (.slice (some ⟨ge, 0, none⟩) n n) ∧ ge < W.heap.size ∧ (∀ (j q : Nat), (endsL (kidsL t))[j]? = some q → W.cell? ⟨ge, j, none⟩ = some (.int .i64 (q : Int)))) := Lib.hid fun W hW => by
    have hk := (hW.block g6 (Array.getElem?_eq_some_iff.1 hbk3).1).trans hbk3
    obtain ⟨d0, d1, _, _⟩ := box_facts hk
    have := hb3.size
    have := hW.size
    refine ⟨d0, d1, by omega, fun j q hj => ?_⟩
    have e1 := (hb3.cell (p := ⟨ge, j, none⟩) hgl).trans (HGC.out j q hj)
    exact (hW.cell (p := ⟨ge, j, none⟩) (by show ge < W3.heap.size; omega)).trans e1
  rw [← hW3, hg6]
  clear hW3 hbk3 hb2 hb3 hgl hge hg6 HGC
  have hB30 := Lib.hid hB3
  have hle3 := hB3.size
  go_loopw [8, 22] (fun x8 x22 wr => ∃ (j k : Nat), x8 = .int .i64 (j : Int) ∧ x22 = .int .i64 (k : Int) ∧ k ≤ pl ∧ j < n ∧ Hid (fol (kidsL t) j (l.drop k) = fol (kidsL t) 0 l) ∧ Below W3.heap.size W3 wr) (fun _ x22 _ => pl - (intOf x22).toNat)
  case atStart => exact ⟨0, 0, rfl, rfl, Nat.zero_le _, hn0, Lib.hid rfl, Below.refl _ _⟩
  case round =>
    obtain ⟨j, k, rfl, rfl, hk, hj, HFol, hbr⟩ := hrel
    obtain ⟨d0, d1, hglr, hgcr⟩ := HF.out wr hbr
    have hbw := hB30.out.trans (hbr.mono hle3)
    have hk0 : (0 : Int) ≤ (k : Int) := Int.natCast_nonneg _
    by_cases hlt : k < pl
    · obtain ⟨x, hx⟩ : ∃ x, l[k]? = some x := ⟨_, List.getElem?_eq_getElem (by rw [HPL.out]; exact hlt)⟩
      obtain ⟨gp, op, rfl, d2⟩ := HP.out wr hbw k x hx
      have hk1 : (k : Int) < (pl : Int) := by omega
      have CK := Lib.hid (coll_kids a c ge n j t wr HN.out HT.out hj hl hglr hgcr)
      have hst := fol_step (ks := kidsL t) (j := j) hx
      rw [HFol.out] at hst
      have HSt := Lib.hid hst
      obtain ⟨m, hm⟩ : ∃ m, cnt (kidsL t) j = m := ⟨_, rfl⟩
      have HMx := Lib.hid hm
      clear hgcr hx hst hm
      go_wp2_with fail
      -- MARK5
      refine (kids_mk _ _ _ _ _ _ _ _).mono ?_
      rintro e' w5 ⟨rfl, rfl⟩
      go_wp2_with fail
      -- MARK6
      refine CK.out.mono ?_
      rintro e' w6 ⟨vk, rfl, hok6, hb6⟩
      have hbr6 := hbr.trans (hb6.mono hbr.size)
      rw [kidsN_len] at hok6
      obtain ⟨a6, c6, rfl, h6⟩ := collect_form hok6 (kidsN_len _ _)
      rw [HMx.out]
      have H6 := Lib.hid h6
      clear h6 hok6 CK
      by_cases hx0 : x < 0
      · have e0 : decide (x < 0) = true := decide_eq_true hx0
        have HNo : Hid (fol (kidsL t) 0 l = none) := Lib.hid (by rw [HSt.out, if_neg (by omega)])
        go_wp2_with fail
        go_ret2
        exact ⟨(congrArg Ending.returned (HV2.out HNo.out)).symm, hB30.out.trans (hbr6.mono hle3)⟩
      · have e0 : decide (x < 0) = false := decide_eq_false hx0
        by_cases hx1 : (m : Int) ≤ x
        · have e1 : decide ((m : Int) ≤ x) = true := decide_eq_true hx1
          have HNo : Hid (fol (kidsL t) 0 l = none) := Lib.hid (by rw [HSt.out, if_neg (by rw [HMx.out]; omega)])
          go_wp2_with fail
          go_ret2
          exact ⟨(congrArg Ending.returned (HV2.out HNo.out)).symm, hB30.out.trans (hbr6.mono hle3)⟩
        · have e1 : decide ((m : Int) ≤ x) = false := decide_eq_false hx1
          obtain ⟨q, rfl⟩ : ∃ q : Nat, x = (q : Int) := ⟨x.toNat, by omega⟩
          have hq0 : (0 : Int) ≤ (q : Int) := Int.natCast_nonneg _
          have hq1 : (q : Int) < (m : Int) := by omega
          have hqm : q < cnt (kidsL t) j := by rw [HMx.out]; omega
          obtain ⟨_, p2, _⟩ := HT.out.pos_step (i := j) (by rw [hkl.out]; exact hj) hqm
          rw [hkl.out] at p2
          have HFol2 : Hid (fol (kidsL t) (posK (kidsL t) j q) (l.drop (k + 1)) = fol (kidsL t) 0 l) := Lib.hid (by rw [HSt.out, if_pos (by rw [HMx.out]; omega), Int.toNat_natCast])
          rcases H6.out with h0 | ⟨gk, rfl, _, hgk, hck⟩
          · have := kidsN_at hqm; rw [h0] at this; cases this
          have d6 := hck q _ (kidsN_at hqm)
          obtain ⟨j', hj'⟩ : ∃ j', posK (kidsL t) j q = j' := ⟨_, rfl⟩
          rw [hj'] at d6 HFol2 p2
          clear hck hqm hj' H6
          go_wp2_with fail
          -- MARK7
          go_roundw
          case rel => exact ⟨j', k + 1, rfl, by go_num, by omega, p2, HFol2, hbr6⟩
          case measure => simp [intOf]; omega
    · obtain rfl : k = pl := by omega
      have HSome : Hid (fol (kidsL t) 0 l = some j) := Lib.hid (by rw [← HFol.out, List.drop_of_length_le (Nat.le_of_eq HPL.out)]; rfl)
      clear hgcr
      go_wp2_with fail
      go_ret2
      exact ⟨(congrArg Ending.returned (HV1.out j HSome.out)).symm, hbw⟩
theorem At_any (sy : List UInt8 → Bool) (v vp : Value) (t : List Nd) (l : List Int) (w : World) (h : NdsAt w v t) (hp : IntRow w vp l) (HS : Hid (SymAll 16 sy w)) (KB : Hid (KidsB t)) (hll : l.length ≤ 1000000) :
    Calls Tryd.prog 29 #[v, vp] w fun e w' => e = .returned (atPV sy t l) ∧ Below w.heap.size w w' := by
  by_cases hz : (chkT sy t).2 = 0
  · exact At_ok sy v vp t l w h hp HS KB hz hll
  · exact At_bad sy v vp t l w h HS KB hz
end Go.Proofs.YtkngkajojcmmlaaDoor
