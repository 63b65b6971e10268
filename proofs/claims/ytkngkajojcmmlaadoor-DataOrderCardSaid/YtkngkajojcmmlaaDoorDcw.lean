/- Compare. -/
import Derived.Test.YtkngkajojcmmlaaDoorDcz
namespace Go.Proofs.YtkngkajojcmmlaaDoor
open Go.RowKit Go.Shelf Go.PlainAid

def cmpE (a b : List Nd) : Int := if (chkT symS a).2 ≠ 0 then (chkT symS a).2 else (chkT symS b).2
def cmpZ (a b : List Nd) : Int := if cmpE a b ≠ 0 then 0 else ordT a b
/-- What Compare returns. -/
def cmpV (a b : List Nd) : Value := .tuple #[.int .i64 (cmpZ a b), .int .i64 (cmpE a b)]
set_option maxRecDepth 50000 in
set_option maxHeartbeats 3200000 in
theorem Compare_any (v v' : Value) (a b : List Nd) (w : World) (h : NdsAt w v a) (h' : NdsAt w v' b) (KB : KidsB a) (KB' : KidsB b) (T : STabs w) :
    Calls Tryd.prog 40 #[v, v'] w fun e w' => e = .returned (cmpV a b) ∧ Below w.heap.size w w' := by
  have T1 := Lib.hid (treeOf_any symS v a w h (Lib.hid (symAll_of T)) (Lib.hid KB))
  have T2 := Lib.hid (fun W (hW : Below w.heap.size w W) => treeOf_any symS v' b W (h'.below hW (Nat.le_refl _)) (Lib.hid (symAll_of (T.below hW))) (Lib.hid KB'))
  by_cases h1 : (chkT symS a).2 = 0
  · obtain ⟨a1, a2, a3, _⟩ := chkT_ok h1
    obtain ⟨g, o, c, rfl, hg, hc⟩ := h.some a2
    by_cases h2 : (chkT symS b).2 = 0
    · obtain ⟨b1, b2, b3, _⟩ := chkT_ok h2
      obtain ⟨g', o', c', rfl, hg', hc'⟩ := h'.some b2
      have HV : Hid (cmpV a b = .tuple #[.int .i64 (ordF a b 401 0 0), .int .i64 0]) := Lib.hid (by
        have e : cmpE a b = 0 := by unfold cmpE; rw [if_neg (by rw [h1]; simp)]; exact h2
        unfold cmpV cmpZ; rw [e, if_neg (by simp)]; rfl)
      have HCmp : Hid (∀ W ge ge', Below w.heap.size w W → ge < W.heap.size → ge' < W.heap.size → (∀ (j q : Nat), (endsL (kidsL a))[j]? = some q → W.cell? ⟨ge, j, none⟩ = some (.int .i64 (q : Int))) → (∀ (j q : Nat), (endsL (kidsL b))[j]? = some q → W.cell? ⟨ge', j, none⟩ = some (.int .i64 (q : Int))) →
          Calls Tryd.prog 72 #[.agg #[.slice (some ⟨g, o, none⟩) a.length c, .slice (some ⟨ge, 0, none⟩) a.length a.length], .agg #[.slice (some ⟨g', o', none⟩) b.length c', .slice (some ⟨ge', 0, none⟩) b.length b.length], .int .i64 0, .int .i64 0] W fun e w' => e = .returned (.int .i64 (ordF a b 401 0 0)) ∧ Below W.heap.size W w') := Lib.hid fun W ge ge' hW l1 l2 e1 e2 =>
        compareAt_go g o a.length c ge g' o' b.length c' ge' a b W (Lib.hid ⟨rfl, a1, a3, Nat.lt_of_lt_of_le hg hW.size, fun j u hj => (hW.cell (p := ⟨g, o + j, none⟩) hg).trans (hc j u hj), l1, e1⟩) (Lib.hid ⟨rfl, b1, b3, Nat.lt_of_lt_of_le hg' hW.size, fun j u hj => (hW.cell (p := ⟨g', o' + j, none⟩) hg').trans (hc' j u hj), l2, e2⟩) 401 0 0 W (Below.refl _ _) (by omega) (List.length_pos_iff.2 a2) (List.length_pos_iff.2 b2)
      obtain ⟨n, hn⟩ : ∃ n, a.length = n := ⟨_, rfl⟩
      obtain ⟨m, hm⟩ : ∃ m, b.length = m := ⟨_, rfl⟩
      have HN := Lib.hid hn
      have HM := Lib.hid hm
      rw [hn, hm] at HCmp
      rw [hn] at T1 ⊢
      rw [hm] at T2 ⊢
      have H1 := Lib.hid h1
      have H2 := Lib.hid h2
      obtain ⟨R, hR⟩ : ∃ R, ordF a b 401 0 0 = R := ⟨_, rfl⟩
      rw [hR] at HCmp HV
      clear h h' hc hc' KB KB' T h1 h2 a1 a2 a3 b1 b2 b3 hn hm hR
      go_enter Tryd.func40, Tryd.ntmps40
      go_wp2_with fail
      refine T1.out.mono ?_
      rintro e w2 ⟨_, hok, hb2⟩
      obtain ⟨ve, rfl, ge, rfl, hge, hgl, hgc⟩ := hok H1.out
      rw [HN.out]
      have HGC := Lib.hid hgc
      clear hok hgc
      go_wp2_with fail
      -- MARK1
      obtain ⟨W3, hW3⟩ : ∃ W3, W3 = w2.alloc (.cells #[.slice (some ⟨g, o, none⟩) n c, .slice (some ⟨ge, 0, none⟩) n n] 72) := ⟨_, rfl⟩
      have hbk : W3.heap[w2.heap.size]? = some (.cells #[.slice (some ⟨g, o, none⟩) n c, .slice (some ⟨ge, 0, none⟩) n n] 72 (0, 0)) := by rw [hW3]; exact World.alloc_heap_new _ _
      have hb3 : Below w2.heap.size w2 W3 := by rw [hW3]; exact below_b1 _ _
      rw [← hW3]
      clear hW3
      obtain ⟨g6, hg6⟩ : ∃ g6, w2.heap.size = g6 := ⟨_, rfl⟩
      rw [hg6] at hbk
      have hB3 := hb2.trans (hb3.mono hb2.size)
      refine (T2.out W3 hB3).mono ?_
      rintro e w4 ⟨_, hok, hb4⟩
      obtain ⟨ve', rfl, ge', rfl, hge', hgl', hgc'⟩ := hok H2.out
      rw [HM.out]
      have HGC' := Lib.hid hgc'
      have hbk4 := (hb4.block g6 (Array.getElem?_eq_some_iff.1 hbk).1).trans hbk
      have hl4 : g6 < w4.heap.size := (Array.getElem?_eq_some_iff.1 hbk4).1
      have hB4 := hB3.trans (hb4.mono hB3.size)
      have l3 := hb3.size
      have l4 := hb4.size
      have HGC4 : Hid (∀ (j q : Nat), (endsL (kidsL a))[j]? = some q → w4.cell? ⟨ge, j, none⟩ = some (.int .i64 (q : Int))) := Lib.hid fun j q hj => ((hb4.cell (p := ⟨ge, j, none⟩) (by show ge < W3.heap.size; omega)).trans (hb3.cell (p := ⟨ge, j, none⟩) hgl)).trans (HGC.out j q hj)
      obtain ⟨f0, f1, _, _⟩ := box_facts hbk4
      have hne : w4.heap.size ≠ g6 := by omega
      clear hok hgc'
      go_wp2_with fail
      -- MARK2
      obtain ⟨W5, hW5⟩ : ∃ W5, W5 = w4.alloc (.cells #[.slice (some ⟨g', o', none⟩) m c', .slice (some ⟨ge', 0, none⟩) m m] 72) := ⟨_, rfl⟩
      have hb5 : Below w4.heap.size w4 W5 := by rw [hW5]; exact below_b1 _ _
      have l5 := hb5.size
      have hB5 := hB4.trans (hb5.mono hB4.size)
      have CC := Lib.hid (HCmp.out W5 ge ge' hB5 (by omega) (by omega) (fun j q hj => (hb5.cell (p := ⟨ge, j, none⟩) (by show ge < w4.heap.size; omega)).trans (HGC4.out j q hj)) (fun j q hj => (hb5.cell (p := ⟨ge', j, none⟩) (by show ge' < w4.heap.size; omega)).trans (HGC'.out j q hj)))
      rw [← hW5]
      clear hW5 hbk hbk4 HCmp
      refine CC.out.mono ?_
      rintro e w6 ⟨rfl, hb6⟩
      go_wp2_with fail
      -- MARK3
      go_ret2
      exact ⟨(congrArg Ending.returned HV.out).symm, hB5.trans (hb6.mono hB5.size)⟩
    · obtain ⟨e2, he2⟩ : ∃ e2, (chkT symS b).2 = e2 := ⟨_, rfl⟩
      have HV : Hid (cmpV a b = .tuple #[.int .i64 0, .int .i64 e2]) := Lib.hid (by
        have e : cmpE a b = e2 := by unfold cmpE; rw [if_neg (by rw [h1]; simp)]; exact he2
        unfold cmpV cmpZ; rw [e, if_pos (by rw [← he2]; exact h2)])
      have H1 := Lib.hid h1
      have H2 := Lib.hid h2
      have HE := Lib.hid he2
      rw [he2] at h2
      have hne : (e2 != 0) = true := bne_iff_ne.2 h2
      obtain ⟨a', c', rfl⟩ := h'.slice
      obtain ⟨n, hn⟩ : ∃ n, a.length = n := ⟨_, rfl⟩
      obtain ⟨m, hm⟩ : ∃ m, b.length = m := ⟨_, rfl⟩
      have HN := Lib.hid hn
      have HM := Lib.hid hm
      rw [hn] at T1 ⊢
      rw [hm] at T2 ⊢
      clear h h' hc KB KB' T h1 h2 a1 a2 a3 hn hm he2
      go_enter Tryd.func40, Tryd.ntmps40
      go_wp2_with fail
      refine T1.out.mono ?_
      rintro e w2 ⟨_, hok, hb2⟩
      obtain ⟨ve, rfl, ge, rfl, hge, hgl, hgc⟩ := hok H1.out
      rw [HN.out]
      clear hok hgc
      go_wp2_with fail
      obtain ⟨W3, hW3⟩ : ∃ W3, W3 = w2.alloc (.cells #[.slice (some ⟨g, o, none⟩) n c, .slice (some ⟨ge, 0, none⟩) n n] 72) := ⟨_, rfl⟩
      have hb3 : Below w2.heap.size w2 W3 := by rw [hW3]; exact below_b1 _ _
      rw [← hW3]
      clear hW3
      have hB3 := hb2.trans (hb3.mono hb2.size)
      refine (T2.out W3 hB3).mono ?_
      rintro e w4 ⟨hbad, _, hb4⟩
      obtain rfl := hbad H2.out
      rw [HE.out]
      unfold zeroTree
      have hB4 := hB3.trans (hb4.mono hB3.size)
      clear hbad
      go_wp2_with fail
      -- MARK4
      go_ret2
      exact ⟨(congrArg Ending.returned HV.out).symm, hB4.alloc hB4.size _⟩
  · obtain ⟨e2, he2⟩ : ∃ e2, (chkT symS a).2 = e2 := ⟨_, rfl⟩
    have HV : Hid (cmpV a b = .tuple #[.int .i64 0, .int .i64 e2]) := Lib.hid (by
      have e : cmpE a b = e2 := by unfold cmpE; rw [if_pos h1]; exact he2
      unfold cmpV cmpZ; rw [e, if_pos (by rw [← he2]; exact h1)])
    have H1 := Lib.hid h1
    have HE := Lib.hid he2
    rw [he2] at h1
    have hne : (e2 != 0) = true := bne_iff_ne.2 h1
    obtain ⟨a', c', rfl⟩ := h'.slice
    obtain ⟨a0, c0, rfl⟩ := h.slice
    clear h h' KB KB' T h1 he2 T2
    go_enter Tryd.func40, Tryd.ntmps40
    go_wp2_with fail
    refine T1.out.mono ?_
    rintro e w2 ⟨hbad, _, hb2⟩
    obtain rfl := hbad H1.out
    rw [HE.out]
    unfold zeroTree
    clear hbad
    go_wp2_with fail
    -- MARK5
    go_ret2
    exact ⟨(congrArg Ending.returned HV.out).symm, hb2.alloc hb2.size _⟩
end Go.Proofs.YtkngkajojcmmlaaDoor
