import Derived.Test.YtbmgpenllpbioaaGreatDoorZd
import Derived.Deep.LoopGhost
import Derived.Deep.RegionHeld3
import Derived.Laws.OwnMore
/- Layer 4: Check. -/
namespace Go.Proofs.YtbmgpenllpbioaaGreatDoor
open Go.RowKit Go.PlainAid

theorem new_cells1 (w : World) (a : Value) (t : TypeId) (n : Nat) (hn : w.heap.size = n) : ∀ j u, [a][j]? = some u → (w.alloc (.cells #[a] t)).cell? ((⟨n, 0, none⟩ : Addr).add j) = some u := by
  subst hn; exact new_cells w [a] t
/-- Numbers of children are ints. -/
def KidsB (t : List Nd) : Prop := ∀ x ∈ t, x.2.1 ≤ 9223372036854775807
def StB (st : List Nat) : Prop := ∀ a ∈ st, (a : Int) ≤ 9223372036854775807
theorem popZ_mem {st : List Nat} {a : Nat} (h : a ∈ popZ st) : a ∈ st := (List.dropWhile_suffix (l := st) (p := fun x => x == 0)).subset h
theorem stB_push {k : Nat} {st : List Nat} (h : StB st) (hk : (k : Int) ≤ 9223372036854775807) : StB (pushN k st) := by
  cases st with
  | nil => intro a ha; cases ha
  | cons q r =>
    intro a ha
    rw [pushN_cons] at ha
    rcases List.mem_cons.1 (popZ_mem ha) with e | e
    · rw [e]; exact hk
    · rcases List.mem_cons.1 e with e | e
      · have := h q (by simp); omega
      · exact h a (by simp [e])

set_option maxRecDepth 50000 in
set_option maxHeartbeats 3200000 in
theorem check_go (sy : List UInt8 → Bool) (g off c n : Nat) (t : List Nd) (w : World) (hg : g < w.heap.size) (hc : ∀ j u, (dcs t)[j]? = some u → w.cell? ⟨g, off + j, none⟩ = some u) (hn : n = t.length) (h0 : 0 < n) (hl : n ≤ 400)
    (HS : Hid (SymAll 92 sy w)) (KB : Hid (KidsB t)) :
    Calls Tryz.prog 60 #[.slice (some ⟨g, off, none⟩) n c] w fun e w' => e = .returned (chkTV sy t) ∧ Below w.heap.size w w' := by
  have HT : Hid (chkT sy t = chkGo (ndE sy) [1] 0 t) := Lib.hid (by
    unfold chkT chkD
    rw [if_neg (by intro e; rw [e] at hn; simp at hn; omega), if_neg (by omega)])
  have HC := Lib.hid hc
  have HN := Lib.hid hn
  have hd1 : ((n : Int) == 0) = false := beq_eq_false_iff_ne.2 (by omega)
  have hd2 : decide ((400 : Int) < (n : Int)) = false := decide_eq_false (by omega)
  have HO0 : Hid ((w.alloc (.cells #[.int .i64 1] 3)).ownsRow w.heap.size 3 1 (.slice (some ⟨w.heap.size, 0, none⟩) 1 1) 1 (stV [1])) := Lib.hid (own_mk w (stV [1]) _ 1 rfl (by decide))
  clear hc hn
  go_enter Tryz.func60, Tryz.ntmps60
  go_wp2_with fail
  -- MARK1
  go_loopw [4, 18] (fun x4 x18 wr => ∃ (k m : Nat) (st : List Nat) (a : Option Addr) (cp : Nat), x4 = .slice a m cp ∧ x18 = .int .i64 k ∧ k ≤ n ∧ Hid (st.length = m) ∧ m ≤ k + 1 ∧ Hid (topN st) ∧ Hid (StB st) ∧ Hid (ChkAt (ndE sy) t k st) ∧ Hid (wr.ownsRow w.heap.size 3 1 (.slice a m cp) m (stV st)) ∧ Below w.heap.size w wr) (fun _ x18 _ => n - (intOf x18).toNat)
  case atStart => exact ⟨0, 1, [1], _, _, rfl, rfl, Nat.zero_le _, Lib.hid rfl, by omega, Lib.hid (by intro a h; cases h; decide), Lib.hid (by intro a h; have := List.mem_singleton.1 h; omega), Lib.hid (chkAt_start _ _), HO0, (Below.refl _ w).alloc (Nat.le_refl _) _⟩
  case round =>
    obtain ⟨k, m, st, a, cp, rfl, rfl, hk, HM, hmk, HTop, HQB, HA, HO, hb⟩ := hrel
    have hcap := own_capR HO.out
    by_cases hlt : k < n
    · obtain ⟨x, hx⟩ : ∃ x, t[k]? = some x := ⟨_, List.getElem?_eq_getElem (by rw [← HN.out]; exact hlt)⟩
      have HX := Lib.hid hx
      obtain ⟨d0, d1, d2, d3⟩ := dcs_at t hx
      have c0 : wr.cell? ⟨g, off + k * 4, none⟩ = some (.int .i64 x.1) := (hb.cell (p := ⟨g, off + k * 4, none⟩) hg).trans (HC.out _ _ d0)
      have c1 : wr.cell? ⟨g, off + k * 4 + 1, none⟩ = some (.int .i64 x.2.1) := (hb.cell (p := ⟨g, off + k * 4 + 1, none⟩) hg).trans (HC.out _ _ d1)
      have c2 : wr.cell? ⟨g, off + k * 4 + 2, none⟩ = some (.int .i64 x.2.2.1) := (hb.cell (p := ⟨g, off + k * 4 + 2, none⟩) hg).trans (HC.out _ _ d2)
      have c3 : wr.cell? ⟨g, off + k * 4 + 3, none⟩ = some (.string (str x.2.2.2)) := (hb.cell (p := ⟨g, off + k * 4 + 3, none⟩) hg).trans (HC.out _ _ d3)
      clear hx d0 d1 d2 d3
      obtain ⟨x0, x1, x2, x3⟩ := x
      simp only at c0 c1 c2 c3
      have hk0 : (0 : Int) ≤ (k : Int) := Int.natCast_nonneg _
      have hk1 : (k : Int) < (n : Int) := by omega
      cases m with
      | zero =>
        have hst : st = [] := List.length_eq_zero_iff.1 HM.out
        have HE : Hid (chkTV sy t = .tuple #[.int .i64 (k : Int), .int .i64 6]) := Lib.hid (by
          have hA := HA.out
          rw [hst] at hA
          unfold chkTV; rw [HT.out, chkAt_over hA HX.out])
        clear hst
        have hbx : Below w.heap.size w (wr.alloc (.cells #[.int .i64 x0, .int .i64 x1, .int .i64 x2, .string (str x3)] 49)) := hb.alloc hb.size _
        go_wp2_with fail
        -- MARK2
        go_ret2
        exact ⟨(congrArg Ending.returned HE.out).symm, by first | exact hbx | exact hb⟩
      | succ m =>
        obtain ⟨q, r, hst⟩ : ∃ q r, st = q :: r := by
          cases st with
          | nil => have := HM.out; simp at this
          | cons q r => exact ⟨_, _, rfl⟩
        subst hst
        have hrm : r.length = m := by have := HM.out; simpa using this
        have hq : q ≠ 0 := HTop.out q rfl
        rcases own_formR HO.out with ⟨_, h00⟩ | ⟨gs, cs, hv, hgs, hgs2⟩
        · omega
        obtain ⟨rfl, _, rfl⟩ := Value.slice.inj hv
        clear hv
        obtain ⟨W2, hW2⟩ : ∃ W2, W2 = wr.alloc (.cells #[.int .i64 x0, .int .i64 x1, .int .i64 x2, .string (str x3)] 49) := ⟨_, rfl⟩
        have hbW2 : Below w.heap.size w W2 := by rw [hW2]; exact hb.alloc hb.size _
        have hbX2 : Below wr.heap.size wr W2 := by rw [hW2]; exact (Below.refl _ wr).alloc (Nat.le_refl _) _
        have HCells : Hid (∀ W, Below W2.heap.size W2 W → W.cell? ⟨wr.heap.size, 0, none⟩ = some (.int .i64 x0) ∧ W.cell? ⟨wr.heap.size, 1, none⟩ = some (.int .i64 x1) ∧ W.cell? ⟨wr.heap.size, 2, none⟩ = some (.int .i64 x2) ∧ W.cell? ⟨wr.heap.size, 3, none⟩ = some (.string (str x3))) := Lib.hid fun W hW => by
          have hcn := World.alloc_heap_new wr (.cells #[.int .i64 x0, .int .i64 x1, .int .i64 x2, .string (str x3)] 49)
          rw [← hW2] at hcn
          have hcn2 := (hW.block wr.heap.size (Array.getElem?_eq_some_iff.1 hcn).1).trans hcn
          exact ⟨by simp [World.cell?, hcn2], by simp [World.cell?, hcn2], by simp [World.cell?, hcn2], by simp [World.cell?, hcn2]⟩
        have CN : Hid (∀ W, Below W2.heap.size W2 W → Calls Tryz.prog 80 #[.agg #[.int .i64 x0, .int .i64 x1, .int .i64 x2, .string (str x3)], .int .i64 (m : Int)] W fun e w' => e = .returned (.int .i64 (ndE sy (x0, x1, x2, x3) (m : Int))) ∧ Below W.heap.size W w') := Lib.hid fun W hW =>
          checkNode_any x0 x1 x2 x3 _ _ rfl (m : Int) W (Lib.hid ((HS.out.below (hbW2.trans (hW.mono hbW2.size))) x3))
        have HK : Hid ((((q :: r : List Nat).length : Int) - 1) = (m : Int)) := Lib.hid (by rw [List.length_cons, hrm]; omega)
        obtain ⟨ee, hee⟩ : ∃ ee, ndE sy (x0, x1, x2, x3) (m : Int) = ee := ⟨_, rfl⟩
        rw [hee] at CN
        by_cases he : ee = 0
        · subst he
          have hxk : 0 ≤ x1 := ndE_kids hee
          have HA2 := Lib.hid (chkAt_step HA.out HX.out (by simp) (by rw [HK.out]; exact hee))
          obtain ⟨x1, rfl⟩ : ∃ y : Nat, x1 = (y : Int) := ⟨x1.toNat, by omega⟩
          have d0 : wr.cell? ⟨gs, m, none⟩ = some (.int .i64 (q : Int)) := own_cell HO.out (by rw [← hrm]; exact stV_top q r)
          clear hee
          go_wp2_with fail
          -- MARK3
          rw [← hW2]
          clear hW2
          refine (CN.out _ (Below.refl _ _)).mono ?_
          rintro e w3 ⟨rfl, hb3⟩
          obtain ⟨y0, y1, y2, y3⟩ := HCells.out _ hb3
          have hbX3 : Below wr.heap.size wr w3 := hbX2.trans (hb3.mono hbX2.size)
          have hbW3 : Below w.heap.size w w3 := hb.trans (hbX3.mono hb.size)
          have HO3 := Lib.hid (own_below HO.out hbX3)
          have t0 : w3.cell? ⟨gs, m, none⟩ = some (.int .i64 (q : Int)) := (hbX3.cell (p := ⟨gs, m, none⟩) hgs2).trans d0
          have t1 : w3.frozen? ⟨gs, m, none⟩ = false := HO3.out.frozenAt m
          have hqq : ((q - 1 : Nat) : Int) = (q : Int) - 1 := by omega
          have HO4 : Hid ((w3.setCell ⟨gs, m, none⟩ (.int .i64 ((q : Int) - 1))).ownsRow w.heap.size 3 1 (.slice (some ⟨gs, 0, none⟩) (m + 1) cp) (m + 1) (stV ((q - 1) :: r))) := Lib.hid (by
            have h1 := (HO3.out.stored m (.int .i64 ((q : Int) - 1))).1
            rw [← hrm, ← hqq, stV_set, hrm, hqq] at h1; exact h1)
          have z1 : (w3.setCell ⟨gs, m, none⟩ (.int .i64 ((q : Int) - 1))).cell? ⟨wr.heap.size, 1, none⟩ = some (.int .i64 (x1 : Int)) := by
            rw [World.cell?_setCell_far _ _ _ _ (by show gs ≠ wr.heap.size; omega)]; exact y1
          have hb4 : Below w.heap.size w (w3.setCell ⟨gs, m, none⟩ (.int .i64 ((q : Int) - 1))) := hbW3.setCell hgs _
          have hqb := HQB.out q (by simp)
          have hwq : wrap64 ((q : Int) - 1) = (q : Int) - 1 := (by unfold wrap64; omega)
          clear hqb
          have hm0 : (0 : Int) ≤ (m : Int) := Int.natCast_nonneg _
          have hm1 : (m : Int) < (m : Int) + 1 := by omega
          clear y0 y2 y3 d0 hqq
          obtain ⟨i0, hi, hj0, hj1, hj2⟩ := info_parts2R infoSk
          have hmk3 : m + 2 ≤ 500 := by omega
          go_wp2_with (at_builtin; refine wpList_append_lies _ rfl _ _ 33 rfl w.heap.size 3 i0 (.int .i64 0) 1 8 Tryz.underlying33 hi hj0 hj1 hj2 rfl (by decide) _ _ _ rfl (HO4.out.alloc _) ⟨w3.heap.size, 0, none⟩ 1 1 [.int .i64 (x1 : Int)] rfl rfl (new_cells1 _ _ _ _ (World.size_setCell _ _ _)) (by simp [Value.oneCell']) (by omega) (by unfold maxLen; omega) (by omega) (by rw [World.size_alloc]; have := hb4.size; omega) (w3.heap.size + 1) (by simp) ?_; intro g1 cap1 w5 hown5 hgrow5 hat5 hlt5; have HB5 : Below w.heap.size w w5 := (hb4.alloc hb4.size _).grown hgrow5 (by rw [World.size_alloc]; have := hb4.size; omega) (fun j hj => (HO4.out.lt j hj).1); have HO5 := Lib.hid hown5; clear hown5 hgrow5 hat5)
          -- MARK3a
          have HO6 : Hid (w5.ownsRow w.heap.size 3 1 (.slice (some ⟨g1, 0, none⟩) (m + 2) cap1) (m + 2) (stV (x1 :: (q - 1) :: r))) := Lib.hid (by
            have h1 := HO5.out; rw [← stV_cons] at h1; exact h1)
          have HP : Hid (popZ (x1 :: (q - 1) :: r) = pushN x1 (q :: r)) := Lib.hid rfl
          have HQ2 := Lib.hid (stB_push (k := x1) HQB.out (KB.out _ (List.mem_of_getElem? HX.out)))
          have HL6 : Hid ((x1 :: (q - 1) :: r).length = m + 2) := Lib.hid (by simp [hrm])
          have HB6 := Lib.hid HB5
          clear HO5 hwq z1 t0 t1 y1 hi hj0 hj1 hj2 c0 c1 c2 c3 HO4 HO3 hb4 HB5 hb3 hbX3 hbW3 hbW2 hbX2 hq hrm HO HCells CN hgs hgs2 hcap hlt5 HM HTop hm0 hm1 hxk hk0 hk1
          go_loopw [4] (fun x4 w7 => ∃ (m2 : Nat) (st2 : List Nat) (a2 : Option Addr) (c2 : Nat), x4 = .slice a2 m2 c2 ∧ Hid (st2.length = m2) ∧ m2 ≤ m + 2 ∧ Hid (popZ st2 = pushN x1 (q :: r)) ∧ Hid (w7.ownsRow w.heap.size 3 1 (.slice a2 m2 c2) m2 (stV st2)) ∧ Below w.heap.size w w7) (fun x4 _ => sliceLen x4)
          case atStart => exact ⟨m + 2, _, _, _, rfl, HL6, Nat.le_refl _, HP, HO6, HB6.out⟩
          case round =>
            obtain ⟨m2, st2, a2, c2, rfl, HM2, hm2, HP2, HO7, hb7⟩ := hrel
            have hcap2 := own_capR HO7.out
            cases m2 with
            | zero =>
              have hst2 : st2 = [] := List.length_eq_zero_iff.1 HM2.out
              go_wp2_with fail
              -- MARK3b
              go_roundw
              case rel => exact ⟨k + 1, 0, pushN x1 (q :: r), _, _, rfl, by go_num, by omega, Lib.hid (by rw [← HP2.out, hst2]; rfl), by omega, Lib.hid (pushN_top _ _), HQ2, HA2, Lib.hid (by rw [← HP2.out, hst2]; have := HO7.out; rw [hst2] at this; exact this), hb7⟩
              case measure => simp [intOf]; omega
            | succ j =>
              obtain ⟨q2, r2, hst2⟩ : ∃ q2 r2, st2 = q2 :: r2 := by
                cases st2 with
                | nil => have := HM2.out; simp at this
                | cons q2 r2 => exact ⟨_, _, rfl⟩
              subst hst2
              have hrj : r2.length = j := by have := HM2.out; simpa using this
              rcases own_formR HO7.out with ⟨_, h00⟩ | ⟨g2, cc2, hv2, hg2, hg22⟩
              · omega
              obtain ⟨rfl, _, rfl⟩ := Value.slice.inj hv2
              clear hv2
              have d0 : wr.cell? ⟨g2, j, none⟩ = some (.int .i64 (q2 : Int)) := own_cell HO7.out (by rw [← hrj]; exact stV_top q2 r2)
              have hj0 : (0 : Int) ≤ (j : Int) := Int.natCast_nonneg _
              have hj1 : (j : Int) < (j : Int) + 1 := by omega
              have hj2 : (j : Int) ≤ (c2 : Int) := by omega
              by_cases hz : q2 = 0
              · subst hz
                have HO8 : Hid (wr.ownsRow w.heap.size 3 1 (.slice (some ⟨g2, 0, none⟩) j c2) j (stV r2)) := Lib.hid (by
                  have h1 := own_cutR HO7.out (m := j) (by omega)
                  rw [← hrj, stV_cut, hrj] at h1; exact h1)
                have HP3 : Hid (popZ r2 = pushN x1 (q :: r)) := Lib.hid (by rw [← HP2.out, popZ_zero])
                have HM3 := Lib.hid hrj
                clear hrj HO7 HP2 HM2
                go_wp2_with fail
                -- MARK3c
                go_roundw
                case rel => exact ⟨j, r2, _, _, rfl, HM3, by omega, HP3, HO8, hb7⟩
                case measure => simp [sliceLen]
              · have hz2 : ((q2 : Int) == 0) = false := beq_eq_false_iff_ne.2 (by omega)
                have HE : Hid (pushN x1 (q :: r) = q2 :: r2) := Lib.hid (by rw [← HP2.out, popZ_pos _ hz])
                clear hz hrj
                go_wp2_with fail
                -- MARK3d
                go_roundw
                case rel => exact ⟨k + 1, j + 1, pushN x1 (q :: r), _, _, rfl, by go_num, by omega, Lib.hid (by rw [HE.out]; exact HM2.out), by omega, Lib.hid (pushN_top _ _), HQ2, HA2, Lib.hid (by rw [HE.out]; exact HO7.out), hb7⟩
                case measure => simp [intOf]; omega
        · have HE : Hid (chkTV sy t = .tuple #[.int .i64 (k : Int), .int .i64 ee]) := Lib.hid (by
            unfold chkTV; rw [HT.out, chkAt_bad HA.out HX.out (by simp) (by rw [HK.out, hee]; exact he), HK.out, hee])
          have hne : (ee != 0) = true := bne_iff_ne.2 he
          clear hee he
          go_wp2_with fail
          rw [← hW2]
          clear hW2
          refine (CN.out _ (Below.refl _ _)).mono ?_
          rintro e w3 ⟨rfl, hb3⟩
          have hbW3 : Below w.heap.size w w3 := hb.trans ((hbX2.trans (hb3.mono hbX2.size)).mono hb.size)
          go_wp2_with fail
          -- MARK4
          go_ret2
          exact ⟨(congrArg Ending.returned HE.out).symm, hbW3⟩
    · obtain rfl : k = n := by omega
      have HE := chkAt_end HA.out (by rw [← HN.out]; exact Nat.le_refl _)
      by_cases hst : st = []
      · subst hst
        rw [if_pos rfl] at HE
        have HV : Hid (chkTV sy t = .tuple #[.int .i64 0, .int .i64 0]) := Lib.hid (by unfold chkTV; rw [HT.out, HE])
        obtain rfl : m = 0 := by have := HM.out; simpa using this.symm
        clear HE
        go_wp2_with fail
        -- MARK5
        go_ret2
        exact ⟨(congrArg Ending.returned HV.out).symm, hb⟩
      · rw [if_neg hst] at HE
        have HV : Hid (chkTV sy t = .tuple #[.int .i64 (k : Int), .int .i64 6]) := Lib.hid (by unfold chkTV; rw [HT.out, HE])
        have hm : 0 < m := by rw [← HM.out]; exact List.length_pos_iff.2 hst
        have hdm : decide ((0 : Int) < (m : Int)) = true := decide_eq_true (by omega)
        clear HE hst
        go_wp2_with fail
        -- MARK6
        go_ret2
        exact ⟨(congrArg Ending.returned HV.out).symm, hb⟩
end Go.Proofs.YtbmgpenllpbioaaGreatDoor

/- Layer 4: both Checks. -/
namespace Go.Proofs.YtbmgpenllpbioaaGreatDoor
open Go.RowKit Go.PlainAid

set_option maxRecDepth 50000 in
set_option maxHeartbeats 400000 in
theorem check_short (c : Nat) (a : Option Addr) (w : World) : Calls Tryz.prog 60 #[.slice a 0 c] w fun e w' => e = .returned (.tuple #[.int .i64 0, .int .i64 6]) ∧ Below w.heap.size w w' := by
  go_enter Tryz.func60, Tryz.ntmps60
  go_wp2_with fail
  go_ret2
  exact ⟨rfl, Below.refl _ _⟩
set_option maxRecDepth 50000 in
set_option maxHeartbeats 400000 in
theorem check_long (n c : Nat) (a : Option Addr) (w : World) (hn : 400 < n) : Calls Tryz.prog 60 #[.slice a n c] w fun e w' => e = .returned (.tuple #[.int .i64 0, .int .i64 3]) ∧ Below w.heap.size w w' := by
  have hd1 : ((n : Int) == 0) = false := beq_eq_false_iff_ne.2 (by omega)
  have hd2 : decide ((400 : Int) < (n : Int)) = true := decide_eq_true (by omega)
  go_enter Tryz.func60, Tryz.ntmps60
  go_wp2_with fail
  go_ret2
  exact ⟨rfl, Below.refl _ _⟩
theorem Check_any (sy : List UInt8 → Bool) (v : Value) (t : List Nd) (w : World) (h : NdsAt w v t) (HS : Hid (SymAll 92 sy w)) (KB : Hid (KidsB t)) :
    Calls Tryz.prog 60 #[v] w fun e w' => e = .returned (chkTV sy t) ∧ Below w.heap.size w w' := by
  rcases h with ⟨a, c, rfl, rfl⟩ | ⟨g, off, cap, rfl, hg, hc⟩
  · exact check_short c a w
  · by_cases h0 : t.length = 0
    · have : t = [] := List.length_eq_zero_iff.1 h0
      subst this
      exact check_short cap _ w
    · by_cases hl : 400 < t.length
      · have : chkTV sy t = .tuple #[.int .i64 0, .int .i64 3] := by
          unfold chkTV chkT chkD; rw [if_neg (by rintro rfl; simp at h0), if_pos hl]
        rw [this]; exact check_long _ cap _ w hl
      · exact check_go sy g off cap t.length t w hg hc rfl (by omega) (by omega) HS KB

set_option maxRecDepth 50000 in
set_option maxHeartbeats 3200000 in
theorem rcheck_go (sy : List UInt8 → Bool) (g off c n : Nat) (t : List Nd) (w : World) (hg : g < w.heap.size) (hc : ∀ j u, (dcs t)[j]? = some u → w.cell? ⟨g, off + j, none⟩ = some u) (hn : n = t.length) (h0 : 0 < n) (hl : n ≤ 400)
    (HS : Hid (SymAll 77 sy w)) (KB : Hid (KidsB t)) :
    Calls Tryz.prog 62 #[.slice (some ⟨g, off, none⟩) n c] w fun e w' => e = .returned (chkTV sy t) ∧ Below w.heap.size w w' := by
  have HT : Hid (chkT sy t = chkGo (ndE sy) [1] 0 t) := Lib.hid (by
    unfold chkT chkD
    rw [if_neg (by intro e; rw [e] at hn; simp at hn; omega), if_neg (by omega)])
  have HC := Lib.hid hc
  have HN := Lib.hid hn
  have hd1 : ((n : Int) == 0) = false := beq_eq_false_iff_ne.2 (by omega)
  have hd2 : decide ((400 : Int) < (n : Int)) = false := decide_eq_false (by omega)
  have HO0 : Hid ((w.alloc (.cells #[.int .i64 1] 3)).ownsRow w.heap.size 3 1 (.slice (some ⟨w.heap.size, 0, none⟩) 1 1) 1 (stV [1])) := Lib.hid (own_mk w (stV [1]) _ 1 rfl (by decide))
  clear hc hn
  go_enter Tryz.func62, Tryz.ntmps62
  go_wp2_with fail
  -- MARK1
  go_loopw [4, 5] (fun x4 x5 wr => ∃ (k m : Nat) (st : List Nat) (a : Option Addr) (cp : Nat), x4 = .slice a m cp ∧ x5 = .int .i64 k ∧ k ≤ n ∧ Hid (st.length = m) ∧ m ≤ k + 1 ∧ Hid (topN st) ∧ Hid (StB st) ∧ Hid (ChkAt (ndE sy) t k st) ∧ Hid (wr.ownsRow w.heap.size 3 1 (.slice a m cp) m (stV st)) ∧ Below w.heap.size w wr) (fun _ x5 _ => n - (intOf x5).toNat)
  case atStart => exact ⟨0, 1, [1], _, _, rfl, rfl, Nat.zero_le _, Lib.hid rfl, by omega, Lib.hid (by intro a h; cases h; decide), Lib.hid (by intro a h; have := List.mem_singleton.1 h; omega), Lib.hid (chkAt_start _ _), HO0, (Below.refl _ w).alloc (Nat.le_refl _) _⟩
  case round =>
    obtain ⟨k, m, st, a, cp, rfl, rfl, hk, HM, hmk, HTop, HQB, HA, HO, hb⟩ := hrel
    have hcap := own_capR HO.out
    by_cases hlt : k < n
    · obtain ⟨x, hx⟩ : ∃ x, t[k]? = some x := ⟨_, List.getElem?_eq_getElem (by rw [← HN.out]; exact hlt)⟩
      have HX := Lib.hid hx
      obtain ⟨d0, d1, d2, d3⟩ := dcs_at t hx
      have c0 : wr.cell? ⟨g, off + k * 4, none⟩ = some (.int .i64 x.1) := (hb.cell (p := ⟨g, off + k * 4, none⟩) hg).trans (HC.out _ _ d0)
      have c1 : wr.cell? ⟨g, off + k * 4 + 1, none⟩ = some (.int .i64 x.2.1) := (hb.cell (p := ⟨g, off + k * 4 + 1, none⟩) hg).trans (HC.out _ _ d1)
      have c2 : wr.cell? ⟨g, off + k * 4 + 2, none⟩ = some (.int .i64 x.2.2.1) := (hb.cell (p := ⟨g, off + k * 4 + 2, none⟩) hg).trans (HC.out _ _ d2)
      have c3 : wr.cell? ⟨g, off + k * 4 + 3, none⟩ = some (.string (str x.2.2.2)) := (hb.cell (p := ⟨g, off + k * 4 + 3, none⟩) hg).trans (HC.out _ _ d3)
      clear hx d0 d1 d2 d3
      obtain ⟨x0, x1, x2, x3⟩ := x
      simp only at c0 c1 c2 c3
      have hk0 : (0 : Int) ≤ (k : Int) := Int.natCast_nonneg _
      have hk1 : (k : Int) < (n : Int) := by omega
      cases m with
      | zero =>
        have hst : st = [] := List.length_eq_zero_iff.1 HM.out
        have HE : Hid (chkTV sy t = .tuple #[.int .i64 (k : Int), .int .i64 6]) := Lib.hid (by
          have hA := HA.out
          rw [hst] at hA
          unfold chkTV; rw [HT.out, chkAt_over hA HX.out])
        clear hst
        have hbx : Below w.heap.size w (wr.alloc (.cells #[.int .i64 x0, .int .i64 x1, .int .i64 x2, .string (str x3)] 49)) := hb.alloc hb.size _
        go_wp2_with fail
        -- MARK2
        go_ret2
        exact ⟨(congrArg Ending.returned HE.out).symm, by first | exact hbx | exact hb⟩
      | succ m =>
        obtain ⟨q, r, hst⟩ : ∃ q r, st = q :: r := by
          cases st with
          | nil => have := HM.out; simp at this
          | cons q r => exact ⟨_, _, rfl⟩
        subst hst
        have hrm : r.length = m := by have := HM.out; simpa using this
        have hq : q ≠ 0 := HTop.out q rfl
        rcases own_formR HO.out with ⟨_, h00⟩ | ⟨gs, cs, hv, hgs, hgs2⟩
        · omega
        obtain ⟨rfl, _, rfl⟩ := Value.slice.inj hv
        clear hv
        have CF : Hid (∀ W, Calls Tryz.prog 81 #[.agg #[.int .i64 x0, .int .i64 x1, .int .i64 x2, .string (str x3)]] W fun e w' => e = .returned (.int .i64 (formE x0 x1 x2 (emB x3))) ∧ Below W.heap.size W w') := Lib.hid fun W =>
          form_any x0 x1 x2 x3 _ rfl W
        have CV : Hid (∀ W, Below w.heap.size w W → Calls Tryz.prog 82 #[.agg #[.int .i64 x0, .int .i64 x1, .int .i64 x2, .string (str x3)]] W fun e w' => e = .returned (.int .i64 (valE x0 x2 (sy x3))) ∧ Below W.heap.size W w') := Lib.hid fun W hW =>
          value_any x0 x1 x2 x3 (sy x3) W (Lib.hid ((HS.out.below hW) x3))
        have HK : Hid ((((q :: r : List Nat).length : Int) - 1) = (m : Int)) := Lib.hid (by rw [List.length_cons, hrm]; omega)
        have HBad : Hid (∀ ee, ndE sy (x0, x1, x2, x3) (m : Int) = ee → ee ≠ 0 → chkTV sy t = .tuple #[.int .i64 (k : Int), .int .i64 ee]) := Lib.hid fun ee hee he => by
          unfold chkTV; rw [HT.out, chkAt_bad HA.out HX.out (by simp) (by rw [HK.out, hee]; exact he), HK.out, hee]
        have HCell : Hid (∀ W, Below w.heap.size w W → W.cell? ⟨g, off + k * 4, none⟩ = some (.int .i64 x0) ∧ W.cell? ⟨g, off + k * 4 + 1, none⟩ = some (.int .i64 x1) ∧ W.cell? ⟨g, off + k * 4 + 2, none⟩ = some (.int .i64 x2) ∧ W.cell? ⟨g, off + k * 4 + 3, none⟩ = some (.string (str x3))) := Lib.hid fun W hW => by
          obtain ⟨d0, d1, d2, d3⟩ := dcs_at t HX.out
          exact ⟨(hW.cell (p := ⟨g, off + k * 4, none⟩) hg).trans (HC.out _ _ d0), (hW.cell (p := ⟨g, off + k * 4 + 1, none⟩) hg).trans (HC.out _ _ d1), (hW.cell (p := ⟨g, off + k * 4 + 2, none⟩) hg).trans (HC.out _ _ d2), (hW.cell (p := ⟨g, off + k * 4 + 3, none⟩) hg).trans (HC.out _ _ d3)⟩
        obtain ⟨kb, hkb⟩ : ∃ kb, kindB x0 x1 x2 (emB x3) = kb := ⟨_, rfl⟩
        cases kb with
        | false =>
          have HE := Lib.hid (HBad.out 6 (by unfold ndE nodeE; rw [hkb]; rfl) (by decide))
          have HF : Hid (formE x0 x1 x2 (emB x3) = 6) := Lib.hid (by unfold formE; rw [hkb]; rfl)
          clear hkb
          go_wp2_with fail
          -- MARK3
          refine (CF.out _).mono ?_
          rintro e w1 ⟨rfl, hb1⟩
          rw [HF.out]
          have hbW := hb.trans (hb1.mono hb.size)
          go_wp2_with fail
          -- MARK4
          go_ret2
          exact ⟨(congrArg Ending.returned HE.out).symm, hbW⟩
        | true =>
          have HF : Hid (formE x0 x1 x2 (emB x3) = 0) := Lib.hid (by unfold formE; rw [hkb]; rfl)
          have HN2 : Hid (∀ d, ndE sy (x0, x1, x2, x3) d = if 32 < d then 3 else valE x0 x2 (sy x3)) := Lib.hid fun d => by unfold ndE nodeE; rw [hkb]; rfl
          clear hkb
          by_cases hdeep : 32 < m
          · have HE := Lib.hid (HBad.out 3 (by rw [HN2.out, if_pos (by omega)]) (by decide))
            have hdd : decide ((32 : Int) < (m : Int)) = true := decide_eq_true (by omega)
            go_wp2_with fail
            refine (CF.out _).mono ?_
            rintro e w1 ⟨rfl, hb1⟩
            rw [HF.out]
            have hbW := hb.trans (hb1.mono hb.size)
            go_wp2_with fail
            -- MARK4b
            go_ret2
            exact ⟨(congrArg Ending.returned HE.out).symm, hbW⟩
          · have hdd : decide ((32 : Int) < (m : Int)) = false := decide_eq_false (by omega)
            obtain ⟨ee, hee⟩ : ∃ ee, valE x0 x2 (sy x3) = ee := ⟨_, rfl⟩
            rw [hee] at CV HN2
            by_cases he : ee = 0
            · subst he
              have hnd : ndE sy (x0, x1, x2, x3) (m : Int) = 0 := by rw [HN2.out, if_neg (by omega)]
              have hxk : 0 ≤ x1 := ndE_kids hnd
              have HA2 := Lib.hid (chkAt_step HA.out HX.out (by simp) (by rw [HK.out]; exact hnd))
              obtain ⟨x1, rfl⟩ : ∃ y : Nat, x1 = (y : Int) := ⟨x1.toNat, by omega⟩
              have d0 : wr.cell? ⟨gs, m, none⟩ = some (.int .i64 (q : Int)) := own_cell HO.out (by rw [← hrm]; exact stV_top q r)
              clear hee hnd
              go_wp2_with fail
              refine (CF.out _).mono ?_
              rintro e w1 ⟨rfl, hb1⟩
              rw [HF.out]
              have hbW1 := hb.trans (hb1.mono hb.size)
              obtain ⟨y0, y1, y2, y3⟩ := HCell.out _ hbW1
              go_wp2_with fail
              -- MARK5a
              refine (CV.out _ hbW1).mono ?_
              rintro e w3 ⟨rfl, hb3⟩
              have hbX3 : Below wr.heap.size wr w3 := hb1.trans (hb3.mono hb1.size)
              have hbW3 : Below w.heap.size w w3 := hb.trans (hbX3.mono hb.size)
              clear y0 y1 y2 y3
              obtain ⟨y0, y1, y2, y3⟩ := HCell.out _ hbW3
              have HO3 := Lib.hid (own_below HO.out hbX3)
              have t0 : w3.cell? ⟨gs, m, none⟩ = some (.int .i64 (q : Int)) := (hbX3.cell (p := ⟨gs, m, none⟩) hgs2).trans d0
              have t1 : w3.frozen? ⟨gs, m, none⟩ = false := HO3.out.frozenAt m
              have hqq : ((q - 1 : Nat) : Int) = (q : Int) - 1 := by omega
              have HO4 : Hid ((w3.setCell ⟨gs, m, none⟩ (.int .i64 ((q : Int) - 1))).ownsRow w.heap.size 3 1 (.slice (some ⟨gs, 0, none⟩) (m + 1) cp) (m + 1) (stV ((q - 1) :: r))) := Lib.hid (by
                have h1 := (HO3.out.stored m (.int .i64 ((q : Int) - 1))).1
                rw [← hrm, ← hqq, stV_set, hrm, hqq] at h1; exact h1)
              have hb4 : Below w.heap.size w (w3.setCell ⟨gs, m, none⟩ (.int .i64 ((q : Int) - 1))) := hbW3.setCell hgs _
              have hqb := HQB.out q (by simp)
              have hwq : wrap64 ((q : Int) - 1) = (q : Int) - 1 := (by unfold wrap64; omega)
              clear hqb
              have hm0 : (0 : Int) ≤ (m : Int) := Int.natCast_nonneg _
              have hm1 : (m : Int) < (m : Int) + 1 := by omega
              have hgg : gs ≠ g := by omega
              clear y0 y2 y3 d0 hqq
              obtain ⟨i0, hi, hj0, hj1, hj2⟩ := info_parts2R infoSk
              have hmk3 : m + 2 ≤ 500 := by omega
              go_wp2_with (at_builtin; refine wpList_append_lies _ rfl _ _ 33 rfl w.heap.size 3 i0 (.int .i64 0) 1 8 Tryz.underlying33 hi hj0 hj1 hj2 rfl (by decide) _ _ _ rfl (HO4.out.alloc _) ⟨w3.heap.size, 0, none⟩ 1 1 [.int .i64 (x1 : Int)] rfl rfl (new_cells1 _ _ _ _ (World.size_setCell _ _ _)) (by simp [Value.oneCell']) (by omega) (by unfold maxLen; omega) (by omega) (by rw [World.size_alloc]; have := hb4.size; omega) (w3.heap.size + 1) (by simp) ?_; intro g1 cap1 w5 hown5 hgrow5 hat5 hlt5; have HB5 : Below w.heap.size w w5 := (hb4.alloc hb4.size _).grown hgrow5 (by rw [World.size_alloc]; have := hb4.size; omega) (fun j hj => (HO4.out.lt j hj).1); have HO5 := Lib.hid hown5; clear hown5 hgrow5 hat5)
              -- MARK5b
              have HO6 : Hid (w5.ownsRow w.heap.size 3 1 (.slice (some ⟨g1, 0, none⟩) (m + 2) cap1) (m + 2) (stV (x1 :: (q - 1) :: r))) := Lib.hid (by
                have h1 := HO5.out; rw [← stV_cons] at h1; exact h1)
              have HP : Hid (popZ (x1 :: (q - 1) :: r) = pushN x1 (q :: r)) := Lib.hid rfl
              have HQ2 := Lib.hid (stB_push (k := x1) HQB.out (KB.out _ (List.mem_of_getElem? HX.out)))
              have HL6 : Hid ((x1 :: (q - 1) :: r).length = m + 2) := Lib.hid (by simp [hrm])
              have HB6 := Lib.hid HB5
              clear HO5 hwq t0 t1 y1 hi hj0 hj1 hj2 c0 c1 c2 c3 HO4 HO3 hb4 HB5 hb3 hbX3 hbW3 hbW1 hb1 hq hrm HO HCell CF CV HF HN2 HBad hdeep hdd hgs hgs2 hgg hcap hlt5 HM HTop hm0 hm1 hxk hk0 hk1
              go_loopw [4] (fun x4 w7 => ∃ (m2 : Nat) (st2 : List Nat) (a2 : Option Addr) (c2 : Nat), x4 = .slice a2 m2 c2 ∧ Hid (st2.length = m2) ∧ m2 ≤ m + 2 ∧ Hid (popZ st2 = pushN x1 (q :: r)) ∧ Hid (w7.ownsRow w.heap.size 3 1 (.slice a2 m2 c2) m2 (stV st2)) ∧ Below w.heap.size w w7) (fun x4 _ => sliceLen x4)
              case atStart => exact ⟨m + 2, _, _, _, rfl, HL6, Nat.le_refl _, HP, HO6, HB6.out⟩
              case round =>
                obtain ⟨m2, st2, a2, c2, rfl, HM2, hm2, HP2, HO7, hb7⟩ := hrel
                have hcap2 := own_capR HO7.out
                cases m2 with
                | zero =>
                  have hst2 : st2 = [] := List.length_eq_zero_iff.1 HM2.out
                  go_wp2_with fail
                  -- MARK3b
                  go_roundw
                  case rel => exact ⟨k + 1, 0, pushN x1 (q :: r), _, _, rfl, by go_num, by omega, Lib.hid (by rw [← HP2.out, hst2]; rfl), by omega, Lib.hid (pushN_top _ _), HQ2, HA2, Lib.hid (by rw [← HP2.out, hst2]; have := HO7.out; rw [hst2] at this; exact this), hb7⟩
                  case measure => simp [intOf]; omega
                | succ j =>
                  obtain ⟨q2, r2, hst2⟩ : ∃ q2 r2, st2 = q2 :: r2 := by
                    cases st2 with
                    | nil => have := HM2.out; simp at this
                    | cons q2 r2 => exact ⟨_, _, rfl⟩
                  subst hst2
                  have hrj : r2.length = j := by have := HM2.out; simpa using this
                  rcases own_formR HO7.out with ⟨_, h00⟩ | ⟨g2, cc2, hv2, hg2, hg22⟩
                  · omega
                  obtain ⟨rfl, _, rfl⟩ := Value.slice.inj hv2
                  clear hv2
                  have d0 : wr.cell? ⟨g2, j, none⟩ = some (.int .i64 (q2 : Int)) := own_cell HO7.out (by rw [← hrj]; exact stV_top q2 r2)
                  have hj0 : (0 : Int) ≤ (j : Int) := Int.natCast_nonneg _
                  have hj1 : (j : Int) < (j : Int) + 1 := by omega
                  have hj2 : (j : Int) ≤ (c2 : Int) := by omega
                  by_cases hz : q2 = 0
                  · subst hz
                    have HO8 : Hid (wr.ownsRow w.heap.size 3 1 (.slice (some ⟨g2, 0, none⟩) j c2) j (stV r2)) := Lib.hid (by
                      have h1 := own_cutR HO7.out (m := j) (by omega)
                      rw [← hrj, stV_cut, hrj] at h1; exact h1)
                    have HP3 : Hid (popZ r2 = pushN x1 (q :: r)) := Lib.hid (by rw [← HP2.out, popZ_zero])
                    have HM3 := Lib.hid hrj
                    clear hrj HO7 HP2 HM2
                    go_wp2_with fail
                    -- MARK3c
                    go_roundw
                    case rel => exact ⟨j, r2, _, _, rfl, HM3, by omega, HP3, HO8, hb7⟩
                    case measure => simp [sliceLen]
                  · have hz2 : ((q2 : Int) == 0) = false := beq_eq_false_iff_ne.2 (by omega)
                    have HE : Hid (pushN x1 (q :: r) = q2 :: r2) := Lib.hid (by rw [← HP2.out, popZ_pos _ hz])
                    clear hz hrj
                    go_wp2_with fail
                    -- MARK3d
                    go_roundw
                    case rel => exact ⟨k + 1, j + 1, pushN x1 (q :: r), _, _, rfl, by go_num, by omega, Lib.hid (by rw [HE.out]; exact HM2.out), by omega, Lib.hid (pushN_top _ _), HQ2, HA2, Lib.hid (by rw [HE.out]; exact HO7.out), hb7⟩
                    case measure => simp [intOf]; omega
            · have HE := Lib.hid (HBad.out ee (by rw [HN2.out, if_neg (by omega)]) he)
              have hne : (ee != 0) = true := bne_iff_ne.2 he
              clear hee he
              go_wp2_with fail
              refine (CF.out _).mono ?_
              rintro e w1 ⟨rfl, hb1⟩
              rw [HF.out]
              have hbW1 := hb.trans (hb1.mono hb.size)
              obtain ⟨y0, y1, y2, y3⟩ := HCell.out _ hbW1
              go_wp2_with fail
              refine (CV.out _ hbW1).mono ?_
              rintro e w3 ⟨rfl, hb3⟩
              have hbW3 := hbW1.trans (hb3.mono hbW1.size)
              go_wp2_with fail
              -- MARK4c
              go_ret2
              exact ⟨(congrArg Ending.returned HE.out).symm, hbW3⟩
    · obtain rfl : k = n := by omega
      have HE := chkAt_end HA.out (by rw [← HN.out]; exact Nat.le_refl _)
      by_cases hst : st = []
      · subst hst
        rw [if_pos rfl] at HE
        have HV : Hid (chkTV sy t = .tuple #[.int .i64 0, .int .i64 0]) := Lib.hid (by unfold chkTV; rw [HT.out, HE])
        obtain rfl : m = 0 := by have := HM.out; simpa using this.symm
        clear HE
        go_wp2_with fail
        -- MARK5
        go_ret2
        exact ⟨(congrArg Ending.returned HV.out).symm, hb⟩
      · rw [if_neg hst] at HE
        have HV : Hid (chkTV sy t = .tuple #[.int .i64 (k : Int), .int .i64 6]) := Lib.hid (by unfold chkTV; rw [HT.out, HE])
        have hm : 0 < m := by rw [← HM.out]; exact List.length_pos_iff.2 hst
        have hdm : decide ((0 : Int) < (m : Int)) = true := decide_eq_true (by omega)
        clear HE hst
        go_wp2_with fail
        -- MARK6
        go_ret2
        exact ⟨(congrArg Ending.returned HV.out).symm, hb⟩
theorem rcheck_short (c : Nat) (a : Option Addr) (w : World) : Calls Tryz.prog 62 #[.slice a 0 c] w fun e w' => e = .returned (.tuple #[.int .i64 0, .int .i64 6]) ∧ Below w.heap.size w w' := by
  go_enter Tryz.func62, Tryz.ntmps62
  go_wp2_with fail
  go_ret2
  exact ⟨rfl, Below.refl _ _⟩
set_option maxRecDepth 50000 in
set_option maxHeartbeats 400000 in
theorem rcheck_long (n c : Nat) (a : Option Addr) (w : World) (hn : 400 < n) : Calls Tryz.prog 62 #[.slice a n c] w fun e w' => e = .returned (.tuple #[.int .i64 0, .int .i64 3]) ∧ Below w.heap.size w w' := by
  have hd1 : ((n : Int) == 0) = false := beq_eq_false_iff_ne.2 (by omega)
  have hd2 : decide ((400 : Int) < (n : Int)) = true := decide_eq_true (by omega)
  go_enter Tryz.func62, Tryz.ntmps62
  go_wp2_with fail
  go_ret2
  exact ⟨rfl, Below.refl _ _⟩
theorem RCheck_any (sy : List UInt8 → Bool) (v : Value) (t : List Nd) (w : World) (h : NdsAt w v t) (HS : Hid (SymAll 77 sy w)) (KB : Hid (KidsB t)) :
    Calls Tryz.prog 62 #[v] w fun e w' => e = .returned (chkTV sy t) ∧ Below w.heap.size w w' := by
  rcases h with ⟨a, c, rfl, rfl⟩ | ⟨g, off, cap, rfl, hg, hc⟩
  · exact rcheck_short c a w
  · by_cases h0 : t.length = 0
    · have : t = [] := List.length_eq_zero_iff.1 h0
      subst this
      exact rcheck_short cap _ w
    · by_cases hl : 400 < t.length
      · have : chkTV sy t = .tuple #[.int .i64 0, .int .i64 3] := by
          unfold chkTV chkT chkD; rw [if_neg (by rintro rfl; simp at h0), if_pos hl]
        rw [this]; exact rcheck_long _ cap _ w hl
      · exact rcheck_go sy g off cap t.length t w hg hc rfl (by omega) (by omega) HS KB
end Go.Proofs.YtbmgpenllpbioaaGreatDoor
