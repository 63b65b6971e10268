import Derived.Test.YtkngkajojcmmlaaGreatDoorZd
import Derived.Deep.LoopGhost
import Derived.Deep.RegionHeld3
import Derived.Laws.OwnMore
import Derived.RangeFuncNested
import Derived.Laws.EntriesVeiled
import Derived.Deep.RegionHeld
/- Layer 4: Check. -/
namespace Go.Proofs.YtkngkajojcmmlaaGreatDoor
open Go.RowKit Go.PlainAid

theorem new_cells1 (w : World) (a : Value) (t : TypeId) (n : Nat) (hn : w.heap.size = n) : ∀ j u, [a][j]? = some u → (w.alloc (.cells #[a] t)).cell? ((⟨n, 0, none⟩ : Addr).add j) = some u := by
  subst hn; exact new_cells w [a] t
/-- Numbers of children are ints. -/
def KidsB (t : List Nd) : Prop := ∀ x ∈ t, x.2.1 ≤ 9223372036854775807
def StB (st : List Nat) : Prop := ∀ a ∈ st, (a : Int) ≤ 9223372036854775807
theorem popZ_mem {st : List Nat} {a : Nat} (h : a ∈ popZ st) : a ∈ st := (List.dropWhile_suffix (l := st) (p := fun x => x == 0)).subset h
theorem stB_push {k : Nat} {st : List Nat} (h : StB st) (hk : (k : Int) ≤ 9223372036854775807) : StB (pushN k st) := by
  cases st with
  | nil => intro a ha; cases ha
  | cons q r =>
    intro a ha
    rw [pushN_cons] at ha
    rcases List.mem_cons.1 (popZ_mem ha) with e | e
    · rw [e]; exact hk
    · rcases List.mem_cons.1 e with e | e
      · have := h q (by simp); omega
      · exact h a (by simp [e])

set_option maxRecDepth 50000 in
set_option maxHeartbeats 3200000 in
theorem check_go (sy : List UInt8 → Bool) (g off c n : Nat) (t : List Nd) (w : World) (hg : g < w.heap.size) (hc : ∀ j u, (dcs t)[j]? = some u → w.cell? ⟨g, off + j, none⟩ = some u) (hn : n = t.length) (h0 : 0 < n) (hl : n ≤ 400)
    (HS : Hid (SymAll 22 sy w)) (KB : Hid (KidsB t)) :
    Calls Tryz.prog 15 #[.slice (some ⟨g, off, none⟩) n c] w fun e w' => e = .returned (chkTV sy t) ∧ Below w.heap.size w w' := by
  have HT : Hid (chkT sy t = chkGo (ndE sy) [1] 0 t) := Lib.hid (by
    unfold chkT chkD
    rw [if_neg (by intro e; rw [e] at hn; simp at hn; omega), if_neg (by omega)])
  have HC := Lib.hid hc
  have HN := Lib.hid hn
  have hd1 : ((n : Int) == 0) = false := beq_eq_false_iff_ne.2 (by omega)
  have hd2 : decide ((400 : Int) < (n : Int)) = false := decide_eq_false (by omega)
  have HO0 : Hid ((w.alloc (.cells #[.int .i64 1] 3)).ownsRow w.heap.size 3 1 (.slice (some ⟨w.heap.size, 0, none⟩) 1 1) 1 (stV [1])) := Lib.hid (own_mk w (stV [1]) _ 1 rfl (by decide))
  clear hc hn
  go_enter Tryz.func15, Tryz.ntmps15
  go_wp2_with fail
  -- MARK1
  go_loopw [4, 18] (fun x4 x18 wr => ∃ (k m : Nat) (st : List Nat) (a : Option Addr) (cp : Nat), x4 = .slice a m cp ∧ x18 = .int .i64 k ∧ k ≤ n ∧ Hid (st.length = m) ∧ m ≤ k + 1 ∧ Hid (topN st) ∧ Hid (StB st) ∧ Hid (ChkAt (ndE sy) t k st) ∧ Hid (wr.ownsRow w.heap.size 3 1 (.slice a m cp) m (stV st)) ∧ Below w.heap.size w wr) (fun _ x18 _ => n - (intOf x18).toNat)
  case atStart => exact ⟨0, 1, [1], _, _, rfl, rfl, Nat.zero_le _, Lib.hid rfl, by omega, Lib.hid (by intro a h; cases h; decide), Lib.hid (by intro a h; have := List.mem_singleton.1 h; omega), Lib.hid (chkAt_start _ _), HO0, (Below.refl _ w).alloc (Nat.le_refl _) _⟩
  case round =>
    obtain ⟨k, m, st, a, cp, rfl, rfl, hk, HM, hmk, HTop, HQB, HA, HO, hb⟩ := hrel
    have hcap := own_cap HO.out
    by_cases hlt : k < n
    · obtain ⟨x, hx⟩ : ∃ x, t[k]? = some x := ⟨_, List.getElem?_eq_getElem (by rw [← HN.out]; exact hlt)⟩
      have HX := Lib.hid hx
      obtain ⟨d0, d1, d2, d3⟩ := dcs_at t hx
      have c0 : wr.cell? ⟨g, off + k * 4, none⟩ = some (.int .i64 x.1) := (hb.cell (p := ⟨g, off + k * 4, none⟩) hg).trans (HC.out _ _ d0)
      have c1 : wr.cell? ⟨g, off + k * 4 + 1, none⟩ = some (.int .i64 x.2.1) := (hb.cell (p := ⟨g, off + k * 4 + 1, none⟩) hg).trans (HC.out _ _ d1)
      have c2 : wr.cell? ⟨g, off + k * 4 + 2, none⟩ = some (.int .i64 x.2.2.1) := (hb.cell (p := ⟨g, off + k * 4 + 2, none⟩) hg).trans (HC.out _ _ d2)
      have c3 : wr.cell? ⟨g, off + k * 4 + 3, none⟩ = some (.string (str x.2.2.2)) := (hb.cell (p := ⟨g, off + k * 4 + 3, none⟩) hg).trans (HC.out _ _ d3)
      clear hx d0 d1 d2 d3
      obtain ⟨x0, x1, x2, x3⟩ := x
      simp only at c0 c1 c2 c3
      have hk0 : (0 : Int) ≤ (k : Int) := Int.natCast_nonneg _
      have hk1 : (k : Int) < (n : Int) := by omega
      cases m with
      | zero =>
        have hst : st = [] := List.length_eq_zero_iff.1 HM.out
        have HE : Hid (chkTV sy t = .tuple #[.int .i64 (k : Int), .int .i64 6]) := Lib.hid (by
          have hA := HA.out
          rw [hst] at hA
          unfold chkTV; rw [HT.out, chkAt_over hA HX.out])
        clear hst
        have hbx : Below w.heap.size w (wr.alloc (.cells #[.int .i64 x0, .int .i64 x1, .int .i64 x2, .string (str x3)] 40)) := hb.alloc hb.size _
        go_wp2_with fail
        -- MARK2
        go_ret2
        exact ⟨(congrArg Ending.returned HE.out).symm, by first | exact hbx | exact hb⟩
      | succ m =>
        obtain ⟨q, r, hst⟩ : ∃ q r, st = q :: r := by
          cases st with
          | nil => have := HM.out; simp at this
          | cons q r => exact ⟨_, _, rfl⟩
        subst hst
        have hrm : r.length = m := by have := HM.out; simpa using this
        have hq : q ≠ 0 := HTop.out q rfl
        rcases own_form HO.out with ⟨_, h00⟩ | ⟨gs, cs, hv, hgs, hgs2⟩
        · omega
        obtain ⟨rfl, _, rfl⟩ := Value.slice.inj hv
        clear hv
        obtain ⟨W2, hW2⟩ : ∃ W2, W2 = wr.alloc (.cells #[.int .i64 x0, .int .i64 x1, .int .i64 x2, .string (str x3)] 40) := ⟨_, rfl⟩
        have hbW2 : Below w.heap.size w W2 := by rw [hW2]; exact hb.alloc hb.size _
        have hbX2 : Below wr.heap.size wr W2 := by rw [hW2]; exact (Below.refl _ wr).alloc (Nat.le_refl _) _
        have HCells : Hid (∀ W, Below W2.heap.size W2 W → W.cell? ⟨wr.heap.size, 0, none⟩ = some (.int .i64 x0) ∧ W.cell? ⟨wr.heap.size, 1, none⟩ = some (.int .i64 x1) ∧ W.cell? ⟨wr.heap.size, 2, none⟩ = some (.int .i64 x2) ∧ W.cell? ⟨wr.heap.size, 3, none⟩ = some (.string (str x3))) := Lib.hid fun W hW => by
          have hcn := World.alloc_heap_new wr (.cells #[.int .i64 x0, .int .i64 x1, .int .i64 x2, .string (str x3)] 40)
          rw [← hW2] at hcn
          have hcn2 := (hW.block wr.heap.size (Array.getElem?_eq_some_iff.1 hcn).1).trans hcn
          exact ⟨by simp [World.cell?, hcn2], by simp [World.cell?, hcn2], by simp [World.cell?, hcn2], by simp [World.cell?, hcn2]⟩
        have CN : Hid (∀ W, Below W2.heap.size W2 W → Calls Tryz.prog 35 #[.agg #[.int .i64 x0, .int .i64 x1, .int .i64 x2, .string (str x3)], .int .i64 (m : Int)] W fun e w' => e = .returned (.int .i64 (ndE sy (x0, x1, x2, x3) (m : Int))) ∧ Below W.heap.size W w') := Lib.hid fun W hW =>
          checkNode_any x0 x1 x2 x3 _ _ rfl (m : Int) W (Lib.hid ((HS.out.below (hbW2.trans (hW.mono hbW2.size))) x3))
        have HK : Hid ((((q :: r : List Nat).length : Int) - 1) = (m : Int)) := Lib.hid (by rw [List.length_cons, hrm]; omega)
        obtain ⟨ee, hee⟩ : ∃ ee, ndE sy (x0, x1, x2, x3) (m : Int) = ee := ⟨_, rfl⟩
        rw [hee] at CN
        by_cases he : ee = 0
        · subst he
          have hxk : 0 ≤ x1 := ndE_kids hee
          have HA2 := Lib.hid (chkAt_step HA.out HX.out (by simp) (by rw [HK.out]; exact hee))
          obtain ⟨x1, rfl⟩ : ∃ y : Nat, x1 = (y : Int) := ⟨x1.toNat, by omega⟩
          have d0 : wr.cell? ⟨gs, m, none⟩ = some (.int .i64 (q : Int)) := own_cell HO.out (by rw [← hrm]; exact stV_top q r)
          clear hee
          go_wp2_with fail
          -- MARK3
          rw [← hW2]
          clear hW2
          refine (CN.out _ (Below.refl _ _)).mono ?_
          rintro e w3 ⟨rfl, hb3⟩
          obtain ⟨y0, y1, y2, y3⟩ := HCells.out _ hb3
          have hbX3 : Below wr.heap.size wr w3 := hbX2.trans (hb3.mono hbX2.size)
          have hbW3 : Below w.heap.size w w3 := hb.trans (hbX3.mono hb.size)
          have HO3 := Lib.hid (own_below HO.out hbX3)
          have t0 : w3.cell? ⟨gs, m, none⟩ = some (.int .i64 (q : Int)) := (hbX3.cell (p := ⟨gs, m, none⟩) hgs2).trans d0
          have t1 : w3.frozen? ⟨gs, m, none⟩ = false := HO3.out.frozenAt m
          have hqq : ((q - 1 : Nat) : Int) = (q : Int) - 1 := by omega
          have HO4 : Hid ((w3.setCell ⟨gs, m, none⟩ (.int .i64 ((q : Int) - 1))).ownsRow w.heap.size 3 1 (.slice (some ⟨gs, 0, none⟩) (m + 1) cp) (m + 1) (stV ((q - 1) :: r))) := Lib.hid (by
            have h1 := (HO3.out.stored m (.int .i64 ((q : Int) - 1))).1
            rw [← hrm, ← hqq, stV_set, hrm, hqq] at h1; exact h1)
          have z1 : (w3.setCell ⟨gs, m, none⟩ (.int .i64 ((q : Int) - 1))).cell? ⟨wr.heap.size, 1, none⟩ = some (.int .i64 (x1 : Int)) := by
            rw [World.cell?_setCell_far _ _ _ _ (by show gs ≠ wr.heap.size; omega)]; exact y1
          have hb4 : Below w.heap.size w (w3.setCell ⟨gs, m, none⟩ (.int .i64 ((q : Int) - 1))) := hbW3.setCell hgs _
          have hqb := HQB.out q (by simp)
          have hwq : wrap64 ((q : Int) - 1) = (q : Int) - 1 := (by unfold wrap64; omega)
          clear hqb
          have hm0 : (0 : Int) ≤ (m : Int) := Int.natCast_nonneg _
          have hm1 : (m : Int) < (m : Int) + 1 := by omega
          clear y0 y2 y3 d0 hqq
          obtain ⟨i0, hi, hj0, hj1, hj2⟩ := info_parts2 infoSk
          have hmk3 : m + 2 ≤ 500 := by omega
          go_wp2_with (at_builtin; refine wpList_append_lies _ rfl _ _ 44 rfl w.heap.size 3 i0 (.int .i64 0) 1 8 Tryz.underlying44 hi hj0 hj1 hj2 rfl (by decide) _ _ _ rfl (HO4.out.alloc _) ⟨w3.heap.size, 0, none⟩ 1 1 [.int .i64 (x1 : Int)] rfl rfl (new_cells1 _ _ _ _ (World.size_setCell _ _ _)) (by simp [Value.oneCell']) (by omega) (by unfold maxLen; omega) (by omega) (by rw [World.size_alloc]; have := hb4.size; omega) (w3.heap.size + 1) (by simp) ?_; intro g1 cap1 w5 hown5 hgrow5 hat5 hlt5; have HB5 : Below w.heap.size w w5 := (hb4.alloc hb4.size _).grown hgrow5 (by rw [World.size_alloc]; have := hb4.size; omega) (fun j hj => (HO4.out.lt j hj).1); have HO5 := Lib.hid hown5; clear hown5 hgrow5 hat5)
          -- MARK3a
          have HO6 : Hid (w5.ownsRow w.heap.size 3 1 (.slice (some ⟨g1, 0, none⟩) (m + 2) cap1) (m + 2) (stV (x1 :: (q - 1) :: r))) := Lib.hid (by
            have h1 := HO5.out; rw [← stV_cons] at h1; exact h1)
          have HP : Hid (popZ (x1 :: (q - 1) :: r) = pushN x1 (q :: r)) := Lib.hid rfl
          have HQ2 := Lib.hid (stB_push (k := x1) HQB.out (KB.out _ (List.mem_of_getElem? HX.out)))
          have HL6 : Hid ((x1 :: (q - 1) :: r).length = m + 2) := Lib.hid (by simp [hrm])
          have HB6 := Lib.hid HB5
          clear HO5 hwq z1 t0 t1 y1 hi hj0 hj1 hj2 c0 c1 c2 c3 HO4 HO3 hb4 HB5 hb3 hbX3 hbW3 hbW2 hbX2 hq hrm HO HCells CN hgs hgs2 hcap hlt5 HM HTop hm0 hm1 hxk hk0 hk1
          go_loopw [4] (fun x4 w7 => ∃ (m2 : Nat) (st2 : List Nat) (a2 : Option Addr) (c2 : Nat), x4 = .slice a2 m2 c2 ∧ Hid (st2.length = m2) ∧ m2 ≤ m + 2 ∧ Hid (popZ st2 = pushN x1 (q :: r)) ∧ Hid (w7.ownsRow w.heap.size 3 1 (.slice a2 m2 c2) m2 (stV st2)) ∧ Below w.heap.size w w7) (fun x4 _ => sliceLen x4)
          case atStart => exact ⟨m + 2, _, _, _, rfl, HL6, Nat.le_refl _, HP, HO6, HB6.out⟩
          case round =>
            obtain ⟨m2, st2, a2, c2, rfl, HM2, hm2, HP2, HO7, hb7⟩ := hrel
            have hcap2 := own_cap HO7.out
            cases m2 with
            | zero =>
              have hst2 : st2 = [] := List.length_eq_zero_iff.1 HM2.out
              go_wp2_with fail
              -- MARK3b
              go_roundw
              case rel => exact ⟨k + 1, 0, pushN x1 (q :: r), _, _, rfl, by go_num, by omega, Lib.hid (by rw [← HP2.out, hst2]; rfl), by omega, Lib.hid (pushN_top _ _), HQ2, HA2, Lib.hid (by rw [← HP2.out, hst2]; have := HO7.out; rw [hst2] at this; exact this), hb7⟩
              case measure => simp [intOf]; omega
            | succ j =>
              obtain ⟨q2, r2, hst2⟩ : ∃ q2 r2, st2 = q2 :: r2 := by
                cases st2 with
                | nil => have := HM2.out; simp at this
                | cons q2 r2 => exact ⟨_, _, rfl⟩
              subst hst2
              have hrj : r2.length = j := by have := HM2.out; simpa using this
              rcases own_form HO7.out with ⟨_, h00⟩ | ⟨g2, cc2, hv2, hg2, hg22⟩
              · omega
              obtain ⟨rfl, _, rfl⟩ := Value.slice.inj hv2
              clear hv2
              have d0 : wr.cell? ⟨g2, j, none⟩ = some (.int .i64 (q2 : Int)) := own_cell HO7.out (by rw [← hrj]; exact stV_top q2 r2)
              have hj0 : (0 : Int) ≤ (j : Int) := Int.natCast_nonneg _
              have hj1 : (j : Int) < (j : Int) + 1 := by omega
              have hj2 : (j : Int) ≤ (c2 : Int) := by omega
              by_cases hz : q2 = 0
              · subst hz
                have HO8 : Hid (wr.ownsRow w.heap.size 3 1 (.slice (some ⟨g2, 0, none⟩) j c2) j (stV r2)) := Lib.hid (by
                  have h1 := own_cut HO7.out (m := j) (by omega)
                  rw [← hrj, stV_cut, hrj] at h1; exact h1)
                have HP3 : Hid (popZ r2 = pushN x1 (q :: r)) := Lib.hid (by rw [← HP2.out, popZ_zero])
                have HM3 := Lib.hid hrj
                clear hrj HO7 HP2 HM2
                go_wp2_with fail
                -- MARK3c
                go_roundw
                case rel => exact ⟨j, r2, _, _, rfl, HM3, by omega, HP3, HO8, hb7⟩
                case measure => simp [sliceLen]
              · have hz2 : ((q2 : Int) == 0) = false := beq_eq_false_iff_ne.2 (by omega)
                have HE : Hid (pushN x1 (q :: r) = q2 :: r2) := Lib.hid (by rw [← HP2.out, popZ_pos _ hz])
                clear hz hrj
                go_wp2_with fail
                -- MARK3d
                go_roundw
                case rel => exact ⟨k + 1, j + 1, pushN x1 (q :: r), _, _, rfl, by go_num, by omega, Lib.hid (by rw [HE.out]; exact HM2.out), by omega, Lib.hid (pushN_top _ _), HQ2, HA2, Lib.hid (by rw [HE.out]; exact HO7.out), hb7⟩
                case measure => simp [intOf]; omega
        · have HE : Hid (chkTV sy t = .tuple #[.int .i64 (k : Int), .int .i64 ee]) := Lib.hid (by
            unfold chkTV; rw [HT.out, chkAt_bad HA.out HX.out (by simp) (by rw [HK.out, hee]; exact he), HK.out, hee])
          have hne : (ee != 0) = true := bne_iff_ne.2 he
          clear hee he
          go_wp2_with fail
          rw [← hW2]
          clear hW2
          refine (CN.out _ (Below.refl _ _)).mono ?_
          rintro e w3 ⟨rfl, hb3⟩
          have hbW3 : Below w.heap.size w w3 := hb.trans ((hbX2.trans (hb3.mono hbX2.size)).mono hb.size)
          go_wp2_with fail
          -- MARK4
          go_ret2
          exact ⟨(congrArg Ending.returned HE.out).symm, hbW3⟩
    · obtain rfl : k = n := by omega
      have HE := chkAt_end HA.out (by rw [← HN.out]; exact Nat.le_refl _)
      by_cases hst : st = []
      · subst hst
        rw [if_pos rfl] at HE
        have HV : Hid (chkTV sy t = .tuple #[.int .i64 0, .int .i64 0]) := Lib.hid (by unfold chkTV; rw [HT.out, HE])
        obtain rfl : m = 0 := by have := HM.out; simpa using this.symm
        clear HE
        go_wp2_with fail
        -- MARK5
        go_ret2
        exact ⟨(congrArg Ending.returned HV.out).symm, hb⟩
      · rw [if_neg hst] at HE
        have HV : Hid (chkTV sy t = .tuple #[.int .i64 (k : Int), .int .i64 6]) := Lib.hid (by unfold chkTV; rw [HT.out, HE])
        have hm : 0 < m := by rw [← HM.out]; exact List.length_pos_iff.2 hst
        have hdm : decide ((0 : Int) < (m : Int)) = true := decide_eq_true (by omega)
        clear HE hst
        go_wp2_with fail
        -- MARK6
        go_ret2
        exact ⟨(congrArg Ending.returned HV.out).symm, hb⟩
end Go.Proofs.YtkngkajojcmmlaaGreatDoor

/- Layer 4: both Checks. -/
namespace Go.Proofs.YtkngkajojcmmlaaGreatDoor
open Go.RowKit Go.PlainAid

set_option maxRecDepth 50000 in
set_option maxHeartbeats 400000 in
theorem check_short (c : Nat) (a : Option Addr) (w : World) : Calls Tryz.prog 15 #[.slice a 0 c] w fun e w' => e = .returned (.tuple #[.int .i64 0, .int .i64 6]) ∧ Below w.heap.size w w' := by
  go_enter Tryz.func15, Tryz.ntmps15
  go_wp2_with fail
  go_ret2
  exact ⟨rfl, Below.refl _ _⟩
set_option maxRecDepth 50000 in
set_option maxHeartbeats 400000 in
theorem check_long (n c : Nat) (a : Option Addr) (w : World) (hn : 400 < n) : Calls Tryz.prog 15 #[.slice a n c] w fun e w' => e = .returned (.tuple #[.int .i64 0, .int .i64 3]) ∧ Below w.heap.size w w' := by
  have hd1 : ((n : Int) == 0) = false := beq_eq_false_iff_ne.2 (by omega)
  have hd2 : decide ((400 : Int) < (n : Int)) = true := decide_eq_true (by omega)
  go_enter Tryz.func15, Tryz.ntmps15
  go_wp2_with fail
  go_ret2
  exact ⟨rfl, Below.refl _ _⟩
theorem Check_any (sy : List UInt8 → Bool) (v : Value) (t : List Nd) (w : World) (h : NdsAt w v t) (HS : Hid (SymAll 22 sy w)) (KB : Hid (KidsB t)) :
    Calls Tryz.prog 15 #[v] w fun e w' => e = .returned (chkTV sy t) ∧ Below w.heap.size w w' := by
  rcases h with ⟨a, c, rfl, rfl⟩ | ⟨g, off, cap, rfl, hg, hc⟩
  · exact check_short c a w
  · by_cases h0 : t.length = 0
    · have : t = [] := List.length_eq_zero_iff.1 h0
      subst this
      exact check_short cap _ w
    · by_cases hl : 400 < t.length
      · have : chkTV sy t = .tuple #[.int .i64 0, .int .i64 3] := by
          unfold chkTV chkT chkD; rw [if_neg (by rintro rfl; simp at h0), if_pos hl]
        rw [this]; exact check_long _ cap _ w hl
      · exact check_go sy g off cap t.length t w hg hc rfl (by omega) (by omega) HS KB

set_option maxRecDepth 50000 in
set_option maxHeartbeats 3200000 in
theorem rcheck_go (sy : List UInt8 → Bool) (g off c n : Nat) (t : List Nd) (w : World) (hg : g < w.heap.size) (hc : ∀ j u, (dcs t)[j]? = some u → w.cell? ⟨g, off + j, none⟩ = some u) (hn : n = t.length) (h0 : 0 < n) (hl : n ≤ 400)
    (HS : Hid (SymAll 33 sy w)) (KB : Hid (KidsB t)) :
    Calls Tryz.prog 25 #[.slice (some ⟨g, off, none⟩) n c] w fun e w' => e = .returned (chkTV sy t) ∧ Below w.heap.size w w' := by
  have HT : Hid (chkT sy t = chkGo (ndE sy) [1] 0 t) := Lib.hid (by
    unfold chkT chkD
    rw [if_neg (by intro e; rw [e] at hn; simp at hn; omega), if_neg (by omega)])
  have HC := Lib.hid hc
  have HN := Lib.hid hn
  have hd1 : ((n : Int) == 0) = false := beq_eq_false_iff_ne.2 (by omega)
  have hd2 : decide ((400 : Int) < (n : Int)) = false := decide_eq_false (by omega)
  have HO0 : Hid ((w.alloc (.cells #[.int .i64 1] 3)).ownsRow w.heap.size 3 1 (.slice (some ⟨w.heap.size, 0, none⟩) 1 1) 1 (stV [1])) := Lib.hid (own_mk w (stV [1]) _ 1 rfl (by decide))
  clear hc hn
  go_enter Tryz.func25, Tryz.ntmps25
  go_wp2_with fail
  -- MARK1
  go_loopw [4, 5] (fun x4 x5 wr => ∃ (k m : Nat) (st : List Nat) (a : Option Addr) (cp : Nat), x4 = .slice a m cp ∧ x5 = .int .i64 k ∧ k ≤ n ∧ Hid (st.length = m) ∧ m ≤ k + 1 ∧ Hid (topN st) ∧ Hid (StB st) ∧ Hid (ChkAt (ndE sy) t k st) ∧ Hid (wr.ownsRow w.heap.size 3 1 (.slice a m cp) m (stV st)) ∧ Below w.heap.size w wr) (fun _ x5 _ => n - (intOf x5).toNat)
  case atStart => exact ⟨0, 1, [1], _, _, rfl, rfl, Nat.zero_le _, Lib.hid rfl, by omega, Lib.hid (by intro a h; cases h; decide), Lib.hid (by intro a h; have := List.mem_singleton.1 h; omega), Lib.hid (chkAt_start _ _), HO0, (Below.refl _ w).alloc (Nat.le_refl _) _⟩
  case round =>
    obtain ⟨k, m, st, a, cp, rfl, rfl, hk, HM, hmk, HTop, HQB, HA, HO, hb⟩ := hrel
    have hcap := own_cap HO.out
    by_cases hlt : k < n
    · obtain ⟨x, hx⟩ : ∃ x, t[k]? = some x := ⟨_, List.getElem?_eq_getElem (by rw [← HN.out]; exact hlt)⟩
      have HX := Lib.hid hx
      obtain ⟨d0, d1, d2, d3⟩ := dcs_at t hx
      have c0 : wr.cell? ⟨g, off + k * 4, none⟩ = some (.int .i64 x.1) := (hb.cell (p := ⟨g, off + k * 4, none⟩) hg).trans (HC.out _ _ d0)
      have c1 : wr.cell? ⟨g, off + k * 4 + 1, none⟩ = some (.int .i64 x.2.1) := (hb.cell (p := ⟨g, off + k * 4 + 1, none⟩) hg).trans (HC.out _ _ d1)
      have c2 : wr.cell? ⟨g, off + k * 4 + 2, none⟩ = some (.int .i64 x.2.2.1) := (hb.cell (p := ⟨g, off + k * 4 + 2, none⟩) hg).trans (HC.out _ _ d2)
      have c3 : wr.cell? ⟨g, off + k * 4 + 3, none⟩ = some (.string (str x.2.2.2)) := (hb.cell (p := ⟨g, off + k * 4 + 3, none⟩) hg).trans (HC.out _ _ d3)
      clear hx d0 d1 d2 d3
      obtain ⟨x0, x1, x2, x3⟩ := x
      simp only at c0 c1 c2 c3
      have hk0 : (0 : Int) ≤ (k : Int) := Int.natCast_nonneg _
      have hk1 : (k : Int) < (n : Int) := by omega
      cases m with
      | zero =>
        have hst : st = [] := List.length_eq_zero_iff.1 HM.out
        have HE : Hid (chkTV sy t = .tuple #[.int .i64 (k : Int), .int .i64 6]) := Lib.hid (by
          have hA := HA.out
          rw [hst] at hA
          unfold chkTV; rw [HT.out, chkAt_over hA HX.out])
        clear hst
        have hbx : Below w.heap.size w (wr.alloc (.cells #[.int .i64 x0, .int .i64 x1, .int .i64 x2, .string (str x3)] 40)) := hb.alloc hb.size _
        go_wp2_with fail
        -- MARK2
        go_ret2
        exact ⟨(congrArg Ending.returned HE.out).symm, by first | exact hbx | exact hb⟩
      | succ m =>
        obtain ⟨q, r, hst⟩ : ∃ q r, st = q :: r := by
          cases st with
          | nil => have := HM.out; simp at this
          | cons q r => exact ⟨_, _, rfl⟩
        subst hst
        have hrm : r.length = m := by have := HM.out; simpa using this
        have hq : q ≠ 0 := HTop.out q rfl
        rcases own_form HO.out with ⟨_, h00⟩ | ⟨gs, cs, hv, hgs, hgs2⟩
        · omega
        obtain ⟨rfl, _, rfl⟩ := Value.slice.inj hv
        clear hv
        have CF : Hid (∀ W, Calls Tryz.prog 54 #[.agg #[.int .i64 x0, .int .i64 x1, .int .i64 x2, .string (str x3)]] W fun e w' => e = .returned (.int .i64 (formE x0 x1 x2 (emB x3))) ∧ Below W.heap.size W w') := Lib.hid fun W =>
          form_any x0 x1 x2 x3 _ rfl W
        have CV : Hid (∀ W, Below w.heap.size w W → Calls Tryz.prog 55 #[.agg #[.int .i64 x0, .int .i64 x1, .int .i64 x2, .string (str x3)]] W fun e w' => e = .returned (.int .i64 (valE x0 x2 (sy x3))) ∧ Below W.heap.size W w') := Lib.hid fun W hW =>
          value_any x0 x1 x2 x3 (sy x3) W (Lib.hid ((HS.out.below hW) x3))
        have HK : Hid ((((q :: r : List Nat).length : Int) - 1) = (m : Int)) := Lib.hid (by rw [List.length_cons, hrm]; omega)
        have HBad : Hid (∀ ee, ndE sy (x0, x1, x2, x3) (m : Int) = ee → ee ≠ 0 → chkTV sy t = .tuple #[.int .i64 (k : Int), .int .i64 ee]) := Lib.hid fun ee hee he => by
          unfold chkTV; rw [HT.out, chkAt_bad HA.out HX.out (by simp) (by rw [HK.out, hee]; exact he), HK.out, hee]
        have HCell : Hid (∀ W, Below w.heap.size w W → W.cell? ⟨g, off + k * 4, none⟩ = some (.int .i64 x0) ∧ W.cell? ⟨g, off + k * 4 + 1, none⟩ = some (.int .i64 x1) ∧ W.cell? ⟨g, off + k * 4 + 2, none⟩ = some (.int .i64 x2) ∧ W.cell? ⟨g, off + k * 4 + 3, none⟩ = some (.string (str x3))) := Lib.hid fun W hW => by
          obtain ⟨d0, d1, d2, d3⟩ := dcs_at t HX.out
          exact ⟨(hW.cell (p := ⟨g, off + k * 4, none⟩) hg).trans (HC.out _ _ d0), (hW.cell (p := ⟨g, off + k * 4 + 1, none⟩) hg).trans (HC.out _ _ d1), (hW.cell (p := ⟨g, off + k * 4 + 2, none⟩) hg).trans (HC.out _ _ d2), (hW.cell (p := ⟨g, off + k * 4 + 3, none⟩) hg).trans (HC.out _ _ d3)⟩
        obtain ⟨kb, hkb⟩ : ∃ kb, kindB x0 x1 x2 (emB x3) = kb := ⟨_, rfl⟩
        cases kb with
        | false =>
          have HE := Lib.hid (HBad.out 6 (by unfold ndE nodeE; rw [hkb]; rfl) (by decide))
          have HF : Hid (formE x0 x1 x2 (emB x3) = 6) := Lib.hid (by unfold formE; rw [hkb]; rfl)
          clear hkb
          go_wp2_with fail
          -- MARK3
          refine (CF.out _).mono ?_
          rintro e w1 ⟨rfl, hb1⟩
          rw [HF.out]
          have hbW := hb.trans (hb1.mono hb.size)
          go_wp2_with fail
          -- MARK4
          go_ret2
          exact ⟨(congrArg Ending.returned HE.out).symm, hbW⟩
        | true =>
          have HF : Hid (formE x0 x1 x2 (emB x3) = 0) := Lib.hid (by unfold formE; rw [hkb]; rfl)
          have HN2 : Hid (∀ d, ndE sy (x0, x1, x2, x3) d = if 32 < d then 3 else valE x0 x2 (sy x3)) := Lib.hid fun d => by unfold ndE nodeE; rw [hkb]; rfl
          clear hkb
          by_cases hdeep : 32 < m
          · have HE := Lib.hid (HBad.out 3 (by rw [HN2.out, if_pos (by omega)]) (by decide))
            have hdd : decide ((32 : Int) < (m : Int)) = true := decide_eq_true (by omega)
            go_wp2_with fail
            refine (CF.out _).mono ?_
            rintro e w1 ⟨rfl, hb1⟩
            rw [HF.out]
            have hbW := hb.trans (hb1.mono hb.size)
            go_wp2_with fail
            -- MARK4b
            go_ret2
            exact ⟨(congrArg Ending.returned HE.out).symm, hbW⟩
          · have hdd : decide ((32 : Int) < (m : Int)) = false := decide_eq_false (by omega)
            obtain ⟨ee, hee⟩ : ∃ ee, valE x0 x2 (sy x3) = ee := ⟨_, rfl⟩
            rw [hee] at CV HN2
            by_cases he : ee = 0
            · subst he
              have hnd : ndE sy (x0, x1, x2, x3) (m : Int) = 0 := by rw [HN2.out, if_neg (by omega)]
              have hxk : 0 ≤ x1 := ndE_kids hnd
              have HA2 := Lib.hid (chkAt_step HA.out HX.out (by simp) (by rw [HK.out]; exact hnd))
              obtain ⟨x1, rfl⟩ : ∃ y : Nat, x1 = (y : Int) := ⟨x1.toNat, by omega⟩
              have d0 : wr.cell? ⟨gs, m, none⟩ = some (.int .i64 (q : Int)) := own_cell HO.out (by rw [← hrm]; exact stV_top q r)
              clear hee hnd
              go_wp2_with fail
              refine (CF.out _).mono ?_
              rintro e w1 ⟨rfl, hb1⟩
              rw [HF.out]
              have hbW1 := hb.trans (hb1.mono hb.size)
              obtain ⟨y0, y1, y2, y3⟩ := HCell.out _ hbW1
              go_wp2_with fail
              -- MARK5a
              refine (CV.out _ hbW1).mono ?_
              rintro e w3 ⟨rfl, hb3⟩
              have hbX3 : Below wr.heap.size wr w3 := hb1.trans (hb3.mono hb1.size)
              have hbW3 : Below w.heap.size w w3 := hb.trans (hbX3.mono hb.size)
              clear y0 y1 y2 y3
              obtain ⟨y0, y1, y2, y3⟩ := HCell.out _ hbW3
              have HO3 := Lib.hid (own_below HO.out hbX3)
              have t0 : w3.cell? ⟨gs, m, none⟩ = some (.int .i64 (q : Int)) := (hbX3.cell (p := ⟨gs, m, none⟩) hgs2).trans d0
              have t1 : w3.frozen? ⟨gs, m, none⟩ = false := HO3.out.frozenAt m
              have hqq : ((q - 1 : Nat) : Int) = (q : Int) - 1 := by omega
              have HO4 : Hid ((w3.setCell ⟨gs, m, none⟩ (.int .i64 ((q : Int) - 1))).ownsRow w.heap.size 3 1 (.slice (some ⟨gs, 0, none⟩) (m + 1) cp) (m + 1) (stV ((q - 1) :: r))) := Lib.hid (by
                have h1 := (HO3.out.stored m (.int .i64 ((q : Int) - 1))).1
                rw [← hrm, ← hqq, stV_set, hrm, hqq] at h1; exact h1)
              have hb4 : Below w.heap.size w (w3.setCell ⟨gs, m, none⟩ (.int .i64 ((q : Int) - 1))) := hbW3.setCell hgs _
              have hqb := HQB.out q (by simp)
              have hwq : wrap64 ((q : Int) - 1) = (q : Int) - 1 := (by unfold wrap64; omega)
              clear hqb
              have hm0 : (0 : Int) ≤ (m : Int) := Int.natCast_nonneg _
              have hm1 : (m : Int) < (m : Int) + 1 := by omega
              have hgg : gs ≠ g := by omega
              clear y0 y2 y3 d0 hqq
              obtain ⟨i0, hi, hj0, hj1, hj2⟩ := info_parts2 infoSk
              have hmk3 : m + 2 ≤ 500 := by omega
              go_wp2_with (at_builtin; refine wpList_append_lies _ rfl _ _ 44 rfl w.heap.size 3 i0 (.int .i64 0) 1 8 Tryz.underlying44 hi hj0 hj1 hj2 rfl (by decide) _ _ _ rfl (HO4.out.alloc _) ⟨w3.heap.size, 0, none⟩ 1 1 [.int .i64 (x1 : Int)] rfl rfl (new_cells1 _ _ _ _ (World.size_setCell _ _ _)) (by simp [Value.oneCell']) (by omega) (by unfold maxLen; omega) (by omega) (by rw [World.size_alloc]; have := hb4.size; omega) (w3.heap.size + 1) (by simp) ?_; intro g1 cap1 w5 hown5 hgrow5 hat5 hlt5; have HB5 : Below w.heap.size w w5 := (hb4.alloc hb4.size _).grown hgrow5 (by rw [World.size_alloc]; have := hb4.size; omega) (fun j hj => (HO4.out.lt j hj).1); have HO5 := Lib.hid hown5; clear hown5 hgrow5 hat5)
              -- MARK5b
              have HO6 : Hid (w5.ownsRow w.heap.size 3 1 (.slice (some ⟨g1, 0, none⟩) (m + 2) cap1) (m + 2) (stV (x1 :: (q - 1) :: r))) := Lib.hid (by
                have h1 := HO5.out; rw [← stV_cons] at h1; exact h1)
              have HP : Hid (popZ (x1 :: (q - 1) :: r) = pushN x1 (q :: r)) := Lib.hid rfl
              have HQ2 := Lib.hid (stB_push (k := x1) HQB.out (KB.out _ (List.mem_of_getElem? HX.out)))
              have HL6 : Hid ((x1 :: (q - 1) :: r).length = m + 2) := Lib.hid (by simp [hrm])
              have HB6 := Lib.hid HB5
              clear HO5 hwq t0 t1 y1 hi hj0 hj1 hj2 c0 c1 c2 c3 HO4 HO3 hb4 HB5 hb3 hbX3 hbW3 hbW1 hb1 hq hrm HO HCell CF CV HF HN2 HBad hdeep hdd hgs hgs2 hgg hcap hlt5 HM HTop hm0 hm1 hxk hk0 hk1
              go_loopw [4] (fun x4 w7 => ∃ (m2 : Nat) (st2 : List Nat) (a2 : Option Addr) (c2 : Nat), x4 = .slice a2 m2 c2 ∧ Hid (st2.length = m2) ∧ m2 ≤ m + 2 ∧ Hid (popZ st2 = pushN x1 (q :: r)) ∧ Hid (w7.ownsRow w.heap.size 3 1 (.slice a2 m2 c2) m2 (stV st2)) ∧ Below w.heap.size w w7) (fun x4 _ => sliceLen x4)
              case atStart => exact ⟨m + 2, _, _, _, rfl, HL6, Nat.le_refl _, HP, HO6, HB6.out⟩
              case round =>
                obtain ⟨m2, st2, a2, c2, rfl, HM2, hm2, HP2, HO7, hb7⟩ := hrel
                have hcap2 := own_cap HO7.out
                cases m2 with
                | zero =>
                  have hst2 : st2 = [] := List.length_eq_zero_iff.1 HM2.out
                  go_wp2_with fail
                  -- MARK3b
                  go_roundw
                  case rel => exact ⟨k + 1, 0, pushN x1 (q :: r), _, _, rfl, by go_num, by omega, Lib.hid (by rw [← HP2.out, hst2]; rfl), by omega, Lib.hid (pushN_top _ _), HQ2, HA2, Lib.hid (by rw [← HP2.out, hst2]; have := HO7.out; rw [hst2] at this; exact this), hb7⟩
                  case measure => simp [intOf]; omega
                | succ j =>
                  obtain ⟨q2, r2, hst2⟩ : ∃ q2 r2, st2 = q2 :: r2 := by
                    cases st2 with
                    | nil => have := HM2.out; simp at this
                    | cons q2 r2 => exact ⟨_, _, rfl⟩
                  subst hst2
                  have hrj : r2.length = j := by have := HM2.out; simpa using this
                  rcases own_form HO7.out with ⟨_, h00⟩ | ⟨g2, cc2, hv2, hg2, hg22⟩
                  · omega
                  obtain ⟨rfl, _, rfl⟩ := Value.slice.inj hv2
                  clear hv2
                  have d0 : wr.cell? ⟨g2, j, none⟩ = some (.int .i64 (q2 : Int)) := own_cell HO7.out (by rw [← hrj]; exact stV_top q2 r2)
                  have hj0 : (0 : Int) ≤ (j : Int) := Int.natCast_nonneg _
                  have hj1 : (j : Int) < (j : Int) + 1 := by omega
                  have hj2 : (j : Int) ≤ (c2 : Int) := by omega
                  by_cases hz : q2 = 0
                  · subst hz
                    have HO8 : Hid (wr.ownsRow w.heap.size 3 1 (.slice (some ⟨g2, 0, none⟩) j c2) j (stV r2)) := Lib.hid (by
                      have h1 := own_cut HO7.out (m := j) (by omega)
                      rw [← hrj, stV_cut, hrj] at h1; exact h1)
                    have HP3 : Hid (popZ r2 = pushN x1 (q :: r)) := Lib.hid (by rw [← HP2.out, popZ_zero])
                    have HM3 := Lib.hid hrj
                    clear hrj HO7 HP2 HM2
                    go_wp2_with fail
                    -- MARK3c
                    go_roundw
                    case rel => exact ⟨j, r2, _, _, rfl, HM3, by omega, HP3, HO8, hb7⟩
                    case measure => simp [sliceLen]
                  · have hz2 : ((q2 : Int) == 0) = false := beq_eq_false_iff_ne.2 (by omega)
                    have HE : Hid (pushN x1 (q :: r) = q2 :: r2) := Lib.hid (by rw [← HP2.out, popZ_pos _ hz])
                    clear hz hrj
                    go_wp2_with fail
                    -- MARK3d
                    go_roundw
                    case rel => exact ⟨k + 1, j + 1, pushN x1 (q :: r), _, _, rfl, by go_num, by omega, Lib.hid (by rw [HE.out]; exact HM2.out), by omega, Lib.hid (pushN_top _ _), HQ2, HA2, Lib.hid (by rw [HE.out]; exact HO7.out), hb7⟩
                    case measure => simp [intOf]; omega
            · have HE := Lib.hid (HBad.out ee (by rw [HN2.out, if_neg (by omega)]) he)
              have hne : (ee != 0) = true := bne_iff_ne.2 he
              clear hee he
              go_wp2_with fail
              refine (CF.out _).mono ?_
              rintro e w1 ⟨rfl, hb1⟩
              rw [HF.out]
              have hbW1 := hb.trans (hb1.mono hb.size)
              obtain ⟨y0, y1, y2, y3⟩ := HCell.out _ hbW1
              go_wp2_with fail
              refine (CV.out _ hbW1).mono ?_
              rintro e w3 ⟨rfl, hb3⟩
              have hbW3 := hbW1.trans (hb3.mono hbW1.size)
              go_wp2_with fail
              -- MARK4c
              go_ret2
              exact ⟨(congrArg Ending.returned HE.out).symm, hbW3⟩
    · obtain rfl : k = n := by omega
      have HE := chkAt_end HA.out (by rw [← HN.out]; exact Nat.le_refl _)
      by_cases hst : st = []
      · subst hst
        rw [if_pos rfl] at HE
        have HV : Hid (chkTV sy t = .tuple #[.int .i64 0, .int .i64 0]) := Lib.hid (by unfold chkTV; rw [HT.out, HE])
        obtain rfl : m = 0 := by have := HM.out; simpa using this.symm
        clear HE
        go_wp2_with fail
        -- MARK5
        go_ret2
        exact ⟨(congrArg Ending.returned HV.out).symm, hb⟩
      · rw [if_neg hst] at HE
        have HV : Hid (chkTV sy t = .tuple #[.int .i64 (k : Int), .int .i64 6]) := Lib.hid (by unfold chkTV; rw [HT.out, HE])
        have hm : 0 < m := by rw [← HM.out]; exact List.length_pos_iff.2 hst
        have hdm : decide ((0 : Int) < (m : Int)) = true := decide_eq_true (by omega)
        clear HE hst
        go_wp2_with fail
        -- MARK6
        go_ret2
        exact ⟨(congrArg Ending.returned HV.out).symm, hb⟩
theorem rcheck_short (c : Nat) (a : Option Addr) (w : World) : Calls Tryz.prog 25 #[.slice a 0 c] w fun e w' => e = .returned (.tuple #[.int .i64 0, .int .i64 6]) ∧ Below w.heap.size w w' := by
  go_enter Tryz.func25, Tryz.ntmps25
  go_wp2_with fail
  go_ret2
  exact ⟨rfl, Below.refl _ _⟩
set_option maxRecDepth 50000 in
set_option maxHeartbeats 400000 in
theorem rcheck_long (n c : Nat) (a : Option Addr) (w : World) (hn : 400 < n) : Calls Tryz.prog 25 #[.slice a n c] w fun e w' => e = .returned (.tuple #[.int .i64 0, .int .i64 3]) ∧ Below w.heap.size w w' := by
  have hd1 : ((n : Int) == 0) = false := beq_eq_false_iff_ne.2 (by omega)
  have hd2 : decide ((400 : Int) < (n : Int)) = true := decide_eq_true (by omega)
  go_enter Tryz.func25, Tryz.ntmps25
  go_wp2_with fail
  go_ret2
  exact ⟨rfl, Below.refl _ _⟩
theorem RCheck_any (sy : List UInt8 → Bool) (v : Value) (t : List Nd) (w : World) (h : NdsAt w v t) (HS : Hid (SymAll 33 sy w)) (KB : Hid (KidsB t)) :
    Calls Tryz.prog 25 #[v] w fun e w' => e = .returned (chkTV sy t) ∧ Below w.heap.size w w' := by
  rcases h with ⟨a, c, rfl, rfl⟩ | ⟨g, off, cap, rfl, hg, hc⟩
  · exact rcheck_short c a w
  · by_cases h0 : t.length = 0
    · have : t = [] := List.length_eq_zero_iff.1 h0
      subst this
      exact rcheck_short cap _ w
    · by_cases hl : 400 < t.length
      · have : chkTV sy t = .tuple #[.int .i64 0, .int .i64 3] := by
          unfold chkTV chkT chkD; rw [if_neg (by rintro rfl; simp at h0), if_pos hl]
        rw [this]; exact rcheck_long _ cap _ w hl
      · exact rcheck_go sy g off cap t.length t w hg hc rfl (by omega) (by omega) HS KB
end Go.Proofs.YtkngkajojcmmlaaGreatDoor

/- Ends of all subtrees: the closure that walks. -/
namespace Go.Proofs.YtkngkajojcmmlaaGreatDoor
open Go.RowKit Go.PlainAid

/-- The closure that walks. -/
def walkF (B : Nat) : Value := .func (.func 69) #[] #[.pointer (some ⟨B + 3, 0, none⟩), .pointer (some ⟨B, 0, none⟩), .pointer (some ⟨B + 4, 0, none⟩), .pointer (some ⟨B + 1, 0, none⟩)]
/-- The variables of endsOf, from block B on: the numbers of children, the ends (the box and the array), the next node, the closure. -/
structure WInv (B n : Nat) (kv : Value) (W : World) (i : Nat) (es : List Nat) : Prop where
  kids : Boxed W B 44 kv
  ends : Boxed W (B + 1) 44 (.slice (some ⟨B + 2, 0, none⟩) n n)
  row : W.ownsRow B 3 1 (.slice (some ⟨B + 2, 0, none⟩) n n) n (natV es)
  next : Boxed W (B + 3) 3 (.int .i64 (i : Int))
  walk : Boxed W (B + 4) 28 (walkF B)
theorem WInv.setNext {B n : Nat} {kv : Value} {W : World} {i : Nat} {es : List Nat} (h : WInv B n kv W i es) (q : Nat) : WInv B n kv (W.setCell ⟨B + 3, 0, none⟩ (.int .i64 (q : Int))) q es :=
  ⟨h.kids.other (by omega) _, h.ends.other (by omega) _, ownsRow_setCell_other h.row (by simp [Value.ownBlock]) _, h.next.set _, h.walk.other (by omega) _⟩
theorem WInv.setEnd {B n : Nat} {kv : Value} {W : World} {i : Nat} {es : List Nat} (h : WInv B n kv W i es) (j q : Nat) : WInv B n kv (W.setCell ⟨B + 2, j, none⟩ (.int .i64 (q : Int))) i (es.set j q) := by
  obtain ⟨h1, h2⟩ := h.row.stored j (.int .i64 (q : Int))
  rw [natV_set] at h1
  exact ⟨h.kids.kept h2 (by simp), h.ends.kept h2 (by simp), h1, h.next.kept h2 (by simp), h.walk.kept h2 (by simp)⟩
theorem WInv.endCell {B n : Nat} {kv : Value} {W : World} {i : Nat} {es : List Nat} (h : WInv B n kv W i es) (j : Nat) : W.frozen? ⟨B + 2, j, none⟩ = false := h.row.frozenAt j

set_option maxRecDepth 50000 in
set_option maxHeartbeats 3200000 in
theorem walk_any (B n c : Nat) (a : Option Addr) (ks : List Nat) (w0 : World) (hn : ks.length = n) (hl : n ≤ 2000)
    (HK : Hid (0 < n → ∃ g o, a = some ⟨g, o, none⟩ ∧ g < B ∧ ∀ (j q : Nat), ks[j]? = some q → w0.cell? ⟨g, o + j, none⟩ = some (.int .i64 (q : Int)))) :
    ∀ (f i : Nat) (es : List Nat) (W : World), n - i ≤ f → i ≤ n → es.length = n → Hid (WInv B n (.slice a n c) W i es) → Below B w0 W →
    Calls Tryz.prog 69 #[.pointer (some ⟨B + 3, 0, none⟩), .pointer (some ⟨B, 0, none⟩), .pointer (some ⟨B + 4, 0, none⟩), .pointer (some ⟨B + 1, 0, none⟩)] W fun e w' =>
      e = .returned (.bool (eat (ks.drop i) 1).isSome) ∧ Below B w0 w' ∧ ∃ p es', Hid (WInv B n (.slice a n c) w' p es') ∧ es'.length = n ∧ p ≤ n ∧ Hid ((eat (ks.drop i) 1).isSome = true → p = endN ks i ∧ EndsOk ks i p es es') := by
  have HN := Lib.hid hn
  clear hn
  intro f
  induction f with
  | zero =>
    intro i es W hf hi hes HW hb
    obtain rfl : i = n := by omega
    have HE : Hid ((eat (ks.drop i) 1).isSome = false) := Lib.hid (walk_out (by rw [HN.out]; exact Nat.le_refl _))
    have c1 := HW.out.next.cell
    have c2 := HW.out.kids.cell
    clear hf HK
    go_enter Tryz.func69, Tryz.ntmps69
    go_wp2
    go_ret
    exact ⟨ret_bool (by rw [HE.out]), hb, i, es, HW, hes, Nat.le_refl _, Lib.hid (fun h => by rw [HE.out] at h; cases h)⟩
  | succ f ih =>
    intro i es W hf hi hes HW hb
    by_cases hin : i = n
    · subst hin
      have HE : Hid ((eat (ks.drop i) 1).isSome = false) := Lib.hid (walk_out (by rw [HN.out]; exact Nat.le_refl _))
      have c1 := HW.out.next.cell
      have c2 := HW.out.kids.cell
      clear hf HK ih
      go_enter Tryz.func69, Tryz.ntmps69
      go_wp2
      go_ret
      exact ⟨ret_bool (by rw [HE.out]), hb, i, es, HW, hes, Nat.le_refl _, Lib.hid (fun h => by rw [HE.out] at h; cases h)⟩
    · obtain ⟨q, hq⟩ : ∃ q, ks[i]? = some q := ⟨_, List.getElem?_eq_getElem (by rw [HN.out]; omega)⟩
      obtain ⟨g, o, hag, hg, hc⟩ := HK.out (by omega)
      have hcell := hc i q hq
      have IH := Lib.hid ih
      have HQ := Lib.hid hq
      have W1 := Lib.hid (HW.out.setNext (i + 1))
      have hb1 : Below B w0 (W.setCell ⟨B + 3, 0, none⟩ (.int .i64 ((i + 1 : Nat) : Int))) := hb.setCell (by show B ≤ B + 3; omega) _
      have e1 : (((i + 1 : Nat)) : Int) = (i : Int) + 1 := by omega
      have c1 := HW.out.next.cell
      have f1 := HW.out.next.frozen
      have c2 := HW.out.kids.cell
      have c3 := W1.out.kids.cell
      have c4 := (hb1.cell (p := ⟨g, o + i, none⟩) hg).trans hcell
      rw [e1] at c3 c4 hb1
      have H1 : Hid (∀ W', W' = W.setCell ⟨B + 3, 0, none⟩ (.int .i64 ((i : Int) + 1)) → WInv B n (.slice a n c) W' (i + 1) es ∧ Below B w0 W') := Lib.hid fun W' e => by
        rw [e, ← e1]; exact ⟨W1.out, by rw [e1]; exact hb1⟩
      have hi1 : (i : Int) < (n : Int) := by omega
      have hi0 : (0 : Int) ≤ (i : Int) := Int.natCast_nonneg _
      have hie : ((i : Int) == (n : Int)) = false := beq_eq_false_iff_ne.2 (by omega)
      subst hag
      clear ih hq hcell hc W1 e1 hb1 HK hin
      go_enter Tryz.func69, Tryz.ntmps69
      go_wp2_with fail
      -- MARK1
      go_loopw [17] (fun x wr => ∃ (k p : Nat) (es1 : List Nat), x = .int .i64 (k : Int) ∧ k ≤ q ∧ k ≤ 2000 ∧ Hid (WInv B n (.slice (some ⟨g, o, none⟩) n c) wr p es1) ∧ Hid (WalkAt ks (i + 1) k p) ∧ Hid (EndsOk ks (i + 1) p es es1) ∧ es1.length = n ∧ Below B w0 wr) (fun x _ => q - (intOf x).toNat)
      case atStart => exact ⟨0, i + 1, es, rfl, Nat.zero_le _, by omega, Lib.hid (H1.out _ rfl).1, Lib.hid (walkAt_start (by rw [HN.out]; omega)), Lib.hid (EndsOk.refl _ _ _), hes, (H1.out _ rfl).2⟩
      case round =>
        obtain ⟨k, p, es1, rfl, hk, hk2, HW1, HA, HE1, hes1, hbr⟩ := hrel
        have hp : i + 1 + k ≤ p := walkAt_le (by rw [HN.out]; omega) HA.out
        have hpn : p ≤ n := by rw [← HN.out]; exact HA.out.1
        by_cases hlt : k < q
        · have d1 := HW1.out.walk.cell
          unfold walkF at d1
          have C := Lib.hid (IH.out p es1 wr (by omega) hpn hes1 HW1 hbr)
          obtain ⟨b, hbE⟩ : ∃ b, (eat (ks.drop p) 1).isSome = b := ⟨_, rfl⟩
          rw [hbE] at C
          have HBE := Lib.hid hbE
          clear hbE
          cases b with
          | true =>
            go_wp2_with (go_at_call 69; refine C.out.mono ?_; rintro e w1 ⟨rfl, hb1, p2, es2, HW2, hes2, hp2, HR⟩)
            -- MARK2
            obtain ⟨hp2e, hE2⟩ := HR.out trivial
            have hA2 := walkAt_one (by rw [HN.out]; exact hpn) HBE.out
            rw [← hp2e] at hA2
            have hq2 := walkAt_le (by rw [HN.out]; exact hpn) hA2
            have HA2 := Lib.hid (walkAt_step HA.out hA2)
            have HE3 := Lib.hid (HE1.out.trans hE2 (by omega) (by omega))
            clear hA2 hE2 hp2e
            go_roundw
            case rel => exact ⟨k + 1, p2, es2, by go_num, by omega, by omega, HW2, HA2, HE3, hes2, hb1⟩
            case measure => simp [intOf]; omega
          | false =>
            have HF := Lib.hid (walk_none HQ.out hlt HA.out HBE.out)
            go_wp2_with (go_at_call 69; refine C.out.mono ?_; rintro e w1 ⟨rfl, hb1, p2, es2, HW2, hes2, hp2, HR⟩)
            -- MARK3
            go_ret
            exact ⟨ret_bool (by rw [HF.out]), hb1, p2, es2, HW2, hes2, hp2, Lib.hid (fun h => by rw [HF.out] at h; cases h)⟩
        · obtain rfl : k = q := by omega
          have hW := walkAt_list HQ.out HA.out
          have hE := walkAt_end (by rw [HN.out]; omega) hW
          have HT : Hid ((eat (ks.drop i) 1).isSome = true) := Lib.hid (by rw [hW.2]; rfl)
          have d1 := HW1.out.ends.cell
          have d2 := HW1.out.next.cell
          have f2 := HW1.out.endCell i
          obtain ⟨z, hz⟩ : ∃ z, es1[i]? = some z := ⟨_, List.getElem?_eq_getElem (by omega)⟩
          have d3 := own_cell HW1.out.row (natV_at hz)
          clear hz
          have HW2 := Lib.hid (HW1.out.setEnd i p)
          have HR := Lib.hid (HE1.out.close (by omega) (by omega) hE)
          have HEe := Lib.hid hE
          clear hE hW IH
          go_wp2_with fail
          -- MARK4
          go_ret
          exact ⟨ret_bool (by rw [HT.out]), hbr.setCell (by show B ≤ B + 2; omega) _, p, _, HW2, by rw [List.length_set]; exact hes1, hpn, Lib.hid fun _ => ⟨HEe.out.symm, HR.out⟩⟩
end Go.Proofs.YtkngkajojcmmlaaGreatDoor

/- Ends of all subtrees; Shape. -/
namespace Go.Proofs.YtkngkajojcmmlaaGreatDoor
open Go.RowKit Go.PlainAid

theorem results_boxL {fn : Func} {p t : Tmp} (h : fn.results = #[.cell p 44, .tmp t]) (tmps : Array Value) (W : World) (n : Nat) (v : Value) (hp : tmps.getD p undef = .pointer (some ⟨n, 0, none⟩)) (c0 : W.cell? ⟨n, 0, none⟩ = some v) :
    (results fn tmps).run Tryz.prog W = .ok (.tuple #[v, tmps.getD t undef]) W := by
  have hp' : tmps[p]?.getD undef = .pointer (some ⟨n, 0, none⟩) := by simpa using hp
  simp [results, h, hp', go_sem, c0]
/-- Whether the numbers are those of one flat tree. -/
def trB (ks : List Nat) : Bool := decide (eat ks 1 = some [])
/-- What endsOf returns. -/
def EndV (ks : List Nat) (w : World) (e : Ending) (w' : World) : Prop :=
  ∃ v, e = .returned (.tuple #[v, .bool (trB ks)]) ∧ (trB ks = true → ∃ g, v = .slice (some ⟨g, 0, none⟩) ks.length ks.length ∧ w.heap.size ≤ g ∧ g < w'.heap.size ∧ ∀ (j q : Nat), (endsL ks)[j]? = some q → w'.cell? ⟨g, j, none⟩ = some (.int .i64 (q : Int))) ∧ (trB ks = false → v = .slice none 0 0) ∧ Below w.heap.size w w'
theorem natV_rep (n : Nat) : natV (List.replicate n 0) = List.replicate n (.int .i64 0) := by unfold natV; rw [List.map_replicate]; rfl
theorem trB_none {ks : List Nat} (h : (eat ks 1).isSome = false) : trB ks = false := by
  unfold trB; rw [decide_eq_false]; intro e; rw [e] at h; cases h
theorem trB_less {ks : List Nat} (h : endN ks 0 < ks.length) : trB ks = false := by
  unfold trB; rw [decide_eq_false]; intro e; rw [Tr.end_0 e] at h; omega
theorem trB_all {ks : List Nat} (h : (eat ks 1).isSome = true) (he : endN ks 0 = ks.length) : trB ks = true := by
  unfold trB; rw [decide_eq_true_iff]
  cases hq : eat ks 1 with
  | none => rw [hq] at h; cases h
  | some r =>
    have h3 := (endN_of (ks := ks) (p := 0) (r := r) (Nat.zero_le _) (by rw [List.drop_zero]; exact hq)).2.2
    rw [he, List.drop_length] at h3
    rw [h3]

theorem made_ints (n : Nat) : (madeCells #[.int .i64 0] n).toList = natV (List.replicate n 0) := by
  rw [natV_rep]
  apply List.ext_getElem
  · simp [size_madeCells]
  · intro j h1 h2
    simp [madeCells, Nat.mod_one]
theorem make_ints (u : World) (n : Nat) (hn : n ≤ 1000000) : (Instr.makeSlice 44 (.int .i64 (n : Int)) (.int .i64 (n : Int))).run Tryz.prog u = .ok (.slice (some ⟨u.heap.size, 0, none⟩) n n) (u.alloc (.cells (natV (List.replicate n 0)).toArray 3)) := by
  obtain ⟨i0, hi, hz0, hz1, hz2⟩ := info_parts2 infoSk
  have := run_makeSlice (P := Tryz.prog) u 44 3 i0 (.int .i64 0) Tryz.underlying44 hi hz0 .i64 .i64 n n (by omega) (by omega) (by rw [hz1]; omega) (by rw [hz2]; omega) (by omega)
  rw [← made_ints]
  simpa [hz1, Value.cells] using this
theorem own_ints (u : World) (n : Nat) (hn : n ≤ 1000000) {B : Nat} (hB : B ≤ u.heap.size) : (u.alloc (.cells (natV (List.replicate n 0)).toArray 3)).ownsRow B 3 1 (.slice (some ⟨u.heap.size, 0, none⟩) n n) n (natV (List.replicate n 0)) := by
  have h := own_mk u (natV (List.replicate n 0)) 3 n (by rw [natV_len, List.length_replicate]) (by unfold maxLen; omega)
  exact own_mono h hB

theorem winv_new (w : World) (a : Option Addr) (n c : Nat) (hn : n ≤ 1000000) (W : World)
    (hW : W = (((((w.alloc (.cells #[.slice a n c] 44)).alloc (.cells #[.slice (some ⟨w.heap.size + 1 + 1, 0, none⟩) n n] 44)).alloc (.cells (natV (List.replicate n 0)).toArray 3)).alloc (.cells #[.int .i64 0] 3)).alloc
      (.cells #[.func (.func 69) #[] #[.pointer (some ⟨w.heap.size + 1 + 1 + 1, 0, none⟩), .pointer (some ⟨w.heap.size, 0, none⟩), .pointer (some ⟨w.heap.size + 1 + 1 + 1 + 1, 0, none⟩), .pointer (some ⟨w.heap.size + 1, 0, none⟩)]] 28))) :
    WInv w.heap.size n (.slice a n c) W 0 (List.replicate n 0) ∧ Below w.heap.size w W := by
  subst hW
  refine ⟨⟨?_, ?_, ?_, ?_, ?_⟩, ?_⟩
  · exact ((((Boxed.new w _ _).alloc _).alloc _).alloc _).alloc _
  · have h := Boxed.new (w.alloc (.cells #[.slice a n c] 44)) 44 (.slice (some ⟨w.heap.size + 1 + 1, 0, none⟩) n n)
    rw [World.size_alloc] at h
    exact ((h.alloc _).alloc _).alloc _
  · have h := own_ints ((w.alloc (.cells #[.slice a n c] 44)).alloc (.cells #[.slice (some ⟨w.heap.size + 1 + 1, 0, none⟩) n n] 44)) n hn (B := w.heap.size) (by simp only [World.size_alloc]; omega)
    rw [World.size_alloc, World.size_alloc] at h
    exact (h.alloc _).alloc _
  · have h := Boxed.new (((w.alloc (.cells #[.slice a n c] 44)).alloc (.cells #[.slice (some ⟨w.heap.size + 1 + 1, 0, none⟩) n n] 44)).alloc (.cells (natV (List.replicate n 0)).toArray 3)) 3 (.int .i64 0)
    rw [World.size_alloc, World.size_alloc, World.size_alloc] at h
    exact h.alloc _
  · have h := Boxed.new ((((w.alloc (.cells #[.slice a n c] 44)).alloc (.cells #[.slice (some ⟨w.heap.size + 1 + 1, 0, none⟩) n n] 44)).alloc (.cells (natV (List.replicate n 0)).toArray 3)).alloc (.cells #[.int .i64 0] 3)) 28 (walkF w.heap.size)
    rw [World.size_alloc, World.size_alloc, World.size_alloc, World.size_alloc] at h
    exact h
  · exact (((((Below.refl _ w).alloc (Nat.le_refl _) _).alloc (by simp only [World.size_alloc]; omega) _).alloc (by simp only [World.size_alloc]; omega) _).alloc (by simp only [World.size_alloc]; omega) _).alloc (by simp only [World.size_alloc]; omega) _

set_option maxRecDepth 50000 in
set_option maxHeartbeats 3200000 in
theorem endsOf_any (a : Option Addr) (n c : Nat) (ks : List Nat) (w : World) (hn : ks.length = n) (hl : n ≤ 2000)
    (HK : Hid (0 < n → ∃ g o, a = some ⟨g, o, none⟩ ∧ g < w.heap.size ∧ ∀ (j q : Nat), ks[j]? = some q → w.cell? ⟨g, o + j, none⟩ = some (.int .i64 (q : Int)))) :
    Calls Tryz.prog 44 #[.slice a n c] w (EndV ks w) := by
  have hmk := Lib.hid (fun u => make_ints u n (by omega))
  have h0 := Lib.hid hn
  have hm1 := hmk.out ((w.alloc (.cells #[.slice a n c] 44)).alloc (.cells #[.slice none 0 0] 44))
  have hmf : ∀ (fn : Fn) (first cap : Array Value) (w : World), (Instr.makeFunc fn first cap).run Tryz.prog w = .ok (.func fn first cap) w := fun _ _ _ _ => rfl
  clear hn
  go_enter Tryz.func44, Tryz.ntmps44
  go_wp2_with fail
  -- MARK1
  obtain ⟨W5, hW5⟩ : ∃ W5, W5 = (((((w.alloc (.cells #[.slice a n c] 44)).alloc (.cells #[.slice (some ⟨w.heap.size + 1 + 1, 0, none⟩) n n] 44)).alloc (.cells (natV (List.replicate n 0)).toArray 3)).alloc (.cells #[.int .i64 0] 3)).alloc
      (.cells #[.func (.func 69) #[] #[.pointer (some ⟨w.heap.size + 1 + 1 + 1, 0, none⟩), .pointer (some ⟨w.heap.size, 0, none⟩), .pointer (some ⟨w.heap.size + 1 + 1 + 1 + 1, 0, none⟩), .pointer (some ⟨w.heap.size + 1, 0, none⟩)]] 28)) := ⟨_, rfl⟩
  obtain ⟨hI, hbI⟩ := winv_new w a n c (by omega) W5 hW5
  rw [← hW5]
  have C := Lib.hid (walk_any w.heap.size n c a ks w h0.out hl HK n 0 (List.replicate n 0) W5 (by omega) (Nat.zero_le _) (List.length_replicate ..) (Lib.hid hI) hbI)
  clear hm1 hmk hW5 hI hbI
  refine C.out.mono ?_
  rintro e w1 ⟨rfl, hb1, p, es', HW, hes', hp, HR⟩
  rw [List.drop_zero] at HR ⊢
  have c1 : w1.cell? ⟨w.heap.size + 1 + 1 + 1, 0, none⟩ = some (.int .i64 (p : Int)) := HW.out.next.cell
  have c2 := HW.out.kids.cell
  have c3 := HW.out.ends.cell
  have f3 := HW.out.ends.frozen
  have hlt3 := HW.out.ends.lt
  obtain ⟨b, hb⟩ : ∃ b, (eat ks 1).isSome = b := ⟨_, rfl⟩
  rw [hb] at HR ⊢
  have HB := Lib.hid hb
  clear hb
  cases b with
  | false =>
    have HT := Lib.hid (trB_none HB.out)
    clear HR
    go_wp2_with fail
    -- MARK2
    refine bodyPost_ret (results_boxL rfl _ _ (w.heap.size + 1) _ rfl (World.cell?_setCell_same _ _ _ c3)) rfl ?_
    exact ⟨_, by rw [HT.out]; rfl, fun h => (by rw [HT.out] at h; cases h), fun _ => rfl, hb1.setCell (by show w.heap.size ≤ w.heap.size + 1; omega) _⟩
  | true =>
    by_cases hpn : p < n
    · have HT : Hid (trB ks = false) := Lib.hid (trB_less (by rw [← (HR.out rfl).1, h0.out]; exact hpn))
      have hd : decide ((p : Int) < (n : Int)) = true := decide_eq_true (by omega)
      clear HR
      go_wp2_with fail
      -- MARK3
      refine bodyPost_ret (results_boxL rfl _ _ (w.heap.size + 1) _ rfl (World.cell?_setCell_same _ _ _ c3)) rfl ?_
      exact ⟨_, by rw [HT.out]; rfl, fun h => (by rw [HT.out] at h; cases h), fun _ => rfl, hb1.setCell (by show w.heap.size ≤ w.heap.size + 1; omega) _⟩
    · obtain rfl : p = n := by omega
      have HT : Hid (trB ks = true) := Lib.hid (trB_all HB.out (by rw [← (HR.out rfl).1, h0.out]))
      have HE : Hid (es' = endsL ks) := Lib.hid (by
        have h1 := (HR.out rfl).2
        rw [← h0.out] at h1
        exact h1.whole (by rw [List.length_replicate, h0.out]))
      have hd : decide ((p : Int) < (p : Int)) = false := decide_eq_false (by omega)
      have HRow := Lib.hid HW.out.row
      clear HR
      go_wp2_with fail
      -- MARK4
      refine bodyPost_ret (results_boxL rfl _ _ (w.heap.size + 1) _ rfl (World.cell?_setCell_same _ _ _ c3)) rfl ?_
      have hrow := ownsRow_setCell_other HRow.out (a := ⟨w.heap.size + 1, 0, none⟩) (by simp [Value.ownBlock]) (.slice (some ⟨w.heap.size + 2, 0, none⟩) p p)
      refine ⟨_, by rw [HT.out]; rfl, fun _ => ⟨w.heap.size + 2, by rw [h0.out], by omega, ?_, fun j q hj => ?_⟩, fun h => (by rw [HT.out] at h; cases h), hb1.setCell (by show w.heap.size ≤ w.heap.size + 1; omega) _⟩
      · rcases own_form hrow with ⟨hv, _⟩ | ⟨g, c, hv, _, hg⟩
        · cases hv
        · cases hv; exact hg
      · rw [← HE.out] at hj
        exact own_cell hrow (natV_at hj)
end Go.Proofs.YtkngkajojcmmlaaGreatDoor

/- Trees: treeOf, treeWith. -/
namespace Go.Proofs.YtkngkajojcmmlaaGreatDoor
open Go.RowKit Go.PlainAid

theorem box_facts {W : World} {n : Nat} {x y : Value} {t : TypeId} (h : W.heap[n]? = some (.cells #[x, y] t (0, 0))) :
    W.cell? ⟨n, 0, none⟩ = some x ∧ W.cell? ⟨n, 1, none⟩ = some y ∧ W.frozen? ⟨n, 0, none⟩ = false ∧ W.frozen? ⟨n, 1, none⟩ = false := by
  refine ⟨?_, ?_, ?_, ?_⟩ <;> simp [World.cell?, World.frozen?, h]
theorem set_two {B : Nat} {w W : World} {n i j : Nat} {x y : Value} (h : Below B w W) (hn : B ≤ n) : Below B w ((W.setCell ⟨n, i, none⟩ x).setCell ⟨n, j, none⟩ y) := (h.setCell hn _).setCell hn _
theorem set_both {W : World} {n : Nat} {x y : Value} {t : TypeId} {fr : Nat × Nat} (x' y' : Value) (h : W.heap[n]? = some (.cells #[x, y] t fr)) : ((W.setCell ⟨n, 0, none⟩ x').setCell ⟨n, 1, none⟩ y').heap[n]? = some (.cells #[x', y'] t fr) := by
  simp [World.setCell, Array.getElem?_modify, h]
/-- The first k numbers of children, and zeros. -/
def fillL (ks : List Nat) (k : Nat) : List Nat := ks.take k ++ List.replicate (ks.length - k) 0
theorem fillL_0 (ks : List Nat) : fillL ks 0 = List.replicate ks.length 0 := by unfold fillL; rw [List.take_zero, Nat.sub_zero]; rfl
theorem fillL_all (ks : List Nat) : fillL ks ks.length = ks := by unfold fillL; rw [List.take_length, Nat.sub_self]; simp
theorem fillL_len {ks : List Nat} {k : Nat} (h : k ≤ ks.length) : (fillL ks k).length = ks.length := by unfold fillL; rw [List.length_append, List.length_take, List.length_replicate]; omega
theorem fillL_set {ks : List Nat} {k q : Nat} (h : ks[k]? = some q) : (fillL ks k).set k q = fillL ks (k + 1) := by
  obtain ⟨hk, hq⟩ := List.getElem?_eq_some_iff.1 h
  unfold fillL
  rw [List.set_append, if_neg (by rw [List.length_take]; omega), List.length_take, Nat.min_eq_left (by omega), Nat.sub_self, show ks.length - k = (ks.length - (k + 1)) + 1 by omega, List.replicate_succ, List.set_cons_zero, List.take_succ_eq_append_getElem hk, hq]
  simp
/-- The ends of all subtrees lie there, at or beyond block B. -/
def EndsAt (B : Nat) (w : World) (v : Value) (t : List Nd) : Prop := ∃ g, v = .slice (some ⟨g, 0, none⟩) t.length t.length ∧ B ≤ g ∧ g < w.heap.size ∧ ∀ (j q : Nat), (endsL (kidsL t))[j]? = some q → w.cell? ⟨g, j, none⟩ = some (.int .i64 (q : Int))
theorem EndsAt.below {B : Nat} {w w' : World} {v : Value} {t : List Nd} (h : EndsAt B w v t) (hb : Below w.heap.size w w') : EndsAt B w' v t := by
  obtain ⟨g, e, hB, hg, hc⟩ := h
  exact ⟨g, e, hB, Nat.lt_of_lt_of_le hg hb.size, fun j q hj => (hb.cell (p := ⟨g, j, none⟩) hg).trans (hc j q hj)⟩
def zeroTree : Value := .agg #[.slice none 0 0, .slice none 0 0]
/-- What treeOf returns. -/
def TreeV (sy : List UInt8 → Bool) (t : List Nd) (v : Value) (w : World) (e : Ending) (w' : World) : Prop :=
  ((chkT sy t).2 ≠ 0 → e = .returned (.tuple #[zeroTree, .int .i64 (chkT sy t).2])) ∧ ((chkT sy t).2 = 0 → ∃ ve, e = .returned (.tuple #[.agg #[v, ve], .int .i64 0]) ∧ EndsAt w.heap.size w' ve t) ∧ Below w.heap.size w w'
theorem results_tree {fn : Func} {p t : Tmp} (h : fn.results = #[.cell p 52, .tmp t]) (tmps : Array Value) (W : World) (n : Nat) (x y : Value) (tt : TypeId) (hp : tmps.getD p undef = .pointer (some ⟨n, 0, none⟩)) (b : W.heap[n]? = some (.cells #[x, y] tt (0, 0))) :
    (results fn tmps).run Tryz.prog W = .ok (.tuple #[.agg #[x, y], tmps.getD t undef]) W := by
  have c0 : W.cell? ⟨n, 0, none⟩ = some x := by simp [World.cell?, b]
  have c1 : W.cell? ⟨n, 1, none⟩ = some y := by simp [World.cell?, b]
  have hp' : tmps[p]?.getD undef = .pointer (some ⟨n, 0, none⟩) := by simpa using hp
  simp [results, h, hp', go_sem, c0, c1]

set_option maxRecDepth 50000 in
set_option maxHeartbeats 3200000 in
theorem treeOf_bad (sy : List UInt8 → Bool) (v : Value) (t : List Nd) (w : World) (h : NdsAt w v t) (HS : Hid (SymAll 22 sy w)) (KB : Hid (KidsB t)) (hc : (chkT sy t).2 ≠ 0) :
    Calls Tryz.prog 23 #[v] w (TreeV sy t v w) := by
  obtain ⟨W1, hW1⟩ : ∃ W1, W1 = w.alloc (.cells #[.slice none 0 0, .slice none 0 0] 52) := ⟨_, rfl⟩
  have hb1 : Below w.heap.size w W1 := by rw [hW1]; exact below_b1 _ _
  have hbk : W1.heap[w.heap.size]? = some (.cells #[.slice none 0 0, .slice none 0 0] 52 (0, 0)) := by rw [hW1]; exact World.alloc_heap_new _ _
  have C := Lib.hid (Check_any sy v t W1 (h.below hb1 (Nat.le_refl _)) (Lib.hid (HS.out.below hb1)) KB)
  unfold chkTV at C
  obtain ⟨i, e, hie⟩ : ∃ i e, chkT sy t = (i, e) := ⟨_, _, rfl⟩
  rw [hie] at C hc
  have HE := Lib.hid hie
  have hne : (e != 0) = true := bne_iff_ne.2 hc
  have hc' := Lib.hid hc
  clear h hie hc
  go_enter Tryz.func23, Tryz.ntmps23
  go_wp2_with fail
  -- MARK1
  rw [← hW1]
  clear hW1
  refine C.out.mono ?_
  rintro e' w2 ⟨rfl, hb2⟩
  have hbk2 := (hb2.block w.heap.size (Array.getElem?_eq_some_iff.1 hbk).1).trans hbk
  obtain ⟨d0, d1, f0, f1⟩ := box_facts hbk2
  have hB2 := hb1.trans (hb2.mono hb1.size)
  go_wp2_with fail
  -- MARK2
  refine bodyPost_ret (results_tree rfl _ _ w.heap.size _ _ _ rfl (set_both _ _ hbk2)) rfl ?_
  exact ⟨fun _ => by rw [HE.out]; rfl, fun h => (by rw [HE.out] at h; exact absurd h hc'.out), set_two hB2 (Nat.le_refl _)⟩

set_option maxRecDepth 50000 in
set_option maxHeartbeats 3200000 in
theorem treeOf_ok (sy : List UInt8 → Bool) (v : Value) (t : List Nd) (w : World) (h : NdsAt w v t) (HS : Hid (SymAll 22 sy w)) (KB : Hid (KidsB t)) (hc : (chkT sy t).2 = 0) :
    Calls Tryz.prog 23 #[v] w (TreeV sy t v w) := by
  obtain ⟨t1, t2, t3, t4, t5⟩ := chkT_ok hc
  have hK0 := Lib.hid (chkT_kids hc)
  have C0 := Lib.hid (fun (W : World) (hb : Below w.heap.size w W) => Check_any sy v t W (h.below hb (Nat.le_refl _)) (Lib.hid (HS.out.below hb)) KB)
  rcases h with ⟨_, _, rfl, rfl⟩ | ⟨g, off, cap, rfl, hg, hcl⟩
  · exact absurd rfl t2
  obtain ⟨W1, hW1⟩ : ∃ W1, W1 = w.alloc (.cells #[.slice none 0 0, .slice none 0 0] 52) := ⟨_, rfl⟩
  have hb1 : Below w.heap.size w W1 := by rw [hW1]; exact below_b1 _ _
  have hsz1 : W1.heap.size = w.heap.size + 1 := by rw [hW1, World.size_alloc]
  have hbk : W1.heap[w.heap.size]? = some (.cells #[.slice none 0 0, .slice none 0 0] 52 (0, 0)) := by rw [hW1]; exact World.alloc_heap_new _ _
  have C := Lib.hid (C0.out W1 hb1)
  unfold chkTV at C
  rw [t5] at C
  obtain ⟨n, hn⟩ : ∃ n, t.length = n := ⟨_, rfl⟩
  rw [hn] at C t3
  have hkl : (kidsL t).length = n := by rw [kidsL_len, hn]
  have HN := Lib.hid hn
  have HKL := Lib.hid hkl
  have HT1 := Lib.hid t1
  have HC := Lib.hid hcl
  have HE := Lib.hid hc
  have hpos : 0 < n := by rw [← hn]; exact List.length_pos_iff.2 t2
  rw [hn]
  clear hn hkl t1 t2 t4 t5 hcl hc C0 HS
  go_enter Tryz.func23, Tryz.ntmps23
  go_wp2_with fail
  -- MARK3
  rw [← hW1]
  clear hW1
  refine C.out.mono ?_
  rintro e' w2 ⟨rfl, hb2⟩
  have hbk2 := Lib.hid ((hb2.block w.heap.size (Array.getElem?_eq_some_iff.1 hbk).1).trans hbk)
  have hB2 := hb1.trans (hb2.mono hb1.size)
  have hsz2 : w.heap.size + 1 ≤ w2.heap.size := by have := hb2.size; omega
  have hm1 := make_ints w2 n (by omega)
  have HOwn0 := Lib.hid (own_ints w2 n (by omega) (B := w.heap.size + 1) hsz2)
  clear hbk
  go_wp2_with fail
  -- MARK4
  obtain ⟨W3, hW3⟩ : ∃ W3, W3 = w2.alloc (.cells (natV (List.replicate n 0)).toArray 3) := ⟨_, rfl⟩
  rw [← hW3] at HOwn0 ⊢
  have hB3 : Below w.heap.size w W3 := by rw [hW3]; exact hB2.alloc hB2.size _
  have hbk3 : Hid (W3.heap[w.heap.size]? = some (.cells #[.slice none 0 0, .slice none 0 0] 52 (0, 0))) := Lib.hid (by
    rw [hW3]; exact (Below.heap_alloc _ _ _ (by omega)).trans hbk2.out)
  obtain ⟨g0, hg0⟩ : ∃ g0, w2.heap.size = g0 := ⟨_, rfl⟩
  rw [hg0] at HOwn0 hsz2 ⊢
  clear hm1 hW3 hg0 hb2 hB2 hbk2 C
  go_loopw [25] (fun x wr => ∃ k : Nat, x = .int .i64 k ∧ k ≤ n ∧ Hid (wr.ownsRow (w.heap.size + 1) 3 1 (.slice (some ⟨g0, 0, none⟩) n n) n (natV (fillL (kidsL t) k))) ∧ Hid (wr.heap[w.heap.size]? = some (.cells #[.slice none 0 0, .slice none 0 0] 52 (0, 0))) ∧ Below w.heap.size w wr) (fun x _ => n - (intOf x).toNat)
  case atStart => exact ⟨0, rfl, Nat.zero_le _, Lib.hid (by rw [fillL_0, HKL.out]; exact HOwn0.out), hbk3, hB3⟩
  case round =>
    obtain ⟨k, rfl, hk, HO, HBk, hb⟩ := hrel
    by_cases hlt : k < n
    · obtain ⟨x, hx⟩ : ∃ x, t[k]? = some x := ⟨_, List.getElem?_eq_getElem (by rw [HN.out]; exact hlt)⟩
      obtain ⟨c, hcE⟩ : ∃ c : Nat, x.2.1 = (c : Int) := ⟨x.2.1.toNat, by have := hK0.out x (List.mem_of_getElem? hx); omega⟩
      have hkc : (kidsL t)[k]? = some c := by unfold kidsL; rw [List.getElem?_map, hx, Option.map_some, hcE, Int.toNat_natCast]
      have hold : (fillL (kidsL t) k)[k]? = some 0 := by
        unfold fillL
        rw [List.getElem?_append_right (by rw [List.length_take]; omega), List.length_take, HKL.out, Nat.min_eq_left hk, Nat.sub_self, List.getElem?_replicate, if_pos (by omega)]
      have HSet := Lib.hid (fillL_set hkc)
      obtain ⟨d0, d1, d2, d3⟩ := dcs_at t hx
      have c0 : wr.cell? ⟨g, off + k * 4, none⟩ = some (.int .i64 x.1) := (hb.cell (p := ⟨g, off + k * 4, none⟩) hg).trans (HC.out _ _ d0)
      have c1 : wr.cell? ⟨g, off + k * 4 + 1, none⟩ = some (.int .i64 x.2.1) := (hb.cell (p := ⟨g, off + k * 4 + 1, none⟩) hg).trans (HC.out _ _ d1)
      have c2 : wr.cell? ⟨g, off + k * 4 + 2, none⟩ = some (.int .i64 x.2.2.1) := (hb.cell (p := ⟨g, off + k * 4 + 2, none⟩) hg).trans (HC.out _ _ d2)
      have c3 : wr.cell? ⟨g, off + k * 4 + 3, none⟩ = some (.string (str x.2.2.2)) := (hb.cell (p := ⟨g, off + k * 4 + 3, none⟩) hg).trans (HC.out _ _ d3)
      rw [hcE] at c1
      obtain ⟨x0, x1, x2, x3⟩ := x
      simp only at c0 c1 c2 c3
      have hgr : g0 < wr.heap.size := by
        rcases own_form HO.out with ⟨hv, _⟩ | ⟨g', c', hv, _, hg'⟩
        · cases hv
        · cases hv; exact hg'
      have e0 : wr.cell? ⟨g0, k, none⟩ = some (.int .i64 0) := own_cell HO.out (natV_at hold)
      have e1 : wr.frozen? ⟨g0, k, none⟩ = false := HO.out.frozenAt k
      have hk0 : (0 : Int) ≤ (k : Int) := Int.natCast_nonneg _
      have hk1 : (k : Int) < (n : Int) := by omega
      clear hx hcE hkc hold d0 d1 d2 d3
      have hgne : g0 ≠ wr.heap.size := by omega
      go_wp2_with fail
      -- MARK5
      have hown2 := (HO.out.stored k (.int .i64 (c : Int))).1
      rw [natV_set, HSet.out] at hown2
      have hsz5 : (wr.setCell ⟨g0, k, none⟩ (.int .i64 (c : Int))).heap.size = wr.heap.size := World.size_setCell _ _ _
      have hbk5 := (Below.heap_alloc (wr.setCell ⟨g0, k, none⟩ (.int .i64 (c : Int))) (.cells #[.int .i64 x0, .int .i64 (c : Int), .int .i64 x2, .string (str x3)] 40) w.heap.size (by rw [hsz5]; exact (Array.getElem?_eq_some_iff.1 HBk.out).1)).trans ((Below.heap_setCell wr ⟨g0, k, none⟩ (.int .i64 (c : Int)) w.heap.size (by show w.heap.size ≠ g0; omega)).trans HBk.out)
      go_roundw
      case rel => exact ⟨k + 1, by go_num, by omega, Lib.hid (hown2.alloc _), Lib.hid hbk5, (hb.setCell (p := ⟨g0, k, none⟩) (by show w.heap.size ≤ g0; omega) _).alloc (by rw [hsz5]; exact hb.size) _⟩
      case measure => simp [intOf]; omega
    · obtain rfl : k = n := by omega
      have HO2 : Hid (wr.ownsRow (w.heap.size + 1) 3 1 (.slice (some ⟨g0, 0, none⟩) k k) k (natV (kidsL t))) := Lib.hid (by have h1 := HO.out; rw [← HKL.out, fillL_all, HKL.out] at h1; exact h1)
      have hgr : g0 < wr.heap.size := by
        rcases own_form HO.out with ⟨hv, _⟩ | ⟨g', c', hv, _, hg'⟩
        · cases hv
        · cases hv; exact hg'
      have C2 := Lib.hid (endsOf_any (some ⟨g0, 0, none⟩) k k (kidsL t) wr HKL.out (by omega) (Lib.hid fun _ => ⟨g0, 0, rfl, hgr, fun j q hj => by rw [Nat.zero_add]; exact own_cell HO2.out (natV_at hj)⟩))
      have HTB : Hid (trB (kidsL t) = true) := Lib.hid (by unfold trB; exact decide_eq_true HT1.out)
      clear HO
      go_wp2_with fail
      -- MARK6
      refine C2.out.mono ?_
      rintro e' w4 ⟨ve, rfl, hve, _, hb4⟩
      obtain ⟨ge, rfl, hge1, hge2, hgc⟩ := hve HTB.out
      have hbk4 := (hb4.block w.heap.size (Array.getElem?_eq_some_iff.1 HBk.out).1).trans HBk.out
      obtain ⟨d0, d1, f0, f1⟩ := box_facts hbk4
      have hB4 := hb.trans (hb4.mono hb.size)
      rw [HTB.out, HKL.out]
      have HGC := Lib.hid hgc
      have hgw : ge ≠ w.heap.size := by have := (Array.getElem?_eq_some_iff.1 HBk.out).1; omega
      clear hgc hve hb4 HBk
      go_wp2_with fail
      -- MARK7
      refine bodyPost_ret (results_tree rfl _ _ w.heap.size _ _ _ rfl (set_both _ _ hbk4)) rfl ?_
      refine ⟨fun h => absurd HE.out h, fun _ => ⟨_, rfl, ge, by rw [HN.out], by have := hb.size; omega, ?_, fun j q hj => ?_⟩, set_two hB4 (Nat.le_refl _)⟩
      · simp only [World.size_setCell]; exact hge2
      · rw [World.cell?_setCell_far _ _ _ _ (by show w.heap.size ≠ ge; omega), World.cell?_setCell_far _ _ _ _ (by show w.heap.size ≠ ge; omega)]
        exact HGC.out j q hj
end Go.Proofs.YtkngkajojcmmlaaGreatDoor

/- Trees with a node: treeWith, Size; Shape. -/
namespace Go.Proofs.YtkngkajojcmmlaaGreatDoor
open Go.RowKit Go.PlainAid

theorem treeOf_any (sy : List UInt8 → Bool) (v : Value) (t : List Nd) (w : World) (h : NdsAt w v t) (HS : Hid (SymAll 22 sy w)) (KB : Hid (KidsB t)) :
    Calls Tryz.prog 23 #[v] w (TreeV sy t v w) := by
  by_cases hc : (chkT sy t).2 = 0
  · exact treeOf_ok sy v t w h HS KB hc
  · exact treeOf_bad sy v t w h HS KB hc
theorem NdsAt.slice {w : World} {v : Value} {t : List Nd} (h : NdsAt w v t) : ∃ a c, v = .slice a t.length c := by
  rcases h with ⟨a, c, rfl, rfl⟩ | ⟨g, off, cap, rfl, _, _⟩
  · exact ⟨a, c, rfl⟩
  · exact ⟨_, _, rfl⟩
/-- The error of a datum and a node. -/
def atE (sy : List UInt8 → Bool) (t : List Nd) (i : Int) : Int := if (chkT sy t).2 ≠ 0 then (chkT sy t).2 else if i < 0 ∨ (t.length : Int) ≤ i then 4 else 0
theorem atE_bad {sy : List UInt8 → Bool} {t : List Nd} {i : Int} (h : (chkT sy t).2 ≠ 0) : atE sy t i = (chkT sy t).2 := by unfold atE; rw [if_pos h]
theorem atE_out {sy : List UInt8 → Bool} {t : List Nd} {i : Int} (h : (chkT sy t).2 = 0) (hi : i < 0 ∨ (t.length : Int) ≤ i) : atE sy t i = 4 := by unfold atE; rw [if_neg (by rw [h]; simp), if_pos hi]
theorem atE_in {sy : List UInt8 → Bool} {t : List Nd} {i : Int} (h : (chkT sy t).2 = 0) (hi : ¬(i < 0 ∨ (t.length : Int) ≤ i)) : atE sy t i = 0 := by unfold atE; rw [if_neg (by rw [h]; simp), if_neg hi]
theorem atE_0 {sy : List UInt8 → Bool} {t : List Nd} {i : Int} (h : atE sy t i = 0) : (chkT sy t).2 = 0 ∧ 0 ≤ i ∧ i < (t.length : Int) := by
  unfold atE at h
  split at h
  · rename_i h1; exact absurd h h1
  · rename_i h1
    split at h
    · cases h
    · rename_i h2; exact ⟨Decidable.not_not.1 h1, by omega, by omega⟩
/-- What treeWith returns. -/
def TreeWV (sy : List UInt8 → Bool) (t : List Nd) (i : Int) (v : Value) (w : World) (e : Ending) (w' : World) : Prop :=
  (atE sy t i ≠ 0 → e = .returned (.tuple #[zeroTree, .int .i64 (atE sy t i)])) ∧ (atE sy t i = 0 → ∃ ve, e = .returned (.tuple #[.agg #[v, ve], .int .i64 0]) ∧ EndsAt w.heap.size w' ve t) ∧ Below w.heap.size w w'

theorem set_alloc {W : World} {n : Nat} {x y : Value} {t : TypeId} {fr : Nat × Nat} (x' y' : Value) (o : Obj) (h : W.heap[n]? = some (.cells #[x, y] t fr)) : ((((W.setCell ⟨n, 0, none⟩ x').setCell ⟨n, 1, none⟩ y').alloc o).heap[n]? = some (.cells #[x', y'] t fr)) :=
  (Below.heap_alloc _ _ _ (by simp only [World.size_setCell]; exact (Array.getElem?_eq_some_iff.1 h).1)).trans (set_both x' y' h)
theorem below_sa {w W : World} {i j : Nat} {x y : Value} {o : Obj} (h : Below w.heap.size w W) : Below w.heap.size w (((W.setCell ⟨w.heap.size, i, none⟩ x).setCell ⟨w.heap.size, j, none⟩ y).alloc o) :=
  (set_two h (Nat.le_refl _)).alloc (by simp only [World.size_setCell]; exact h.size) o

set_option maxRecDepth 50000 in
set_option maxHeartbeats 3200000 in
theorem treeWith_any (sy : List UInt8 → Bool) (v : Value) (t : List Nd) (i : Int) (w : World) (h : NdsAt w v t) (HS : Hid (SymAll 22 sy w)) (KB : Hid (KidsB t)) :
    Calls Tryz.prog 36 #[v, .int .i64 i] w (TreeWV sy t i v w) := by
  obtain ⟨a, c, hv⟩ := h.slice
  obtain ⟨n, hn⟩ : ∃ n, t.length = n := ⟨_, rfl⟩
  rw [hn] at hv
  obtain ⟨W1, hW1⟩ : ∃ W1, W1 = w.alloc (.cells #[.slice none 0 0, .slice none 0 0] 52) := ⟨_, rfl⟩
  have hb1 : Below w.heap.size w W1 := by rw [hW1]; exact below_b1 _ _
  have hbk : W1.heap[w.heap.size]? = some (.cells #[.slice none 0 0, .slice none 0 0] 52 (0, 0)) := by rw [hW1]; exact World.alloc_heap_new _ _
  have C := Lib.hid (treeOf_any sy v t W1 (h.below hb1 (Nat.le_refl _)) (Lib.hid (HS.out.below hb1)) KB)
  subst hv
  clear h HS KB
  by_cases hc : (chkT sy t).2 = 0
  · have HC := Lib.hid hc
    have HN := Lib.hid hn
    by_cases hi : i < 0 ∨ (n : Int) ≤ i
    · have HE : Hid (atE sy t i = 4) := Lib.hid (atE_out hc (by rw [hn]; exact hi))
      have hor : decide (i < 0) = true ∨ (decide (i < 0) = false ∧ decide ((n : Int) ≤ i) = true) := by
        by_cases h1 : i < 0
        · exact .inl (decide_eq_true h1)
        · exact .inr ⟨decide_eq_false h1, decide_eq_true (by omega)⟩
      clear hc hn hi
      rcases hor with g1 | ⟨g1, g2⟩ <;> (
        go_enter Tryz.func36, Tryz.ntmps36
        go_wp2_with fail
        rw [← hW1]
        clear hW1
        refine C.out.mono ?_
        rintro e' w2 ⟨_, hok, hb2⟩
        obtain ⟨ve, rfl, hve⟩ := hok HC.out
        have hbk2 := (hb2.block w.heap.size (Array.getElem?_eq_some_iff.1 hbk).1).trans hbk
        have hlt2 := (Array.getElem?_eq_some_iff.1 hbk2).1
        obtain ⟨d0, d1, f0, f1⟩ := box_facts hbk2
        have hB2 := hb1.trans (hb2.mono hb1.size)
        obtain ⟨ge, rfl, _, _, _⟩ := hve
        clear hok
        go_wp2_with fail
        -- MARK1
        refine bodyPost_ret (results_tree rfl _ _ w.heap.size _ _ _ rfl (set_alloc _ _ _ hbk2)) rfl ?_
        exact ⟨fun _ => by rw [HE.out]; rfl, fun h => (by rw [HE.out] at h; cases h), below_sa hB2⟩)
    · have HE : Hid (atE sy t i = 0) := Lib.hid (atE_in hc (by rw [hn]; exact hi))
      have g1 : decide (i < 0) = false := decide_eq_false (by omega)
      have g2 : decide ((n : Int) ≤ i) = false := decide_eq_false (by omega)
      clear hc hn hi
      go_enter Tryz.func36, Tryz.ntmps36
      go_wp2_with fail
      rw [← hW1]
      clear hW1
      refine C.out.mono ?_
      rintro e' w2 ⟨_, hok, hb2⟩
      obtain ⟨ve, rfl, hve⟩ := hok HC.out
      have hbk2 := (hb2.block w.heap.size (Array.getElem?_eq_some_iff.1 hbk).1).trans hbk
      have hlt2 := (Array.getElem?_eq_some_iff.1 hbk2).1
      obtain ⟨d0, d1, f0, f1⟩ := box_facts hbk2
      have hB2 := hb1.trans (hb2.mono hb1.size)
      obtain ⟨ge, rfl, hgb, hge, hgc⟩ := hve
      have hgne : Hid (ge ≠ w.heap.size) := Lib.hid (by have := (Array.getElem?_eq_some_iff.1 hbk).1; omega)
      have HGC := Lib.hid hgc
      clear hok hgc
      go_wp2_with fail
      -- MARK2
      refine bodyPost_ret (results_tree rfl _ _ w.heap.size _ _ _ rfl (set_alloc _ _ _ hbk2)) rfl ?_
      refine ⟨fun h => absurd HE.out h, fun _ => ⟨_, rfl, ge, rfl, by have := (Array.getElem?_eq_some_iff.1 hbk).1; omega, ?_, fun j q hj => ?_⟩, below_sa hB2⟩
      · simp only [World.size_setCell, World.size_alloc]; omega
      · rw [World.cell?_alloc_lt _ _ _ (by simp only [World.size_setCell]; exact hge), World.cell?_setCell_far _ _ _ _ (by show w.heap.size ≠ ge; exact hgne.out.symm), World.cell?_setCell_far _ _ _ _ (by show w.heap.size ≠ ge; exact hgne.out.symm)]
        exact HGC.out j q hj
  · have HC := Lib.hid hc
    have HE : Hid (atE sy t i = (chkT sy t).2) := Lib.hid (atE_bad hc)
    have hne : ((chkT sy t).2 != 0) = true := bne_iff_ne.2 hc
    clear hc hn
    go_enter Tryz.func36, Tryz.ntmps36
    go_wp2_with fail
    rw [← hW1]
    clear hW1
    refine C.out.mono ?_
    rintro e' w2 ⟨hbad, _, hb2⟩
    obtain rfl := hbad HC.out
    have hbk2 := (hb2.block w.heap.size (Array.getElem?_eq_some_iff.1 hbk).1).trans hbk
    have hlt2 := (Array.getElem?_eq_some_iff.1 hbk2).1
    obtain ⟨d0, d1, f0, f1⟩ := box_facts hbk2
    have hB2 := hb1.trans (hb2.mono hb1.size)
    unfold zeroTree
    clear hbad
    go_wp2_with fail
    -- MARK3
    refine bodyPost_ret (results_tree rfl _ _ w.heap.size _ _ _ rfl (set_alloc _ _ _ hbk2)) rfl ?_
    exact ⟨fun _ => by rw [HE.out]; rfl, fun h => (by rw [HE.out] at h; exact absurd h HC.out), below_sa hB2⟩

/-- What Size returns. -/
def sizeV (sy : List UInt8 → Bool) (t : List Nd) (i : Int) : Value := .tuple #[.int .i64 (if atE sy t i = 0 then (endN (kidsL t) i.toNat : Int) - i else 0), .int .i64 (atE sy t i)]
set_option maxRecDepth 50000 in
set_option maxHeartbeats 3200000 in
theorem Size_any (sy : List UInt8 → Bool) (v : Value) (t : List Nd) (i : Int) (w : World) (h : NdsAt w v t) (HS : Hid (SymAll 22 sy w)) (KB : Hid (KidsB t)) :
    Calls Tryz.prog 17 #[v, .int .i64 i] w fun e w' => e = .returned (sizeV sy t i) ∧ Below w.heap.size w w' := by
  have C := Lib.hid (treeWith_any sy v t i w h HS KB)
  obtain ⟨a, c, rfl⟩ := h.slice
  clear h HS KB
  by_cases hz : atE sy t i = 0
  · obtain ⟨h1, h2, h3⟩ := atE_0 hz
    obtain ⟨n, rfl⟩ : ∃ n : Nat, i = (n : Int) := ⟨i.toNat, by omega⟩
    obtain ⟨k1, k2, k3, _, _⟩ := chkT_ok h1
    have hnt : n < (kidsL t).length := by rw [kidsL_len]; omega
    obtain ⟨b1, b2⟩ := k1.end_bd hnt
    obtain ⟨q, hq⟩ : ∃ q, endN (kidsL t) n = q := ⟨_, rfl⟩
    have HAt : Hid ((endsL (kidsL t))[n]? = some q) := Lib.hid (by rw [← hq]; exact endsL_at hnt)
    have HV : Hid (sizeV sy t (n : Int) = .tuple #[.int .i64 ((q : Int) - (n : Int)), .int .i64 0]) := Lib.hid (by unfold sizeV; rw [hz, if_pos rfl, Int.toNat_natCast, hq])
    rw [hq] at b1 b2
    rw [kidsL_len] at b2
    have HZ := Lib.hid hz
    have hn0 : (0 : Int) ≤ (n : Int) := Int.natCast_nonneg _
    have hn1 : (n : Int) < (t.length : Int) := by omega
    clear hz h1 h2 h3 k1 k2 hnt hq
    go_enter Tryz.func17, Tryz.ntmps17
    go_wp2_with fail
    refine C.out.mono ?_
    rintro e' w2 ⟨_, hok, hb2⟩
    obtain ⟨ve, rfl, ge, rfl, hge, hgl, hgc⟩ := hok HZ.out
    have d0 := hgc n q HAt.out
    have d1 : ∀ o, (w2.alloc o).cell? ⟨ge, n, none⟩ = some (.int .i64 (q : Int)) := fun o => (World.cell?_alloc_lt _ _ _ hgl).trans d0
    clear hok hgc
    go_wp2_with fail
    -- MARK4
    go_ret2
    exact ⟨(congrArg Ending.returned HV.out).symm, hb2.alloc hb2.size _⟩
  · have HV : Hid (sizeV sy t i = .tuple #[.int .i64 0, .int .i64 (atE sy t i)]) := Lib.hid (by unfold sizeV; rw [if_neg hz])
    have hne : (atE sy t i != 0) = true := bne_iff_ne.2 hz
    have HZ := Lib.hid hz
    clear hz
    go_enter Tryz.func17, Tryz.ntmps17
    go_wp2_with fail
    refine C.out.mono ?_
    rintro e' w2 ⟨hbad, _, hb2⟩
    obtain rfl := hbad HZ.out
    unfold zeroTree
    clear hbad
    go_wp2_with fail
    -- MARK5
    go_ret2
    exact ⟨(congrArg Ending.returned HV.out).symm, hb2.alloc hb2.size _⟩
end Go.Proofs.YtkngkajojcmmlaaGreatDoor

/- Trees: parent, placeOf; Shape. -/
namespace Go.Proofs.YtkngkajojcmmlaaGreatDoor
open Go.RowKit Go.PlainAid

set_option maxRecDepth 50000 in
set_option maxHeartbeats 3200000 in
theorem parent_any (v : Value) (t : List Nd) (ge i : Nat) (w : World) (a : Option Addr) (n c : Nat) (hv : v = .slice a n c) (hn : t.length = n) (hT : Tr (kidsL t)) (hi : i < n) (h0 : 0 < i) (hl : n ≤ 400) (hg : ge < w.heap.size)
    (hc : ∀ (j q : Nat), (endsL (kidsL t))[j]? = some q → w.cell? ⟨ge, j, none⟩ = some (.int .i64 (q : Int))) :
    Calls Tryz.prog 37 #[.agg #[v, .slice (some ⟨ge, 0, none⟩) n n], .int .i64 (i : Int)] w fun e w' => e = .returned (.int .i64 (parN (kidsL t) i : Int)) ∧ Below w.heap.size w w' := by
  subst hv
  have hkl : (kidsL t).length = n := by rw [kidsL_len, hn]
  have HE : Hid (∀ p, p < n → w.cell? ⟨ge, p, none⟩ = some (.int .i64 (endN (kidsL t) p : Int))) := Lib.hid fun p hp => hc p _ (endsL_at (by rw [hkl]; exact hp))
  have HP : Hid (∀ p, parGo (kidsL t) i (p + 1) = if i < endN (kidsL t) p then p else parGo (kidsL t) i p) := Lib.hid fun p => rfl
  have HZ : Hid (endN (kidsL t) 0 = n) := Lib.hid (by rw [hT.end_0, hkl])
  have HB : Hid (∀ p, p < n → endN (kidsL t) p ≤ n) := Lib.hid fun p hp => by rw [← hkl]; exact (hT.end_bd (by rw [hkl]; exact hp)).2
  have HN : Hid (parN (kidsL t) i = parGo (kidsL t) i i) := Lib.hid rfl
  clear hc hT hkl hn
  go_enter Tryz.func37, Tryz.ntmps37
  go_wp2_with fail
  -- MARK1
  obtain ⟨_, d0, _, _⟩ := box_facts (World.alloc_heap_new w (.cells #[.slice a n c, .slice (some ⟨ge, 0, none⟩) n n] 52))
  go_loop [5] (fun x => ∃ p : Nat, x = .int .i64 (p : Int) ∧ p < i ∧ Hid (parGo (kidsL t) i (p + 1) = parGo (kidsL t) i i)) (fun x => (intOf x).toNat)
  case atStart => exact ⟨i - 1, by congr 1; omega, by omega, Lib.hid (by rw [show i - 1 + 1 = i by omega])⟩
  case round =>
    obtain ⟨p, rfl, hp, HR⟩ := hrel
    obtain ⟨q, hq⟩ : ∃ q, endN (kidsL t) p = q := ⟨_, rfl⟩
    have e0 := HE.out p (by omega)
    have hqn := HB.out p (by omega)
    rw [hq] at e0 hqn
    have HQ := Lib.hid hq
    have e1 : ∀ o, (w.alloc o).cell? ⟨ge, p, none⟩ = some (.int .i64 (q : Int)) := fun o => (World.cell?_alloc_lt _ _ _ hg).trans e0
    have hp0 : (0 : Int) ≤ (p : Int) := Int.natCast_nonneg _
    have hp1 : (p : Int) < (n : Int) := by omega
    clear hq
    by_cases hle : q ≤ i
    · have hpos : 0 < p := by
        rcases Nat.eq_zero_or_pos p with e | e
        · have h1 := HQ.out; rw [e, HZ.out] at h1; omega
        · exact e
      have HR2 : Hid (parGo (kidsL t) i (p - 1 + 1) = parGo (kidsL t) i i) := Lib.hid (by
        rw [show p - 1 + 1 = p by omega, ← HR.out, HP.out, if_neg (by rw [HQ.out]; omega)])
      have hd : decide ((q : Int) ≤ (i : Int)) = true := decide_eq_true (by omega)
      go_wp2_with fail
      -- MARK2
      go_round
      case rel => exact ⟨p - 1, by congr 1; omega, by omega, HR2⟩
      case measure => simp [intOf]; omega
    · have HF : Hid (parN (kidsL t) i = p) := Lib.hid (by rw [HN.out, ← HR.out, HP.out, if_pos (by rw [HQ.out]; omega)])
      have hd : decide ((q : Int) ≤ (i : Int)) = false := decide_eq_false (by omega)
      go_wp2_with fail
      -- MARK3
      go_ret
      exact ⟨ret_int (by rw [HF.out]), (Below.refl _ w).alloc (Nat.le_refl _) _⟩

set_option maxRecDepth 50000 in
set_option maxHeartbeats 1600000 in
theorem placeOf_at (v : Value) (l : List Int) (x : Int) (j : Nat) (w : World) (h : IntRow w v l) (hj : l[j]? = some x) (hno : ∀ (k : Nat) (y : Int), k < j → l[k]? = some y → y ≠ x) (hl : l.length ≤ 1000000) :
    Calls Tryz.prog 38 #[v, .int .i64 x] w fun e w' => e = .returned (.int .i64 (j : Int)) ∧ w = w' := by
  obtain ⟨a, c, rfl, hA⟩ := h
  have hjl := (List.getElem?_eq_some_iff.1 hj).1
  rcases hA with hnil | ⟨g, off, rfl, hg, hc⟩
  · rw [hnil] at hj; cases hj
  obtain ⟨n, hn⟩ : ∃ n, l.length = n := ⟨_, rfl⟩
  rw [hn] at hjl hl
  rw [hn]
  have HC := Lib.hid hc
  have HNo := Lib.hid hno
  have HJ := Lib.hid hj
  have HN := Lib.hid hn
  clear hc hno hj hn
  go_enter Tryz.func38, Tryz.ntmps38
  go_wp2_with fail
  go_loop [9] (fun s => ∃ k : Nat, s = .int .i64 (k : Int) ∧ k ≤ j) (fun s => n - (intOf s).toNat)
  case atStart => exact ⟨0, rfl, Nat.zero_le _⟩
  case round =>
    obtain ⟨k, rfl, hk⟩ := hrel
    have hk0 : (0 : Int) ≤ (k : Int) := Int.natCast_nonneg _
    have hk1 : (k : Int) < (n : Int) := by omega
    have hlt : k < n := by omega
    by_cases e : k = j
    · subst e
      have d0 := HC.out k x HJ.out
      go_wp2_with fail
      go_ret
      exact ⟨rfl, rfl⟩
    · obtain ⟨y, hy⟩ : ∃ y, l[k]? = some y := ⟨_, List.getElem?_eq_getElem (by rw [HN.out]; exact hlt)⟩
      have d0 := HC.out k y hy
      have hne : (y == x) = false := beq_eq_false_iff_ne.2 (HNo.out k y (by omega) hy)
      clear hy
      go_wp2_with fail
      go_round
      case rel => exact ⟨k + 1, by go_num, by omega⟩
      case measure => simp [intOf]; omega
end Go.Proofs.YtkngkajojcmmlaaGreatDoor
