/- Check. -/
import Derived.Test.YtdiinlmeoifgjaaGreatDoorZk
namespace Go.Proofs.YtdiinlmeoifgjaaGreatDoor
open Go.RowKit Go.PlainAid

theorem visE_err {k : Nat} {a : List Nat} {x : Sx} (h : k = 0 ∧ a = [] ∨ 0 < k ∧ a ≠ []) : visE k a x = errX x (((stOf k a).length : Int) - 1) := by
  rw [stOf_len h]
  unfold visE errX
  have hn : ¬ (0 < k ∧ a = []) := by
    rcases h with ⟨h1, _⟩ | ⟨_, h2⟩
    · omega
    · exact fun e => h2 e.2
  by_cases hk : kindX x = false
  · rw [if_pos (.inr hk), if_pos hk]
  · rw [if_neg (by rintro (e | e); exact hn e; exact hk e), if_neg hk]
    by_cases h2 : 200 < a.length
    · rw [if_pos h2, if_pos (by omega)]
    · rw [if_neg h2, if_neg (by omega)]
theorem cntA_B {k : Nat} {a : List Nat} (h : StB a) (hk : (k : Int) ≤ 9223372036854775807) : StB (cntA k a) := by
  have hd : StB (decT a) := by
    cases a with
    | nil => exact h
    | cons q r =>
      intro z hz
      rcases List.mem_cons.1 hz with e | e
      · have := h q (by simp); omega
      · exact h z (by simp [e])
  unfold cntA
  split
  · intro z hz; exact hd z (popZ_mem hz)
  · intro z hz
    rcases List.mem_cons.1 hz with e | e
    · rw [e]; exact hk
    · exact hd z e
def chkXV (l : List Sx) : Value := .tuple #[.int .i64 (chkX l).1, .int .i64 (chkX l).2]
/-- How far the walk of Check has come. -/
def CkJ (w : World) (l : List Sx) (k : Nat) (W : World) : Prop :=
  Below w.heap.size w W ∧ ∃ a, LsBox 92 w.heap.size w.heap.size [] a W ∧ topN a ∧ StB a ∧ a.length ≤ k ∧ CkSt l k (stOf k a)
def CkR (w : World) (l : List Sx) (k : Nat) (er : Int) (W : World) : Prop := Below w.heap.size w W ∧ chkG [1] 0 l = ((k : Int), er)
theorem ckJ_step {w : World} {l : List Sx} (hs : SmX l) (hi : InX l) (T : STabs w) (hl : l.length ≤ 2000) (k : Nat) (x : Sx) (W : World) (hx : l[k]? = some x) (h : CkJ w l k W) :
    Calls Tryz.prog 50 #[.pointer (some ⟨w.heap.size, 0, none⟩), .int .i64 (k : Int), sxA x] W fun e w' => ∃ er, e = .returned (.int .i64 er) ∧ (er = 0 → CkJ w l (k + 1) w') ∧ (er ≠ 0 → CkR w l k er w') := by
  obtain ⟨hb, a, h1, h2, h3, h4, h5⟩ := h
  have hk : k < l.length := (List.getElem?_eq_some_iff.1 hx).1
  have hxm := List.mem_of_getElem? hx
  refine (visit_any w.heap.size w.heap.size k x a w W h1 hb hb.size (Nat.le_refl _) (Nat.le_refl _) T (hs x hxm).2 (hi x hxm) h3 (by omega) h2).mono ?_
  rintro e w' ⟨rfl, g1, g2, g3⟩
  refine ⟨_, rfl, fun h0 => ?_, fun h0 => ?_⟩
  · have hor : k = 0 ∧ a = [] ∨ 0 < k ∧ a ≠ [] := by
      by_cases hk0 : k = 0
      · exact .inl ⟨hk0, List.length_eq_zero_iff.1 (by omega)⟩
      · refine .inr ⟨by omega, fun e => ?_⟩
        unfold visE at h0
        rw [if_pos (.inl ⟨by omega, e⟩)] at h0; cases h0
    have hE := visE_err (x := x) hor
    rw [h0] at hE
    have hne : stOf k a ≠ [] := fun e => by
      have := stOf_nil.1 e
      rcases hor with ⟨e1, _⟩ | ⟨_, e2⟩
      · omega
      · exact e2 this.2
    have hc := errX_c hE.symm
    refine ⟨g1, cntA x.c.toNat a, g3 h0, cntA_top, cntA_B h3 (by have := hi x hxm; omega), by have := cntA_len x.c.toNat a; omega, ?_⟩
    rw [← cnt_st hor]
    exact ckSt_step h5 hx hne hE.symm
  · refine ⟨g1, ?_⟩
    by_cases hn : 0 < k ∧ a = []
    · have e1 : visE k a x = 6 := by unfold visE; rw [if_pos (.inl hn)]
      rw [e1]
      rw [stOf_nil.2 hn] at h5
      exact ckSt_over h5 hx
    · have hor : k = 0 ∧ a = [] ∨ 0 < k ∧ a ≠ [] := by
        by_cases hk0 : k = 0
        · exact .inl ⟨hk0, List.length_eq_zero_iff.1 (by omega)⟩
        · exact .inr ⟨by omega, fun e => hn ⟨by omega, e⟩⟩
      have hE := visE_err (x := x) hor
      have hne : stOf k a ≠ [] := fun e => hn (stOf_nil.1 e)
      rw [hE] at h0 ⊢
      exact ckSt_bad h5 hx hne h0
theorem ckJ_alloc {w : World} {l : List Sx} {k : Nat} {W : World} (o : Obj) (h : CkJ w l k W) : CkJ w l k (W.alloc o) := by
  obtain ⟨hb, a, h1, h2⟩ := h
  exact ⟨hb.alloc hb.size o, a, h1.below (below_b1 _ _), h2⟩
theorem eg_visit : ∀ args w, (callFunc 50 args).run Tryz.prog w = .ok (.enter 50 args) w := fun args w => by kernel_rfl
set_option maxRecDepth 50000 in
set_option maxHeartbeats 3200000 in
theorem check_mid (v : Value) (l : List Sx) (w : World) (h : XsAt w v l) (hs : SmX l) (hi : InX l) (T : STabs w) (h0 : l ≠ []) (hl : l.length ≤ 2000) :
    Calls Tryz.prog 42 #[v] w fun e w' => e = .returned (chkXV l) ∧ Below w.heap.size w w' := by
  obtain ⟨W0, hW0⟩ : ∃ W0, W0 = w.alloc (.cells #[.slice none 0 0] 92) := ⟨_, rfl⟩
  have hb0 : Below w.heap.size w W0 := by rw [hW0]; exact below_b1 _ _
  have hJ0 : CkJ w l 0 W0 := ⟨hb0, [], ⟨.slice none 0 0, by rw [hW0]; exact World.alloc_heap_new _ _, ⟨rfl, .inl ⟨rfl, rfl⟩⟩⟩, (by intro a ha; cases ha), (by intro a ha; cases ha), Nat.le_refl _, ckSt_start l⟩
  have CW := Lib.hid (walkX_any 50 w.heap.size v l w W0 (CkJ w l) (CkR w l) h (by omega) (Lib.hid eg_visit) (Lib.hid fun k W hJ => hJ.1) (Lib.hid fun k W o hJ => ckJ_alloc o hJ) (Lib.hid fun k x W hx hJ => ckJ_step hs hi T hl k x W hx hJ) (Lib.hid hJ0))
  obtain ⟨n, hn⟩ : ∃ n, l.length = n := ⟨_, rfl⟩
  have hn0 : 0 < n := by rw [← hn]; exact List.length_pos_iff.2 h0
  have HX : Hid (chkXV l = .tuple #[.int .i64 (chkG [1] 0 l).1, .int .i64 (chkG [1] 0 l).2]) := Lib.hid (by unfold chkXV chkX; rw [if_neg h0, if_neg (by omega)])
  obtain ⟨va, vc, rfl, hc⟩ := h.slice
  rw [hn] at CW hc hl ⊢
  have HE : Hid (∀ a : List Nat, CkSt l n (stOf n a) → chkG [1] 0 l = if a = [] then (0, 0) else ((n : Int), 6)) := Lib.hid fun a ha => by
    rw [ckSt_end ha (Nat.le_of_eq hn)]
    by_cases e : a = []
    · rw [if_pos (stOf_nil.2 ⟨hn0, e⟩), if_pos e]
    · rw [if_neg (fun e' => e (stOf_nil.1 e').2), if_neg e]
  have d1 : ((n : Int) == 0) = false := beq_eq_false_iff_ne.2 (by omega)
  have d2 : decide ((2000 : Int) < (n : Int)) = false := decide_eq_false (by omega)
  clear h hs hi T h0 hn hb0 hJ0
  go_enter Tryz.func42, Tryz.ntmps42
  go_wp2_with fail
  -- MARK1
  rw [← hW0]
  clear hW0
  refine CW.out.mono ?_
  rintro e w1 (⟨rfl, hJ⟩ | ⟨k, er, her, rfl, hR⟩)
  · obtain ⟨hb1, a, ⟨v1, x1, x2⟩, _, _, _, h5⟩ := hJ
    obtain ⟨va1, vc1, rfl⟩ := own_lenR x2
    have c0 := (head_facts x1).1
    have HV := Lib.hid (HE.out a h5)
    have HB1 := Lib.hid hb1
    obtain ⟨m, hm⟩ : ∃ m, a.length = m := ⟨_, rfl⟩
    rw [hm] at c0
    by_cases hm0 : m = 0
    · subst hm0
      have HW : Hid (chkXV l = .tuple #[.int .i64 0, .int .i64 0]) := Lib.hid (by rw [HX.out, HV.out, if_pos (List.length_eq_zero_iff.1 hm)])
      clear hm x1 x2 h5 hb1
      go_wp2_with fail
      -- MARK2
      go_ret2
      exact ⟨(congrArg Ending.returned HW.out).symm, HB1.out⟩
    · have HW : Hid (chkXV l = .tuple #[.int .i64 (n : Int), .int .i64 6]) := Lib.hid (by rw [HX.out, HV.out, if_neg (fun e => hm0 (by rw [← hm, e]; rfl))])
      have d3 : decide ((0 : Int) < (m : Int)) = true := decide_eq_true (by omega)
      have d4 : 0 < m := by omega
      clear hm x1 x2 h5 hb1
      go_wp2_with fail
      -- MARK3
      go_ret2
      exact ⟨(congrArg Ending.returned HW.out).symm, HB1.out⟩
  · have hne : (er != 0) = true := bne_iff_ne.2 her
    have HW : Hid (chkXV l = .tuple #[.int .i64 (k : Int), .int .i64 er]) := Lib.hid (by rw [HX.out, hR.2])
    have HB1 := Lib.hid hR.1
    clear her hR
    go_wp2_with fail
    -- MARK4
    go_ret2
    exact ⟨(congrArg Ending.returned HW.out).symm, HB1.out⟩
theorem check_out (va : Option Addr) (n c : Nat) (l : List Sx) (w : World) (hn : l.length = n) (h : n = 0 ∨ 2000 < n) :
    Calls Tryz.prog 42 #[.slice va n c] w fun e w' => e = .returned (chkXV l) ∧ Below w.heap.size w w' := by
  rcases h with rfl | h
  · have HW : Hid (chkXV l = .tuple #[.int .i64 0, .int .i64 6]) := Lib.hid (by unfold chkXV chkX; rw [if_pos (List.length_eq_zero_iff.1 hn)])
    go_enter Tryz.func42, Tryz.ntmps42
    go_wp2_with fail
    go_ret2
    exact ⟨(congrArg Ending.returned HW.out).symm, Below.refl _ _⟩
  · have HW : Hid (chkXV l = .tuple #[.int .i64 0, .int .i64 3]) := Lib.hid (by unfold chkXV chkX; rw [if_neg (by rintro rfl; simp at hn; omega), if_pos (by omega)])
    have d1 : ((n : Int) == 0) = false := beq_eq_false_iff_ne.2 (by omega)
    have d2 : decide ((2000 : Int) < (n : Int)) = true := decide_eq_true (by omega)
    clear hn h
    go_enter Tryz.func42, Tryz.ntmps42
    go_wp2_with fail
    go_ret2
    exact ⟨(congrArg Ending.returned HW.out).symm, Below.refl _ _⟩
theorem Check_x (v : Value) (l : List Sx) (w : World) (h : XsAt w v l) (hs : SmX l) (hi : InX l) (T : STabs w) :
    Calls Tryz.prog 42 #[v] w fun e w' => e = .returned (chkXV l) ∧ Below w.heap.size w w' := by
  by_cases h1 : l.length = 0 ∨ 2000 < l.length
  · obtain ⟨a, c, rfl, _⟩ := h.slice
    exact check_out a _ c l w rfl h1
  · exact check_mid v l w h hs hi T (by rintro rfl; exact h1 (.inl rfl)) (by omega)
-- MARK9
end Go.Proofs.YtdiinlmeoifgjaaGreatDoor
