/- Print. -/
import Derived.Test.YtbmgpenllpbioaaGreatDoorYr
import Derived.Test.YtbmgpenllpbioaaGreatDoorYd
namespace Go.Proofs.YtbmgpenllpbioaaGreatDoor
open Go.RowKit Go.PlainAid

/-- What Print returns. -/
def prtX (l : List Sx) : List UInt8 × Int := if (chkX l).2 ≠ 0 then ([], (chkX l).2) else prF l [] []
/-- All numbers are 64 bits. -/
def IrX (l : List Sx) : Prop := ∀ x ∈ l, i64r x.n
theorem own_nilP (w : World) (e : TypeId) (z B : Nat) : w.ownsRow B e z (.slice none 0 0) 0 [] := ⟨by simp, .inl ⟨rfl, rfl⟩⟩
structure XTabs (w : World) : Prop where
  st : STabs w
  pw : STab w
theorem XTabs.below {w w' : World} (h : XTabs w) (hb : Below w.heap.size w w') : XTabs w' := ⟨h.st.below hb, h.pw.below hb⟩
def PrJ (w : World) (l : List Sx) (k : Nat) (W : World) : Prop :=
  ∃ va vt a out, PrU w.heap.size (w.heap.size + 1) va vt a out w W ∧ prF l [] [] = prF (l.drop k) a out ∧ a.length ≤ k ∧ topN a ∧ StB a ∧ out.length ≤ k * 210000
def PrR (w : World) (l : List Sx) (_ : Nat) (er : Int) (W : World) : Prop := Below w.heap.size w W ∧ prF l [] [] = ([], er)
theorem prO_len {x : Sx} {a : List Nat} {out : List UInt8} (hs : x.s.length ≤ 100000) (hn : i64r x.n) (ha : a.length ≤ 5000) : (prO x a out).length ≤ out.length + 210000 := by
  have := leafS_len hs hn
  unfold prO
  split
  · rw [List.length_append]; show out.length + 1 ≤ _; omega
  · rw [List.length_append, List.length_append, List.length_append, List.length_replicate]
    split
    · show _ + 0 ≤ _; omega
    · show _ + 1 ≤ _; omega
theorem prJ_step {w : World} {l : List Sx} (hs : SmX l) (hi : InX l) (hr : IrX l) (hk0 : ∀ x ∈ l, 0 ≤ x.c) (T : XTabs w) (hl : l.length ≤ 2000) (k : Nat) (x : Sx) (W : World) (hx : l[k]? = some x) (h : PrJ w l k W) :
    Calls Tryz.prog 66 #[.pointer (some ⟨w.heap.size, 0, none⟩), .int .i64 (k : Int), sxA x] W fun e w' => ∃ er, e = .returned (.int .i64 er) ∧ (er = 0 → PrJ w l (k + 1) w') ∧ (er ≠ 0 → PrR w l k er w') := by
  obtain ⟨va, vt, a, out, h1, h2, h3, h4, h5, h6⟩ := h
  obtain ⟨hk, ek⟩ := List.getElem?_eq_some_iff.1 hx
  have hxm := List.mem_of_getElem? hx
  have hd : l.drop k = x :: l.drop (k + 1) := by rw [List.drop_eq_getElem_cons hk, ek]
  have hc0 := hk0 x hxm
  have hol : (prO x a out).length ≤ (k + 1) * 210000 := by have := prO_len (x := x) (a := a) (out := out) (hs x hxm).1 (hr x hxm) (by omega); omega
  rw [hd, prF] at h2
  by_cases hc : x.c = 0
  · refine (visitLeaf_any w.heap.size (w.heap.size + 1) k x va vt a out w W h1 hc h5 (by omega) h4 (by omega) T.pw (hs x hxm).2 (hs x hxm).1 (hr x hxm)).mono ?_
    rintro e w' ⟨rfl, va', vt', hst⟩
    have hE : prE x = (leafS x).2 := by unfold prE; rw [if_neg (by omega)]
    have hct : cntA x.c.toNat a = cntA 0 a := by rw [hc]; rfl
    rw [hE] at h2
    refine ⟨_, rfl, fun h0 => ?_, fun h0 => ⟨hst.be, ?_⟩⟩
    · rw [if_neg (by simpa using h0), hct] at h2
      exact ⟨va', vt', _, _, hst.toU, h2, by have := cnt0_le a; omega, cntA_top, cntA_B h5 (by omega), hol⟩
    · rw [if_pos h0] at h2; exact h2
  · obtain ⟨c, hcc⟩ : ∃ c : Nat, x.c = ((c + 1 : Nat) : Int) := ⟨x.c.toNat - 1, by omega⟩
    have hcm := hi x hxm
    refine (visitPar_any w.heap.size (w.heap.size + 1) k c x va vt a out w W h1 hcc (by omega) h5 (by omega) h4 (by omega)).mono ?_
    rintro e w' ⟨rfl, va', vt', hst⟩
    have hE : prE x = 0 := by unfold prE; rw [if_pos (by omega)]
    have hct : cntA x.c.toNat a = cntA (c + 1) a := by rw [hcc, Int.toNat_natCast]
    have hO : prO x a out = out ++ [40] := by unfold prO; rw [if_pos (by omega)]
    rw [hE, if_neg (by simp), hct, hO] at h2
    refine ⟨0, rfl, fun _ => ?_, fun h0 => absurd rfl h0⟩
    exact ⟨va', vt', _, _, hst.toU, h2, by have := cntA_len (c + 1) a; omega, cntA_top, cntA_B h5 (by omega), by rw [← hO]; exact hol⟩
theorem eg_print : ∀ args w, (callFunc 66 args).run Tryz.prog w = .ok (.enter 66 args) w := fun args w => by kernel_rfl
set_option maxRecDepth 50000 in
set_option maxHeartbeats 3200000 in
theorem Print_x (v : Value) (l : List Sx) (w : World) (h : XsAt w v l) (hs : SmX l) (hi : InX l) (hr : IrX l) (T : XTabs w) :
    Calls Tryz.prog 38 #[v] w fun e w' => e = .returned (strE (prtX l)) ∧ Below w.heap.size w w' := by
  have CC := Lib.hid (check_one v l w h hs hi T.st)
  by_cases he : (chkX l).2 = 0
  case neg =>
    have HV : Hid (prtX l = ([], (chkX l).2)) := Lib.hid (by unfold prtX; rw [if_pos he])
    obtain ⟨z, hz⟩ : ∃ z, (chkX l).2 = z := ⟨_, rfl⟩
    rw [hz] at CC HV he
    have hne : (z != 0) = true := bne_iff_ne.2 he
    obtain ⟨va, vc, rfl, _⟩ := h.slice
    clear h hs hi hr T hz he
    go_enter Tryz.func38, Tryz.ntmps38
    go_wp2_with fail
    refine CC.out.mono ?_
    rintro e w1 ⟨rfl, hb1⟩
    go_wp2_with fail
    go_ret2
    exact ⟨by rw [HV.out]; rfl, hb1⟩
  have hl := (chkX_tree he).2.2
  have hk0 := chkX_kids he
  have CW : Hid (∀ W0 W, W0 = W.alloc (.cells #[.slice none 0 0, .slice none 0 0] 90) → Below w.heap.size w W → Calls Tryz.prog 47 #[v, .func (.func 66) #[.pointer (some ⟨W.heap.size, 0, none⟩)] #[]] W0 fun e w' => (e = .returned (.tuple #[.int .i64 0, .int .i64 0]) ∧ PrJ W l l.length w') ∨ ∃ (k : Nat) (er : Int), er ≠ 0 ∧ e = .returned (.tuple #[.int .i64 (k : Int), .int .i64 er]) ∧ PrR W l k er w') := Lib.hid fun W0 W e hW => by
    subst e
    exact walk_any 66 W.heap.size v l W _ (PrJ W l) (PrR W l) (h.below hW (Nat.le_refl _)) (by omega) (Lib.hid eg_print) (Lib.hid fun k W' hJ => by obtain ⟨_, _, _, _, h1, _⟩ := hJ; exact h1.be) (Lib.hid fun k W' o hJ => by obtain ⟨a1, a2, a3, a4, h1, h2⟩ := hJ; exact ⟨a1, a2, a3, a4, h1.below (below_b1 _ _), h2⟩)
      (Lib.hid fun k x W' hx hJ => prJ_step hs hi hr hk0 (T.below hW) hl k x W' hx hJ)
      (Lib.hid ⟨.slice none 0 0, .slice none 0 0, [], [], ⟨World.alloc_heap_new _ _, own_nilP _ _ _ _, own_nilP _ _ _ _, below_b1 _ _, by rw [World.size_alloc]; omega, Nat.le_refl _, Nat.le_succ _⟩, by rw [List.drop_zero], Nat.le_refl _, (by intro a ha; cases ha), (by intro a ha; cases ha), by simp⟩)
  have HP : Hid (prtX l = prF l [] []) := Lib.hid (by unfold prtX; rw [if_neg (by simpa using he)])
  obtain ⟨va, vc, rfl, _⟩ := h.slice
  obtain ⟨n, hn⟩ : ∃ n, l.length = n := ⟨_, rfl⟩
  rw [he] at CC
  rw [hn] at CC CW ⊢
  have HN := Lib.hid hn
  clear h hs hi hr T he hl hk0 hn
  go_enter Tryz.func38, Tryz.ntmps38
  go_wp2_with fail
  refine CC.out.mono ?_
  rintro e w1 ⟨rfl, hb1⟩
  go_wp2_with fail
  -- MARK1
  refine (CW.out _ w1 rfl hb1).mono ?_
  rintro e w2 (⟨rfl, va2, vt2, a2, out2, hU, hF, _⟩ | ⟨k, er, her, rfl, hR, hF⟩)
  · have HV : Hid (prtX l = (out2, 0)) := Lib.hid (by rw [HP.out, hF, List.drop_of_length_le (Nat.le_of_eq HN.out)]; rfl)
    obtain ⟨bt, ct, rfl⟩ := own_lenR hU.ot
    have hcv := conv_own Tryz.underlying88 Tryz.underlying5 hU.ot 9 Tryz.underlying9
    obtain ⟨_, c1, _⟩ := box2_fr hU.bx
    have HB := Lib.hid (below_step hb1 hU.be)
    clear hU hF
    go_wp2_with fail
    -- MARK2
    go_ret2
    exact ⟨by rw [HV.out]; rfl, HB.out⟩
  · have HV : Hid (prtX l = ([], er)) := Lib.hid (by rw [HP.out, hF])
    have hne : (er != 0) = true := bne_iff_ne.2 her
    have HB := Lib.hid (below_step hb1 hR)
    clear hR hF her
    go_wp2_with fail
    go_ret2
    exact ⟨by rw [HV.out]; rfl, HB.out⟩
-- MARK9
end Go.Proofs.YtbmgpenllpbioaaGreatDoor
