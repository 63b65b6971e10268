/- Patterns: the small functions on a node; checkList, checkHead. -/
import Derived.Test.YtdiinlmeoifgjaaGreatDoorYq
namespace Go.Proofs.YtdiinlmeoifgjaaGreatDoor
open Go.RowKit Go.PlainAid

theorem sxA_open (x : Sx) : sxA x = .agg #[.int .i64 x.k, .int .i64 x.c, .int .i64 x.n, .string (str x.s), .string (str x.p), .int .i64 x.f, .int .i64 x.t, .int .i64 x.o] := rfl
theorem str_eqL (s t : List UInt8) : ((str s).toList == t) = decide (s = t) := by
  rw [ByteArray.toList_eq]; show (s == t) = _
  by_cases h : s = t
  · simp [h]
  · simp [h]
set_option maxRecDepth 50000 in
theorem isEll_any (x : Sx) (w : World) : Calls Tryz.prog 23 #[sxA x] w fun e w' => e = .returned (.bool (dotsX x)) ∧ Below w.heap.size w w' := by
  obtain ⟨k, c, n, s, p, f, t, o⟩ := x
  have hbe := str_eqL s [46, 46, 46]
  obtain ⟨be, hbe2⟩ : ∃ b, decide (s = [46, 46, 46]) = b := ⟨_, rfl⟩
  obtain ⟨bk, hbk⟩ : ∃ b, (k == 3) = b := ⟨_, rfl⟩
  have HV : Hid (dotsX ⟨k, c, n, s, p, f, t, o⟩ = (bk && be)) := Lib.hid (by unfold dotsX; rw [← hbk, ← hbe2]; rfl)
  have hB := below_b1 w (.cells #[.int .i64 k, .int .i64 c, .int .i64 n, .string (str s), .string (str p), .int .i64 f, .int .i64 t, .int .i64 o] 38)
  show Calls _ _ #[.agg #[.int .i64 k, .int .i64 c, .int .i64 n, .string (str s), .string (str p), .int .i64 f, .int .i64 t, .int .i64 o]] _ _
  rw [hbe2] at hbe
  obtain ⟨S, hS⟩ : ∃ S, str s = S := ⟨_, rfl⟩
  rw [hS] at hbe hB ⊢
  have HB := Lib.hid hB
  clear hbe2 hS hB
  cases bk <;> cases be <;> (
    go_enter Tryz.func23, Tryz.ntmps23
    go_wp2
    go_ret
    exact ⟨ret_bool HV.out.symm, HB.out⟩)
set_option maxRecDepth 50000 in
theorem isBlk_any (x : Sx) (w : World) : Calls Tryz.prog 27 #[sxA x] w fun e w' => e = .returned (.bool (blkX x)) ∧ Below w.heap.size w w' := by
  obtain ⟨k, c, n, s, p, f, t, o⟩ := x
  have hbe := str_eqL s [95]
  obtain ⟨be, hbe2⟩ : ∃ b, decide (s = [95]) = b := ⟨_, rfl⟩
  obtain ⟨bk, hbk⟩ : ∃ b, (k == 3) = b := ⟨_, rfl⟩
  have HV : Hid (blkX ⟨k, c, n, s, p, f, t, o⟩ = (bk && be)) := Lib.hid (by unfold blkX; rw [← hbk, ← hbe2]; rfl)
  have hB := below_b1 w (.cells #[.int .i64 k, .int .i64 c, .int .i64 n, .string (str s), .string (str p), .int .i64 f, .int .i64 t, .int .i64 o] 38)
  show Calls _ _ #[.agg #[.int .i64 k, .int .i64 c, .int .i64 n, .string (str s), .string (str p), .int .i64 f, .int .i64 t, .int .i64 o]] _ _
  rw [hbe2] at hbe
  obtain ⟨S, hS⟩ : ∃ S, str s = S := ⟨_, rfl⟩
  rw [hS] at hbe hB ⊢
  have HB := Lib.hid hB
  clear hbe2 hS hB
  cases bk <;> cases be <;> (
    go_enter Tryz.func27, Tryz.ntmps27
    go_wp2
    go_ret
    exact ⟨ret_bool HV.out.symm, HB.out⟩)
theorem box2F {W : World} {n : Nat} {x0 x1 : Value} {t : TypeId} (h : W.heap[n]? = some (.cells #[x0, x1] t (0, 0))) :
    W.cell? ⟨n, 0, none⟩ = some x0 ∧ W.cell? ⟨n, 1, none⟩ = some x1 ∧ W.frozen? ⟨n, 0, none⟩ = false ∧ W.frozen? ⟨n, 1, none⟩ = false := by
  refine ⟨?_, ?_, ?_, ?_⟩ <;> simp [World.cell?, World.frozen?, h]
theorem box3F {W : World} {n : Nat} {x0 x1 x2 : Value} {t : TypeId} (h : W.heap[n]? = some (.cells #[x0, x1, x2] t (0, 0))) :
    W.cell? ⟨n, 0, none⟩ = some x0 ∧ W.cell? ⟨n, 1, none⟩ = some x1 ∧ W.cell? ⟨n, 2, none⟩ = some x2 ∧ W.frozen? ⟨n, 0, none⟩ = false ∧ W.frozen? ⟨n, 1, none⟩ = false ∧ W.frozen? ⟨n, 2, none⟩ = false := by
  refine ⟨?_, ?_, ?_, ?_, ?_, ?_⟩ <;> simp [World.cell?, World.frozen?, h]
theorem box1F {W : World} {n : Nat} {x0 : Value} {t : TypeId} (h : W.heap[n]? = some (.cells #[x0] t (0, 0))) :
    W.cell? ⟨n, 0, none⟩ = some x0 ∧ W.frozen? ⟨n, 0, none⟩ = false := by
  refine ⟨?_, ?_⟩ <;> simp [World.cell?, World.frozen?, h]
theorem results_boxP {fn : Func} {p : Tmp} (h : fn.results = #[.cell p 40]) (tmps : Array Value) (W : World) (n : Nat) (a b : Value) (tt : TypeId) (hp : tmps.getD p undef = .pointer (some ⟨n, 0, none⟩)) (hb : W.heap[n]? = some (.cells #[a, b] tt (0, 0))) :
    (results fn tmps).run Tryz.prog W = .ok (.agg #[a, b]) W := by
  obtain ⟨c0, c1, _⟩ := box2F hb
  have hp' : tmps[p]?.getD undef = .pointer (some ⟨n, 0, none⟩) := by simpa using hp
  simp [results, h, hp', go_sem, c0, c1]
-- MARKI
set_option maxRecDepth 50000 in
theorem ident_any (x : Sx) (w : World) : Calls Tryz.prog 26 #[sxA x] w fun e w' => e = .returned (keyV (idX x)) ∧ Below w.heap.size w w' := by
  obtain ⟨k, c, n, s, p, f, t, o⟩ := x
  show Calls _ _ #[.agg #[.int .i64 k, .int .i64 c, .int .i64 n, .string (str s), .string (str p), .int .i64 f, .int .i64 t, .int .i64 o]] _ _
  have HV : Hid (keyV (idX ⟨k, c, n, s, p, f, t, o⟩) = .agg #[.string (str s), .string (str p)]) := Lib.hid rfl
  obtain ⟨S, hS⟩ : ∃ S, str s = S := ⟨_, rfl⟩
  obtain ⟨T, hT⟩ : ∃ S, str p = S := ⟨_, rfl⟩
  rw [hS, hT] at HV ⊢
  obtain ⟨RV, hRV⟩ : ∃ v, keyV (idX ⟨k, c, n, s, p, f, t, o⟩) = v := ⟨_, rfl⟩
  rw [hRV] at HV ⊢
  clear hS hT hRV
  go_enter Tryz.func26, Tryz.ntmps26
  go_wp2
  have hbx := World.alloc_heap_new (w.alloc (.cells #[.int .i64 k, .int .i64 c, .int .i64 n, .string S, .string T, .int .i64 f, .int .i64 t, .int .i64 o] 38)) (.cells #[.string S, .string T] 40)
  rw [World.size_alloc] at hbx
  refine bodyPost_ret (results_boxP rfl _ _ (w.heap.size + 1) _ _ _ rfl hbx) rfl ?_
  exact ⟨congrArg Ending.returned HV.out.symm, (below_b1 w _).alloc (by rw [World.size_alloc]; omega) _⟩
theorem first_any (i : Nat) (w : World) (hi : i ≤ 1000000) : Calls Tryz.prog 34 #[.int .i64 (i : Int)] w fun e w' => e = .returned (.int .i64 (if i = 0 then 2 else (i : Int) + 1)) ∧ w' = w := by
  by_cases h : i = 0
  · subst h
    go_enter Tryz.func34, Tryz.ntmps34
    go_wp2
    go_ret
    exact ⟨rfl, rfl⟩
  · have h1 : ((i : Int) == 0) = false := beq_eq_false_iff_ne.2 (by omega)
    rw [if_neg h]
    go_enter Tryz.func34, Tryz.ntmps34
    go_wp2
    go_ret
    exact ⟨rfl, rfl⟩
/-- What checkList returns. -/
def ckL (p : List Sx) : Int × Int := if (chkX p).2 ≠ 0 then chkX p else match p with | [] => (0, 0) | x :: _ => if x.k ≠ 4 then (0, 6) else (0, 0)
def two64 (r : Int × Int) : Value := .tuple #[.int .i64 r.1, .int .i64 r.2]
set_option maxRecDepth 50000 in
set_option maxHeartbeats 1600000 in
theorem checkList_any (v : Value) (l : List Sx) (w : World) (h : XsAt w v l) (hs : SmX l) (hi : InX l) (T : STabs w) :
    Calls Tryz.prog 36 #[v] w fun e w' => e = .returned (two64 (ckL l)) ∧ Below w.heap.size w w' := by
  have C := Lib.hid (Check_x v l w h hs hi T)
  have HV := Lib.hid h
  unfold chkXV at C
  obtain ⟨⟨r1, r2⟩, hr⟩ : ∃ r, chkX l = r := ⟨_, rfl⟩
  rw [hr] at C
  simp only at C
  by_cases h0 : r2 = 0
  · subst h0
    have hne : l ≠ [] := (chkX_tree (by rw [hr])).2.1
    obtain ⟨x, t, rfl⟩ := List.exists_cons_of_ne_nil hne
    obtain ⟨va, vc, rfl, hc⟩ := h.slice
    obtain ⟨n, hn⟩ : ∃ n, (x :: t).length = n := ⟨_, rfl⟩
    have hn0 : 0 < n := by rw [← hn]; simp
    rw [hn] at C HV hc ⊢
    have HN : Hid (∀ W, Below w.heap.size w W → XsAt W (.slice va n vc) (x :: t)) := Lib.hid fun W hb => HV.out.below hb (Nat.le_refl _)
    have hn1 : (0 : Int) < (n : Int) := by omega
    by_cases hk : x.k = 4
    · have HR : Hid (ckL (x :: t) = (0, 0)) := Lib.hid (by unfold ckL; rw [hr]; simp [hk])
      have hkx : (x.k != 4) = false := by simp [hk]
      obtain ⟨R, hR⟩ : ∃ R, ckL (x :: t) = R := ⟨_, rfl⟩
      rw [hR] at HR ⊢
      clear h hs hi T hr hne hn hR
      go_enter Tryz.func36, Tryz.ntmps36
      go_wp2_with fail
      refine C.out.mono ?_
      rintro e w1 ⟨rfl, hb1⟩
      obtain ⟨g, off, rfl, _, c0, _⟩ := (HN.out w1 hb1).node (k := 0) (x := x) rfl
      rw [Nat.zero_mul, Nat.add_zero] at c0
      go_wp2_with fail
      go_ret2
      exact ⟨by rw [HR.out]; rfl, hb1⟩
    · have HR : Hid (ckL (x :: t) = (0, 6)) := Lib.hid (by unfold ckL; rw [hr]; simp [hk])
      have hkx : (x.k != 4) = true := by simp [hk]
      obtain ⟨R, hR⟩ : ∃ R, ckL (x :: t) = R := ⟨_, rfl⟩
      rw [hR] at HR ⊢
      clear h hs hi T hr hne hn hR
      go_enter Tryz.func36, Tryz.ntmps36
      go_wp2_with fail
      refine C.out.mono ?_
      rintro e w1 ⟨rfl, hb1⟩
      obtain ⟨g, off, rfl, _, c0, _⟩ := (HN.out w1 hb1).node (k := 0) (x := x) rfl
      rw [Nat.zero_mul, Nat.add_zero] at c0
      go_wp2_with fail
      go_ret2
      exact ⟨by rw [HR.out]; rfl, hb1⟩
  · have HR : Hid (ckL l = (r1, r2)) := Lib.hid (by unfold ckL; rw [hr, if_pos h0])
    have hne : (r2 != 0) = true := bne_iff_ne.2 h0
    obtain ⟨R, hR⟩ : ∃ R, ckL l = R := ⟨_, rfl⟩
    rw [hR] at HR ⊢
    clear h hs hi T hr HV hR
    go_enter Tryz.func36, Tryz.ntmps36
    go_wp2_with fail
    refine C.out.mono ?_
    rintro e w1 ⟨rfl, hb1⟩
    go_wp2_with fail
    go_ret2
    exact ⟨by rw [HR.out]; rfl, hb1⟩
-- MARK9
end Go.Proofs.YtdiinlmeoifgjaaGreatDoor
