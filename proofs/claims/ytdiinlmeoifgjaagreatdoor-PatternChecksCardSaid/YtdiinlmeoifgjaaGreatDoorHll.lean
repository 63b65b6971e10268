/- What the law PatternLiteral wants: the reference's small functions, bounds, rows of identifiers. -/
import Derived.Test.YtdiinlmeoifgjaaGreatDoorHlm
namespace Go.Proofs.YtdiinlmeoifgjaaGreatDoor
open Go.RowKit Go.PlainAid

set_option maxRecDepth 50000 in
theorem Dots_any (x : Sx) (w : World) : Calls Tryz.prog 38 #[sxA x] w fun e w' => e = .returned (.bool (dotsX x)) ∧ Below w.heap.size w w' := by
  obtain ⟨k, c, n, s, p, f, t, o⟩ := x
  have hbe := str_eqL s [46, 46, 46]
  obtain ⟨be, hbe2⟩ : ∃ b, decide (s = [46, 46, 46]) = b := ⟨_, rfl⟩
  obtain ⟨bk, hbk⟩ : ∃ b, (k == 3) = b := ⟨_, rfl⟩
  have HV : Hid (dotsX ⟨k, c, n, s, p, f, t, o⟩ = (bk && be)) := Lib.hid (by unfold dotsX; rw [← hbk, ← hbe2]; rfl)
  have hB := below_b1 w (.cells #[.int .i64 k, .int .i64 c, .int .i64 n, .string (str s), .string (str p), .int .i64 f, .int .i64 t, .int .i64 o] 38)
  show Calls _ _ #[.agg #[.int .i64 k, .int .i64 c, .int .i64 n, .string (str s), .string (str p), .int .i64 f, .int .i64 t, .int .i64 o]] _ _
  rw [hbe2] at hbe
  obtain ⟨S, hS⟩ : ∃ S, str s = S := ⟨_, rfl⟩
  rw [hS] at hbe hB ⊢
  have HB := Lib.hid hB
  clear hbe2 hS hB
  cases bk <;> cases be <;> (
    go_enter Tryz.func38, Tryz.ntmps38
    go_wp2
    go_ret
    exact ⟨ret_bool HV.out.symm, HB.out⟩)
set_option maxRecDepth 50000 in
theorem Blank_any (x : Sx) (w : World) : Calls Tryz.prog 45 #[sxA x] w fun e w' => e = .returned (.bool (blkX x)) ∧ Below w.heap.size w w' := by
  obtain ⟨k, c, n, s, p, f, t, o⟩ := x
  have hbe := str_eqL s [95]
  obtain ⟨be, hbe2⟩ : ∃ b, decide (s = [95]) = b := ⟨_, rfl⟩
  obtain ⟨bk, hbk⟩ : ∃ b, (k == 3) = b := ⟨_, rfl⟩
  have HV : Hid (blkX ⟨k, c, n, s, p, f, t, o⟩ = (bk && be)) := Lib.hid (by unfold blkX; rw [← hbk, ← hbe2]; rfl)
  have hB := below_b1 w (.cells #[.int .i64 k, .int .i64 c, .int .i64 n, .string (str s), .string (str p), .int .i64 f, .int .i64 t, .int .i64 o] 38)
  show Calls _ _ #[.agg #[.int .i64 k, .int .i64 c, .int .i64 n, .string (str s), .string (str p), .int .i64 f, .int .i64 t, .int .i64 o]] _ _
  rw [hbe2] at hbe
  obtain ⟨S, hS⟩ : ∃ S, str s = S := ⟨_, rfl⟩
  rw [hS] at hbe hB ⊢
  have HB := Lib.hid hB
  clear hbe2 hS hB
  cases bk <;> cases be <;> (
    go_enter Tryz.func45, Tryz.ntmps45
    go_wp2
    go_ret
    exact ⟨ret_bool HV.out.symm, HB.out⟩)
theorem rdP_len (p : List Sx) (L : List Pid) (hp : p.length ≤ 2000) : (rdP p L).1.length ≤ 2000 := by
  unfold rdP
  split
  · exact Nat.zero_le _
  · rename_i h
    split
    · exact Nat.zero_le _
    · have h1 := rdF_len p L (spP p) []
      have hd : HdOk p := hdP_ok (by simpa using h)
      have h2 : (spP p).length ≤ 2000 := by
        rw [← spP_M hd]
        have := spM_len p (p.length - 2) 2 [(2, p.length, 0, false)]
        omega
      show (rdF p L [] (spP p)).1.length ≤ 2000
      simp at h1; omega
theorem pid_ne (x1 x2 y1 y2 : List UInt8) (W : World) : (binOp .neq 40 (.agg #[.string (str x1), .string (str x2)]) (.agg #[.string (str y1), .string (str y2)])).run Tryz.prog W = .ok (.bool (!decide (((x1, x2) : Pid) = (y1, y2)))) W := by
  have h0 := str_tl x1 y1
  have h1 := str_tl x2 y2
  simp [go_sem, h0, h1]
  by_cases e0 : x1 = y1 <;> by_cases e1 : x2 = y2 <;> simp [e0, e1]
theorem toW_filter (A : List Pv) (q : Pid) : toW (A.filter (notQ q)) = (toW A).filter (fun x => decide (x.1 ≠ q)) := by
  unfold toW
  rw [List.filter_map]; rfl
theorem infoPi : (Tryz.prog.info? 40).map (fun i => (i.zero, i.size, i.bytes)) = some (some (.agg #[.string ByteArray.empty, .string ByteArray.empty]), 2, 32) := by kernel_rfl
theorem emp_rowP (B : Nat) (W : World) (h : B ≤ W.heap.size) : (W.alloc (.cells #[] 40)).ownsRow B 40 2 (.slice (some ⟨W.heap.size, 0, none⟩) 0 0) 0 [] :=
  ⟨rfl, .inr ⟨W.heap.size, 0, #[], rfl, h, World.alloc_heap_new _ _, Nat.le_refl _, by unfold maxLen; omega, rfl, rfl⟩⟩
theorem ps_src {w : World} {ad : Addr} {m c : Nat} {l : List Pid} (h : PsAt w (.slice (some ad) m c) l) : ∀ (j : Nat) (u : Value), (pcs l)[j]? = some u → w.cell? (ad.add j) = some u := by
  intro j u hj
  obtain ⟨a, n, c', e, hn, hc, h⟩ := h
  obtain ⟨rfl, rfl, rfl⟩ := Value.slice.inj e
  rcases h with rfl | ⟨g, off, e, hg, hcell⟩
  · simp [pcs] at hj
  · cases e
    rw [Go.WideShapes.add_plain]; exact hcell j u hj
theorem kept_cells {W W' : World} {ob : Option Nat} {g : Nat} {x y : Value} {t : TypeId} (h : W.grownBy W' ob) (hg : W.heap[g]? = some (.cells #[x, y] t (0, 0))) (hne : some g ≠ ob) : ∀ (j : Nat) (u : Value), [x, y][j]? = some u → W'.cell? ((⟨g, 0, none⟩ : Addr).add j) = some u := by
  intro j u hj
  have hb := (h.block g (Array.getElem?_eq_some_iff.1 hg).1 hne).trans hg
  obtain ⟨c0, c1, _⟩ := box2F hb
  rw [Go.WideShapes.add_plain, Nat.zero_add]
  match j, hj with
  | 0, hj => simp at hj; subst hj; exact c0
  | 1, hj => simp at hj; subst hj; exact c1
theorem box8F {W : World} {n : Nat} {x0 x1 x2 x3 x4 x5 x6 x7 : Value} {t : TypeId} (h : W.heap[n]? = some (.cells #[x0, x1, x2, x3, x4, x5, x6, x7] t (0, 0))) :
    W.cell? ⟨n, 0, none⟩ = some x0 ∧ W.cell? ⟨n, 1, none⟩ = some x1 ∧ W.cell? ⟨n, 2, none⟩ = some x2 ∧ W.cell? ⟨n, 3, none⟩ = some x3 ∧ W.cell? ⟨n, 4, none⟩ = some x4 ∧ W.cell? ⟨n, 5, none⟩ = some x5 ∧ W.cell? ⟨n, 6, none⟩ = some x6 ∧ W.cell? ⟨n, 7, none⟩ = some x7 := by
  refine ⟨?_, ?_, ?_, ?_, ?_, ?_, ?_, ?_⟩ <;> simp [World.cell?, h]
-- MARK9
end Go.Proofs.YtdiinlmeoifgjaaGreatDoor
