/- Patterns: Check, Vars; the law's constructors; SameVars. -/
import Derived.Test.YtdiinlmeoifgjaaGreatDoorHt
import Derived.Laws.AppendOwn
namespace Go.Proofs.YtdiinlmeoifgjaaGreatDoor
open Go.RowKit Go.PlainAid

set_option maxRecDepth 50000 in
theorem Check_any (v u : Value) (p : List Sx) (L : List Pid) (w : World) (h : XsAt w v p) (hs : SmX p) (hi : InX p) (T : STabs w) (hu : PsAt w u L) (hsl : SmL L) (hll : L.length ≤ 100000) :
    Calls Tryz.prog 7 #[v, u] w fun e w' => e = .returned (two64 (rdP p L).2) ∧ Below w.heap.size w w' := by
  have C := Lib.hid (read_any v u p L w h hs hi T hu hsl hll)
  obtain ⟨va, vc, rfl, _⟩ := h.slice
  obtain ⟨ua, uc, rfl, _⟩ := hu.slice
  obtain ⟨n, hn⟩ : ∃ n, p.length = n := ⟨_, rfl⟩
  obtain ⟨m, hm⟩ : ∃ n, L.length = n := ⟨_, rfl⟩
  rw [hn, hm] at C ⊢
  clear h hs hi T hu hsl hll hn hm
  go_enter Tryz.func7, Tryz.ntmps7
  go_wp2_with fail
  refine C.out.mono ?_
  rintro e w1 ⟨r, rfl, _, hb1⟩
  go_wp2_with fail
  go_ret2
  exact ⟨rfl, hb1⟩
/-- What Vars gives. -/
def VarsV (p : List Sx) (L : List Pid) (w : World) (e : Ending) (w' : World) : Prop :=
  ∃ v, e = .returned (.tuple #[v, .int .i64 (rdP p L).2.2]) ∧ WsAt w' v (toW (rdP p L).1) ∧ Below w.heap.size w w'
set_option maxRecDepth 50000 in
theorem Vars_any (v u : Value) (p : List Sx) (L : List Pid) (w : World) (h : XsAt w v p) (hs : SmX p) (hi : InX p) (T : STabs w) (hu : PsAt w u L) (hsl : SmL L) (hll : L.length ≤ 100000) :
    Calls Tryz.prog 9 #[v, u] w (VarsV p L w) := by
  have C := Lib.hid (read_any v u p L w h hs hi T hu hsl hll)
  obtain ⟨va, vc, rfl, _⟩ := h.slice
  obtain ⟨ua, uc, rfl, _⟩ := hu.slice
  obtain ⟨n, hn⟩ : ∃ n, p.length = n := ⟨_, rfl⟩
  obtain ⟨m, hm⟩ : ∃ n, L.length = n := ⟨_, rfl⟩
  rw [hn, hm] at C ⊢
  clear h hs hi T hu hsl hll hn hm
  go_enter Tryz.func9, Tryz.ntmps9
  go_wp2_with fail
  refine C.out.mono ?_
  rintro e w1 ⟨r, rfl, hr, hb1⟩
  have HR := Lib.hid hr
  obtain ⟨ra, rc, rfl, _⟩ := hr.slice
  clear hr
  go_wp2_with fail
  go_ret2
  exact ⟨_, rfl, HR.out, hb1⟩
theorem str_tl (a b : List UInt8) : ((str a).toList = (str b).toList) ↔ a = b := by
  rw [ByteArray.toList_eq, ByteArray.toList_eq]; exact Iff.rfl
theorem take_moreH {α : Type} {l m : List α} {k : Nat} {x : α} (h : l.take k = m.take k) (h1 : l[k]? = some x) (h2 : m[k]? = some x) : l.take (k + 1) = m.take (k + 1) := by
  rw [List.take_add_one, List.take_add_one, h, h1, h2]
theorem pw_ne (x1 x2 y1 y2 : List UInt8) (x3 y3 : Int) (W : World) : (binOp .neq 45 (.agg #[.string (str x1), .string (str x2), .int .i64 x3]) (.agg #[.string (str y1), .string (str y2), .int .i64 y3])).run Tryz.prog W = .ok (.bool (!decide (((x1, x2), x3) = ((y1, y2), y3)))) W := by
  have h0 := str_tl x1 y1
  have h1 := str_tl x2 y2
  simp [go_sem, h0, h1]
  by_cases e0 : x1 = y1 <;> by_cases e1 : x2 = y2 <;> by_cases e2 : x3 = y3 <;> simp [e0, e1, e2]
theorem pid_eq (x1 x2 y1 y2 : List UInt8) (W : World) : (binOp .eql 40 (.agg #[.string (str x1), .string (str x2)]) (.agg #[.string (str y1), .string (str y2)])).run Tryz.prog W = .ok (.bool (decide (((x1, x2) : Pid) = (y1, y2)))) W := by
  have h0 := str_tl x1 y1
  have h1 := str_tl x2 y2
  simp [go_sem, h0, h1]
  by_cases e0 : x1 = y1 <;> by_cases e1 : x2 = y2 <;> simp [e0, e1]
set_option maxRecDepth 50000 in
set_option maxHeartbeats 3200000 in
theorem SameVars_any (u v : Value) (a b : List Pw) (w : World) (h1 : WsAt w u a) (h2 : WsAt w v b) (hl : a.length ≤ 100000) (hm : b.length ≤ 100000) :
    Calls Tryz.prog 11 #[u, v] w fun e w' => e = .returned (.bool (decide (a = b))) ∧ Below w.heap.size w w' := by
  have H1 := Lib.hid (fun W (hW : Below w.heap.size w W) => h1.below hW (Nat.le_refl _))
  have H2 := Lib.hid (fun W (hW : Below w.heap.size w W) => h2.below hW (Nat.le_refl _))
  obtain ⟨ua, uc, rfl, _⟩ := h1.slice
  obtain ⟨va, vc, rfl, _⟩ := h2.slice
  obtain ⟨n, hn⟩ : ∃ n, a.length = n := ⟨_, rfl⟩
  obtain ⟨m, hm'⟩ : ∃ n, b.length = n := ⟨_, rfl⟩
  have HN := Lib.hid hn
  have HM := Lib.hid hm'
  rw [hn] at hl H1
  rw [hm'] at hm H2
  rw [hn, hm']
  clear h1 h2 hn hm'
  go_enter Tryz.func11, Tryz.ntmps11
  go_wp2_with fail
  -- MARK1
  go_loopw [5] (fun x5 wr => ∃ k : Nat, x5 = .int .i64 (k : Int) ∧ k ≤ n ∧ k ≤ m ∧ Hid (a.take k = b.take k) ∧ Below w.heap.size w wr) (fun x5 _ => n - (intOf x5).toNat)
  case atStart => exact ⟨0, rfl, Nat.zero_le _, Nat.zero_le _, Lib.hid rfl, Below.refl _ _⟩
  case round =>
    obtain ⟨k, rfl, hk, hk', HE, hb⟩ := hrel
    have hk0 : (0 : Int) ≤ (k : Int) := Int.natCast_nonneg _
    by_cases hlt1 : k < n
    · have hd1 : decide ((k : Int) < (n : Int)) = true := decide_eq_true (by omega)
      by_cases hlt2 : k < m
      · have hd2 : decide ((k : Int) < (m : Int)) = true := decide_eq_true (by omega)
        have hk1 : (k : Int) < (n : Int) := by omega
        have hk2 : (k : Int) < (m : Int) := by omega
        obtain ⟨x, hx⟩ : ∃ x, a[k]? = some x := ⟨_, List.getElem?_eq_getElem (by rw [HN.out]; exact hlt1)⟩
        obtain ⟨y, hy⟩ : ∃ x, b[k]? = some x := ⟨_, List.getElem?_eq_getElem (by rw [HM.out]; exact hlt2)⟩
        obtain ⟨g1, o1, rfl, _, c0, c1, c2⟩ := (H1.out wr hb).node hx
        obtain ⟨g2, o2, rfl, _, d0, d1, d2⟩ := (H2.out wr hb).node hy
        obtain ⟨⟨x1, x2⟩, x3⟩ := x
        obtain ⟨⟨y1, y2⟩, y3⟩ := y
        simp only at c0 c1 c2 d0 d1 d2
        have hq := pw_ne x1 x2 y1 y2 x3 y3
        obtain ⟨bq, hbq⟩ : ∃ bq, decide (((x1, x2), x3) = ((y1, y2), y3)) = bq := ⟨_, rfl⟩
        have HQ : Hid (((x1, x2), x3) = ((y1, y2), y3) ↔ bq = true) := Lib.hid (by rw [← hbq, decide_eq_true_iff])
        rw [hbq] at hq
        have HX := Lib.hid hx
        have HY := Lib.hid hy
        obtain ⟨X0, hX0⟩ : ∃ S, str x1 = S := ⟨_, rfl⟩
        obtain ⟨X1, hX1⟩ : ∃ S, str x2 = S := ⟨_, rfl⟩
        obtain ⟨Y0, hY0⟩ : ∃ S, str y1 = S := ⟨_, rfl⟩
        obtain ⟨Y1, hY1⟩ : ∃ S, str y2 = S := ⟨_, rfl⟩
        rw [hX0] at c0 hq
        rw [hX1] at c1 hq
        rw [hY0] at d0 hq
        rw [hY1] at d1 hq
        clear hx hy hbq hX0 hX1 hY0 hY1
        cases bq
        · have HD : Hid (decide (a = b) = false) := Lib.hid (decide_eq_false (fun e => by
            have h1 := HX.out
            rw [e, HY.out] at h1
            have := HQ.out.1 (Option.some.inj h1).symm; cases this))
          simp only [Bool.not_false] at hq
          go_wp2_with fail
          go_quiet (fail)
          go_wp2_with fail
          go_ret
          exact ⟨ret_bool HD.out.symm, ⟨hb.os, hb.tape, hb.output, hb.size, hb.block⟩⟩
        · have HE2 : Hid (a.take (k + 1) = b.take (k + 1)) := Lib.hid (by
            have h1 := HX.out
            rw [HQ.out.2 rfl] at h1
            exact take_moreH HE.out h1 HY.out)
          simp only [Bool.not_true] at hq
          go_wp2_with fail
          go_quiet (fail)
          go_wp2_with fail
          exact ⟨⟨k + 1, by go_num, by omega, by omega, HE2, ⟨hb.os, hb.tape, hb.output, hb.size, hb.block⟩⟩, by simp [intOf]; omega⟩
      · have hd2 : decide ((k : Int) < (m : Int)) = false := decide_eq_false (by omega)
        obtain rfl : k = m := by omega
        have hne : ((n : Int) == (k : Int)) = false := beq_eq_false_iff_ne.2 (by omega)
        have HD : Hid (decide (a = b) = false) := Lib.hid (decide_eq_false (fun e => by have h1 := HN.out; rw [e, HM.out] at h1; omega))
        go_wp2_with fail
        go_ret
        exact ⟨ret_bool HD.out.symm, hb⟩
    · obtain rfl : k = n := by omega
      have hd1 : decide ((k : Int) < (k : Int)) = false := decide_eq_false (by omega)
      have hnl : ¬ k < k := Nat.lt_irrefl _
      by_cases hkm : k = m
      · subst hkm
        have hne : ((k : Int) == (k : Int)) = true := beq_self_eq_true _
        have HD : Hid (decide (a = b) = true) := Lib.hid (decide_eq_true (by
          have h1 := HE.out
          rw [List.take_of_length_le (Nat.le_of_eq HN.out), List.take_of_length_le (Nat.le_of_eq HM.out)] at h1; exact h1))
        go_wp2_with fail
        go_ret
        exact ⟨ret_bool HD.out.symm, hb⟩
      · have hne : ((k : Int) == (m : Int)) = false := beq_eq_false_iff_ne.2 (by omega)
        have HD : Hid (decide (a = b) = false) := Lib.hid (decide_eq_false (fun e => by have h1 := HN.out; rw [e, HM.out] at h1; omega))
        go_wp2_with fail
        go_ret
        exact ⟨ret_bool HD.out.symm, hb⟩
/-- A symbol, a number, as nodes. -/
def symX (s : List UInt8) : Sx := ⟨3, 0, 0, s, [], 0, 0, 0⟩
def numX (n : Int) : Sx := ⟨1, 0, n, [], [], 0, 0, 0⟩
def lstX (n : Nat) : Sx := ⟨4, (n : Int), 0, [], [], 0, 0, 0⟩
theorem xs_one (w : World) (x : Sx) (t : TypeId) (cs : Array Value) (h : cs = (sxC x).toArray) : XsAt (w.alloc (.cells cs t)) (.slice (some ⟨w.heap.size, 0, none⟩) 1 1) [x] := by
  subst h
  refine ⟨_, 1, 1, rfl, rfl, Nat.le_refl _, .inr ⟨w.heap.size, 0, rfl, by rw [World.size_alloc]; exact Nat.lt_succ_self _, fun j u hj => ?_⟩⟩
  rw [xcs_one] at hj
  rw [Nat.zero_add]
  exact (World.cell?_alloc_at _ _ _ _ rfl).trans (by simpa using hj)
theorem str_nil : str [] = ByteArray.empty := rfl
theorem Sym_any (S : ByteArray) (s : List UInt8) (hS : str s = S) (w : World) :
    Calls Tryz.prog 14 #[.string S] w fun e w' => ∃ r, e = .returned r ∧ XsAt w' r [symX s] ∧ Below w.heap.size w w' := by
  have HX : Hid (∀ cs, cs = #[.int .i64 3, .int .i64 0, .int .i64 0, .string S, .string ByteArray.empty, .int .i64 0, .int .i64 0, .int .i64 0] → XsAt (w.alloc (.cells cs 38)) (.slice (some ⟨w.heap.size, 0, none⟩) 1 1) [symX s]) := Lib.hid fun cs h => xs_one w (symX s) _ cs (by rw [h, ← hS]; rfl)
  clear hS
  go_enter Tryz.func14, Tryz.ntmps14
  go_wp2_with fail
  go_ret
  exact ⟨_, rfl, HX.out _ rfl, below_b1 _ _⟩
theorem Num_any (n : Int) (w : World) :
    Calls Tryz.prog 18 #[.int .i64 n] w fun e w' => ∃ r, e = .returned r ∧ XsAt w' r [numX n] ∧ Below w.heap.size w w' := by
  have HX : Hid (∀ cs, cs = #[.int .i64 1, .int .i64 0, .int .i64 n, .string ByteArray.empty, .string ByteArray.empty, .int .i64 0, .int .i64 0, .int .i64 0] → XsAt (w.alloc (.cells cs 38)) (.slice (some ⟨w.heap.size, 0, none⟩) 1 1) [numX n]) := Lib.hid fun cs h => xs_one w (numX n) _ cs (by rw [h]; rfl)
  go_enter Tryz.func18, Tryz.ntmps18
  go_wp2_with fail
  go_ret
  exact ⟨_, rfl, HX.out _ rfl, below_b1 _ _⟩
-- MARK9
end Go.Proofs.YtdiinlmeoifgjaaGreatDoor
