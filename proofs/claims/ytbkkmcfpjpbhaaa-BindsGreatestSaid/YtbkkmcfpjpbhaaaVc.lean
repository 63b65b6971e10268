/- binds.checkBind, Check. (Written by tools/gen_vc.py.) -/
import Derived.Test.YtbkkmcfpjpbhaaaVk
import Derived.BigGuardPart
import Derived.Deep.DeepCutAuto
import Derived.Deep.RegionHeld3
import Derived.Handy
namespace Go.Proofs.Ytbkkmcfpjpbhaaa
open Go.RowKit Go.PlainAid

theorem below_b1 (w : World) (o : Obj) : Below w.heap.size w (w.alloc o) := Below.alloc (Below.refl _ _) (Nat.le_refl _) o
theorem emp_bd (n : List UInt8) : (str n).toList.isEmpty = decide (n = []) := by
  rw [empty_eq, str_size, Bool.eq_iff_iff, decide_eq_true_iff, decide_eq_true_iff, List.length_eq_zero_iff]
set_option maxRecDepth 100000 in
theorem checkBind_any (x : Bd) (w : World) (hs : x.s.length ≤ 100000) :
    Calls Try.prog 31 #[bdA x] w fun e w' => e = .returned (.int .i64 (oneB x)) ∧ Below w.heap.size w w' := by
  obtain ⟨n, s, p, r⟩ := x
  obtain ⟨W0, hW0⟩ : ∃ W0, W0 = w.alloc (.cells #[.string (str n), .string (str s), .int .i64 p, .int .i64 r] 24) := ⟨_, rfl⟩
  have hb0 : Below w.heap.size w W0 := by rw [hW0]; exact below_b1 _ _
  have hx0 : W0.heap[w.heap.size]? = some (.cells #[.string (str n), .string (str s), .int .i64 p, .int .i64 r] 24 (0, 0)) := by rw [hW0]; exact World.alloc_heap_new _ _
  have HB : Hid (∀ W, Below W0.heap.size W0 W → Below w.heap.size w W ∧ W.heap[w.heap.size]? = some (.cells #[.string (str n), .string (str s), .int .i64 p, .int .i64 r] 24 (0, 0))) := Lib.hid fun W hb =>
    ⟨hb0.trans (hb.mono hb0.size), (hb.block w.heap.size (Array.getElem?_eq_some_iff.1 hx0).1).trans hx0⟩
  have CC := Lib.hid (fun W => check_any s W (by simp only at hs; omega))
  have HE : Hid (∀ v, oneB ⟨n, s, p, r⟩ = v → oneB ⟨n, s, p, r⟩ = v) := Lib.hid fun v h => h
  show Calls _ _ #[.agg #[.string (str n), .string (str s), .int .i64 p, .int .i64 r]] _ _
  have hbe := emp_bd n
  have hln := str_size n
  obtain ⟨N, hN⟩ : ∃ N, str n = N := ⟨_, rfl⟩
  obtain ⟨P, hP⟩ : ∃ P, str s = P := ⟨_, rfl⟩
  rw [hN] at HB hW0 hbe hln ⊢
  rw [hP] at CC HB hW0 ⊢
  clear hx0 hb0 hs hN hP
  by_cases h1 : n = []
  · have HW := Lib.hid (HE.out 6 (by unfold oneB; rw [if_pos h1]))
    rw [decide_eq_true h1] at hbe
    clear h1 hln HE
    go_enter Try.func31, Try.ntmps31
    go_wp2_with fail
    rw [← hW0]
    go_ret
    exact ⟨ret_int HW.out.symm, (HB.out W0 (Below.refl _ _)).1⟩
  rw [decide_eq_false h1] at hbe
  by_cases h2 : 24 < n.length
  · have HW := Lib.hid (HE.out 3 (by unfold oneB; rw [if_neg h1, if_pos h2]))
    have a0 : decide ((24 : Int) < (N.size : Int)) = true := decide_eq_true (by omega)
    clear h1 hln h2 HE
    go_enter Try.func31, Try.ntmps31
    go_wp2_with fail
    rw [← hW0]
    go_ret
    exact ⟨ret_int HW.out.symm, (HB.out W0 (Below.refl _ _)).1⟩
  have a0 : decide ((24 : Int) < (N.size : Int)) = false := decide_eq_false (by omega)
  by_cases h3 : chkE s = 0
  · rw [h3] at CC
    by_cases h4 : p < 1
    · have HW := Lib.hid (HE.out 7 (by unfold oneB; rw [if_neg h1, if_neg h2, if_neg (by simpa using h3)]; simp only; rw [if_pos (.inl h4)]))
      have a1 : decide (p < 1) = true := decide_eq_true h4
      clear h1 hln h2 h3 h4 HE
      go_enter Try.func31, Try.ntmps31
      go_wp2_with fail
      refine (CC.out _).mono ?_
      rw [← hW0]
      rintro e w1 ⟨rfl, hb1⟩
      obtain ⟨hbw, hxw⟩ := HB.out w1 hb1
      obtain ⟨q0, q1, q2, q3⟩ := box4_facts hxw
      go_wp2_with fail
      go_ret
      exact ⟨ret_int HW.out.symm, hbw⟩
    have a1 : decide (p < 1) = false := decide_eq_false h4
    by_cases h5 : 4 < p
    · have HW := Lib.hid (HE.out 7 (by unfold oneB; rw [if_neg h1, if_neg h2, if_neg (by simpa using h3)]; simp only; rw [if_pos (.inr (.inl h5))]))
      have a2 : decide (4 < p) = true := decide_eq_true h5
      clear h1 hln h2 h3 h4 h5 HE
      go_enter Try.func31, Try.ntmps31
      go_wp2_with fail
      refine (CC.out _).mono ?_
      rw [← hW0]
      rintro e w1 ⟨rfl, hb1⟩
      obtain ⟨hbw, hxw⟩ := HB.out w1 hb1
      obtain ⟨q0, q1, q2, q3⟩ := box4_facts hxw
      go_wp2_with fail
      go_ret
      exact ⟨ret_int HW.out.symm, hbw⟩
    have a2 : decide (4 < p) = false := decide_eq_false h5
    by_cases h6 : r < 0
    · have HW := Lib.hid (HE.out 7 (by unfold oneB; rw [if_neg h1, if_neg h2, if_neg (by simpa using h3)]; simp only; rw [if_pos (.inr (.inr h6))]))
      have a3 : decide (r < 0) = true := decide_eq_true h6
      clear h1 hln h2 h3 h4 h5 h6 HE
      go_enter Try.func31, Try.ntmps31
      go_wp2_with fail
      refine (CC.out _).mono ?_
      rw [← hW0]
      rintro e w1 ⟨rfl, hb1⟩
      obtain ⟨hbw, hxw⟩ := HB.out w1 hb1
      obtain ⟨q0, q1, q2, q3⟩ := box4_facts hxw
      go_wp2_with fail
      go_ret
      exact ⟨ret_int HW.out.symm, hbw⟩
    have a3 : decide (r < 0) = false := decide_eq_false h6
    have HW := Lib.hid (HE.out 0 (by unfold oneB; rw [if_neg h1, if_neg h2, if_neg (by simpa using h3)]; simp only; rw [if_neg (by omega)]))
    clear h1 hln h2 h3 h4 h5 h6 HE
    go_enter Try.func31, Try.ntmps31
    go_wp2_with fail
    refine (CC.out _).mono ?_
    rw [← hW0]
    rintro e w1 ⟨rfl, hb1⟩
    obtain ⟨hbw, hxw⟩ := HB.out w1 hb1
    obtain ⟨q0, q1, q2, q3⟩ := box4_facts hxw
    go_wp2_with fail
    go_ret
    exact ⟨ret_int HW.out.symm, hbw⟩
  · have HW := Lib.hid (HE.out (chkE s) (by unfold oneB; rw [if_neg h1, if_neg h2, if_pos h3]))
    obtain ⟨ce, hce⟩ : ∃ ce, chkE s = ce := ⟨_, rfl⟩
    rw [hce] at h3 CC HW
    have a1 : (ce != 0) = true := bne_iff_ne.2 h3
    clear h1 hln h2 h3 HE hce
    go_enter Try.func31, Try.ntmps31
    go_wp2_with fail
    refine (CC.out _).mono ?_
    rw [← hW0]
    rintro e w1 ⟨rfl, hb1⟩
    obtain ⟨hbw, hxw⟩ := HB.out w1 hb1
    obtain ⟨q0, q1, q2, q3⟩ := box4_facts hxw
    go_wp2_with fail
    go_ret
    exact ⟨ret_int HW.out.symm, hbw⟩
-- MARK8
end Go.Proofs.Ytbkkmcfpjpbhaaa
