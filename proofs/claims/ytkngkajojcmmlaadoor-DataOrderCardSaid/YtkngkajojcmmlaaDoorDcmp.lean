/- cmp.Compare of numbers, cmp.Or. -/
import Derived.Test.YtkngkajojcmmlaaDoorDsub2
namespace Go.Proofs.YtkngkajojcmmlaaDoor
open Go.RowKit Go.PlainAid

/-- -1, 0 or 1. -/
def sgn (x y : Int) : Int := if x < y then -1 else if y < x then 1 else 0
set_option maxRecDepth 50000 in
theorem nan_int (x : Int) (w : World) : Calls Tryd.prog 113 #[.int .i64 x] w fun e w' => e = .returned (.bool false) ∧ w = w' := by
  have h : (x != x) = false := by simp
  go_enter Tryd.func113, Tryd.ntmps113
  go_wp2_with fail
  go_ret
  exact ⟨rfl, rfl⟩
set_option maxRecDepth 50000 in
theorem nan_i64 (x : Int) (w : World) : Calls Tryd.prog 114 #[.int .i64 x] w fun e w' => e = .returned (.bool false) ∧ w = w' := by
  have h : (x != x) = false := by simp
  go_enter Tryd.func114, Tryd.ntmps114
  go_wp2_with fail
  go_ret
  exact ⟨rfl, rfl⟩
set_option maxRecDepth 50000 in
theorem cmp_int (x y : Int) (w : World) : Calls Tryd.prog 91 #[.int .i64 x, .int .i64 y] w fun e w' => e = .returned (.int .i64 (sgn x y)) ∧ w = w' := by
  have C := Lib.hid (nan_int)
  by_cases h1 : x < y
  · have HV : Hid (sgn x y = -1) := Lib.hid (by unfold sgn; rw [if_pos h1])
    have d1 : decide (x < y) = true := decide_eq_true h1
    go_enter Tryd.func91, Tryd.ntmps91
    go_wp2_with (go_at_call 113; refine (C.out _ _).mono ?_; rintro e w' ⟨rfl, rfl⟩)
    go_ret
    exact ⟨by rw [HV.out]; rfl, rfl⟩
  · have d1 : decide (x < y) = false := decide_eq_false h1
    by_cases h2 : y < x
    · have HV : Hid (sgn x y = 1) := Lib.hid (by unfold sgn; rw [if_neg h1, if_pos h2])
      have d2 : decide (y < x) = true := decide_eq_true h2
      go_enter Tryd.func91, Tryd.ntmps91
      go_wp2_with (go_at_call 113; refine (C.out _ _).mono ?_; rintro e w' ⟨rfl, rfl⟩)
      go_ret
      exact ⟨by rw [HV.out]; rfl, rfl⟩
    · have HV : Hid (sgn x y = 0) := Lib.hid (by unfold sgn; rw [if_neg h1, if_neg h2])
      have d2 : decide (y < x) = false := decide_eq_false h2
      go_enter Tryd.func91, Tryd.ntmps91
      go_wp2_with (go_at_call 113; refine (C.out _ _).mono ?_; rintro e w' ⟨rfl, rfl⟩)
      go_ret
      exact ⟨by rw [HV.out]; rfl, rfl⟩
set_option maxRecDepth 50000 in
theorem cmp_i64 (x y : Int) (w : World) : Calls Tryd.prog 92 #[.int .i64 x, .int .i64 y] w fun e w' => e = .returned (.int .i64 (sgn x y)) ∧ w = w' := by
  have C := Lib.hid (nan_i64)
  by_cases h1 : x < y
  · have HV : Hid (sgn x y = -1) := Lib.hid (by unfold sgn; rw [if_pos h1])
    have d1 : decide (x < y) = true := decide_eq_true h1
    go_enter Tryd.func92, Tryd.ntmps92
    go_wp2_with (go_at_call 114; refine (C.out _ _).mono ?_; rintro e w' ⟨rfl, rfl⟩)
    go_ret
    exact ⟨by rw [HV.out]; rfl, rfl⟩
  · have d1 : decide (x < y) = false := decide_eq_false h1
    by_cases h2 : y < x
    · have HV : Hid (sgn x y = 1) := Lib.hid (by unfold sgn; rw [if_neg h1, if_pos h2])
      have d2 : decide (y < x) = true := decide_eq_true h2
      go_enter Tryd.func92, Tryd.ntmps92
      go_wp2_with (go_at_call 114; refine (C.out _ _).mono ?_; rintro e w' ⟨rfl, rfl⟩)
      go_ret
      exact ⟨by rw [HV.out]; rfl, rfl⟩
    · have HV : Hid (sgn x y = 0) := Lib.hid (by unfold sgn; rw [if_neg h1, if_neg h2])
      have d2 : decide (y < x) = false := decide_eq_false h2
      go_enter Tryd.func92, Tryd.ntmps92
      go_wp2_with (go_at_call 114; refine (C.out _ _).mono ?_; rintro e w' ⟨rfl, rfl⟩)
      go_ret
      exact ⟨by rw [HV.out]; rfl, rfl⟩
/-- The first that is not 0. -/
def orS : List Int → Int
  | [] => 0
  | x :: r => if x ≠ 0 then x else orS r
theorem or_step {l : List Int} {k : Nat} {x : Int} (h : l[k]? = some x) : orS (l.drop k) = if x ≠ 0 then x else orS (l.drop (k + 1)) := by
  obtain ⟨hk, rfl⟩ := List.getElem?_eq_some_iff.1 h
  rw [List.drop_eq_getElem_cons hk, orS]
set_option maxRecDepth 50000 in
set_option maxHeartbeats 1600000 in
theorem or_any (v : Value) (l : List Int) (w : World) (h : IntRow w v l) (hl : l.length ≤ 1000000) : Calls Tryd.prog 90 #[v] w fun e w' => e = .returned (.int .i64 (orS l)) ∧ w = w' := by
  obtain ⟨a, c, rfl, hA⟩ := h
  have HA := Lib.hid hA
  obtain ⟨n, hn⟩ : ∃ n, l.length = n := ⟨_, rfl⟩
  have HN := Lib.hid hn
  rw [hn] at hl
  rw [hn]
  clear hA hn
  go_enter Tryd.func90, Tryd.ntmps90
  go_wp2_with fail
  -- MARK1
  go_loop [8] (fun x => ∃ k : Nat, x = .int .i64 (k : Int) ∧ k ≤ n ∧ Hid (orS (l.drop k) = orS l)) (fun x => n - (intOf x).toNat)
  case atStart => exact ⟨0, rfl, Nat.zero_le _, Lib.hid (by rw [List.drop_zero])⟩
  case round =>
    obtain ⟨k, rfl, hk, HE⟩ := hrel
    have hk0 : (0 : Int) ≤ (k : Int) := Int.natCast_nonneg _
    by_cases hlt : k < n
    · obtain ⟨x, hx⟩ : ∃ x, l[k]? = some x := ⟨_, List.getElem?_eq_getElem (by rw [HN.out]; exact hlt)⟩
      have hk1 : (k : Int) < (n : Int) := by omega
      rcases HA.out with hnil | ⟨g, off, rfl, hg, hc⟩
      · rw [hnil] at hx; cases hx
      have d0 := hc k x hx
      have hst := or_step hx
      rw [HE.out] at hst
      have HSt := Lib.hid hst
      clear hx hst hc
      by_cases h0 : x = 0
      · subst h0
        have HE2 : Hid (orS (l.drop (k + 1)) = orS l) := Lib.hid (by rw [HSt.out, if_neg (by simp)])
        go_wp2_with fail
        go_round
        case rel => exact ⟨k + 1, by go_num, by omega, HE2⟩
        case measure => simp [intOf]; omega
      · have hb : (x != 0) = true := bne_iff_ne.2 h0
        have HF : Hid (orS l = x) := Lib.hid (by rw [HSt.out, if_pos h0])
        clear h0
        go_wp2_with fail
        go_ret
        exact ⟨by rw [HF.out]; rfl, rfl⟩
    · obtain rfl : k = n := by omega
      have HF : Hid (orS l = 0) := Lib.hid (by rw [← HE.out, List.drop_of_length_le (Nat.le_of_eq HN.out)]; rfl)
      go_wp2_with fail
      go_ret
      exact ⟨by rw [HF.out]; rfl, rfl⟩
end Go.Proofs.YtkngkajojcmmlaaDoor
