/- Small functions of scopes: isScope, checkWith, checkTwo, limited, appendIf, setOf. -/
import Derived.Test.YtchnmbfeaaialaaGreatDoorSh
namespace Go.Proofs.YtchnmbfeaaialaaGreatDoor
open Go.RowKit Go.PlainAid

theorem isScope_any (n : Int) (w : World) : Calls Tryz.prog 21 #[.int .i64 n] w fun e w' => e = .returned (.bool (decide (0 ≤ n ∧ n ≤ 65535))) ∧ w' = w := by
  by_cases h : 0 ≤ n
  · have hd : decide (0 ≤ n) = true := decide_eq_true h
    have e : decide (0 ≤ n ∧ n ≤ 65535) = decide (n ≤ 65535) := by simp [h]
    rw [e]
    go_enter Tryz.func21, Tryz.ntmps21
    go_wp2_with fail
    go_ret
    exact ⟨rfl, rfl⟩
  · have hd : decide (0 ≤ n) = false := decide_eq_false h
    have e : decide (0 ≤ n ∧ n ≤ 65535) = false := by simp [h]
    rw [e]
    go_enter Tryz.func21, Tryz.ntmps21
    go_wp2_with fail
    go_ret
    exact ⟨rfl, rfl⟩
theorem checkWith_any (L : List UInt8) (n : Int) (w : World) (hL : L.length ≤ 1000000) : Calls Tryz.prog 51 #[.string (str L), .int .i64 n] w fun e w' => e = .returned (.int .i64 (oneE L n)) ∧ Below w.heap.size w w' := by
  have C := Lib.hid (check_any L w hL)
  have C2 := Lib.hid (isScope_any n)
  obtain ⟨e0, he⟩ : ∃ e, chkE L = e := ⟨_, rfl⟩
  obtain ⟨b, hb⟩ : ∃ b, decide (0 ≤ n ∧ n ≤ 65535) = b := ⟨_, rfl⟩
  have HV : Hid (oneE L n = if e0 ≠ 0 then e0 else if b then 0 else 7) := Lib.hid (by
    unfold oneE; rw [he]
    split
    · rfl
    · by_cases h : n < 0 ∨ 65535 < n
      · have : b = false := by rw [← hb]; exact decide_eq_false (by omega)
        rw [if_pos h, this]; rfl
      · have : b = true := by rw [← hb]; exact decide_eq_true (by omega)
        rw [if_neg h, this]; rfl)
  rw [he] at C
  rw [hb] at C2
  obtain ⟨S, hS⟩ : ∃ S, str L = S := ⟨_, rfl⟩
  rw [hS] at C
  rw [hS]
  clear he hb hS hL
  by_cases h0 : e0 = 0
  · subst h0
    cases b with
    | true =>
      go_enter Tryz.func51, Tryz.ntmps51
      go_wp2_with fail
      refine C.out.mono ?_
      rintro e w1 ⟨rfl, hb1⟩
      go_wp2_with fail
      refine (C2.out w1).mono ?_
      rintro e w2 ⟨rfl, rfl⟩
      go_wp2_with fail
      go_ret
      exact ⟨by rw [HV.out]; rfl, hb1⟩
    | false =>
      go_enter Tryz.func51, Tryz.ntmps51
      go_wp2_with fail
      refine C.out.mono ?_
      rintro e w1 ⟨rfl, hb1⟩
      go_wp2_with fail
      refine (C2.out w1).mono ?_
      rintro e w2 ⟨rfl, rfl⟩
      go_wp2_with fail
      go_ret
      exact ⟨by rw [HV.out]; rfl, hb1⟩
  · have hne : (e0 != 0) = true := bne_iff_ne.2 h0
    have HW : Hid (oneE L n = e0) := Lib.hid (by rw [HV.out, if_pos h0])
    clear HV h0
    go_enter Tryz.func51, Tryz.ntmps51
    go_wp2_with fail
    refine C.out.mono ?_
    rintro e w1 ⟨rfl, hb1⟩
    go_wp2_with fail
    go_ret
    exact ⟨by rw [HW.out]; rfl, hb1⟩
theorem checkTwo_any (L M : List UInt8) (w : World) (hL : L.length ≤ 1000000) (hM : M.length ≤ 1000000) : Calls Tryz.prog 28 #[.string (str L), .string (str M)] w fun e w' => e = .returned (.int .i64 (twoE L M)) ∧ Below w.heap.size w w' := by
  have C := Lib.hid (check_any L w hL)
  have C2 := Lib.hid (fun W => check_any M W hM)
  obtain ⟨e0, he⟩ : ∃ e, chkE L = e := ⟨_, rfl⟩
  obtain ⟨e1, he1⟩ : ∃ e, chkE M = e := ⟨_, rfl⟩
  have HV : Hid (twoE L M = if e0 ≠ 0 then e0 else e1) := Lib.hid (by unfold twoE; rw [he, he1])
  rw [he] at C
  rw [he1] at C2
  obtain ⟨S, hS⟩ : ∃ S, str L = S := ⟨_, rfl⟩
  obtain ⟨T, hT⟩ : ∃ T, str M = T := ⟨_, rfl⟩
  rw [hS] at C
  rw [hT] at C2
  rw [hS, hT]
  clear he he1 hS hT hL hM
  by_cases h0 : e0 = 0
  · subst h0
    go_enter Tryz.func28, Tryz.ntmps28
    go_wp2_with fail
    refine C.out.mono ?_
    rintro e w1 ⟨rfl, hb1⟩
    go_wp2_with fail
    refine (C2.out w1).mono ?_
    rintro e w2 ⟨rfl, hb2⟩
    go_wp2_with fail
    go_ret
    exact ⟨by rw [HV.out]; rfl, hb1.trans (hb2.mono hb1.size)⟩
  · have hne : (e0 != 0) = true := bne_iff_ne.2 h0
    have HW : Hid (twoE L M = e0) := Lib.hid (by rw [HV.out, if_pos h0])
    clear HV h0
    go_enter Tryz.func28, Tryz.ntmps28
    go_wp2_with fail
    refine C.out.mono ?_
    rintro e w1 ⟨rfl, hb1⟩
    go_wp2_with fail
    go_ret
    exact ⟨by rw [HW.out]; rfl, hb1⟩
set_option maxRecDepth 50000 in
theorem limited_any (l : List Nat) (w : World) (hl : l.length ≤ 1000000) : Calls Tryz.prog 52 #[.string (str (setL l))] w fun e w' => e = .returned (.tuple #[.string (str (outS l).1), .int .i64 (outS l).2]) ∧ w' = w := by
  obtain ⟨m, hm⟩ : ∃ m, l.length = m := ⟨_, rfl⟩
  obtain ⟨S, hS⟩ : ∃ S, str (setL l) = S := ⟨_, rfl⟩
  have e0 : (S.size : Int) = 2 * (m : Int) := by rw [← hS, str_size, setL_len, hm]; omega
  have C := Lib.hid (tooMany_any (m : Int) w)
  have HV : Hid (outS l = if 10000 < m then ([], 3) else (setL l, 0)) := Lib.hid (by unfold outS; rw [hm])
  have e2 : wrap64 (m : Int) = (m : Int) := by unfold wrap64; omega
  have HS := Lib.hid hS
  rw [hS]
  clear hm hS
  by_cases h : 10000 < m
  · have hd : decide ((10000 : Int) < (m : Int)) = true := decide_eq_true (by omega)
    rw [hd] at C
    have HW : Hid (outS l = ([], 3)) := Lib.hid (by rw [HV.out, if_pos h])
    clear HV h hd
    go_enter Tryz.func52, Tryz.ntmps52
    go_wp2_with fail
    refine C.out.mono ?_
    rintro e w1 ⟨rfl, rfl⟩
    go_wp2_with fail
    go_ret2
    exact ⟨by rw [HW.out]; rfl, rfl⟩
  · have hd : decide ((10000 : Int) < (m : Int)) = false := decide_eq_false (by omega)
    rw [hd] at C
    have HW : Hid (outS l = (setL l, 0)) := Lib.hid (by rw [HV.out, if_neg h])
    clear HV h hd
    go_enter Tryz.func52, Tryz.ntmps52
    go_wp2_with fail
    refine C.out.mono ?_
    rintro e w1 ⟨rfl, rfl⟩
    go_wp2_with fail
    go_ret2
    exact ⟨by rw [HW.out, HS.out]; rfl, rfl⟩
/-- What is appended. -/
def apS : Bool → List UInt8 → List UInt8
  | true, s => s
  | false, _ => []
set_option maxRecDepth 50000 in
/-- appendIf: a row of the call's own. -/
theorem appendIf_any (c : Bool) (B : Nat) (v : Value) (X s : List UInt8) (w : World) (h : w.ownsRow B 5 1 v X.length (X.map bc)) (hl : X.length + s.length ≤ 1000000000) (hB : B ≤ w.heap.size) :
    Calls Tryz.prog 75 #[.bool c, v, .string (str s)] w fun e w' => ∃ v', e = .returned v' ∧ w'.ownsRow B 5 1 v' (X ++ apS c s).length ((X ++ apS c s).map bc) ∧ w.grownBy w' v.ownBlock := by
  obtain ⟨a, cp, rfl⟩ := own_len h
  obtain ⟨n, hn⟩ : ∃ n, X.length = n := ⟨_, rfl⟩
  have HO := Lib.hid h
  rw [hn] at HO hl
  have HN := Lib.hid hn
  rw [hn]
  clear h hn
  cases c with
  | false =>
    go_enter Tryz.func75, Tryz.ntmps75
    go_wp2_with fail
    go_ret
    exact ⟨.slice a n cp, rfl, by rw [apS, List.append_nil, HN.out]; exact HO.out, ⟨rfl, rfl, rfl, Nat.le_refl _, fun _ _ _ => rfl⟩⟩
  | true =>
    obtain ⟨i0, hi, hz0, hz1, hz2⟩ := info_parts2 infoU8
    go_enter Tryz.func75, Tryz.ntmps75
    go_wp2_with (at_builtin; refine Lib.wpList_append_own_string _ rfl _ _ 65 9 rfl B 5 i0 Tryz.underlying65 Tryz.underlying9 hi hz0 hz1 hz2 _ _ _ rfl HO.out _ rfl (by unfold maxLen; rw [str_size]; omega) (by rw [str_size]; omega) hB ?_; intro v6 w6 hown6 hgrow6 _; rw [str_size] at hown6; obtain ⟨b6, cb6, rfl⟩ := own_len hown6)
    go_ret
    refine ⟨.slice b6 (n + s.length) cb6, rfl, ?_, hgrow6⟩
    rw [apS, List.length_append, HN.out, List.map_append]
    exact hown6
end Go.Proofs.YtchnmbfeaaialaaGreatDoor
