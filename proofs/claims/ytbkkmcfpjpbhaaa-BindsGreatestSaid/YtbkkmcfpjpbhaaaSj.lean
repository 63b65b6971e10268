/- Small functions of scopes: isScope, checkWith, checkTwo, limited, appendIf, setOf. -/
import Derived.Test.YtbkkmcfpjpbhaaaSh
namespace Go.Proofs.Ytbkkmcfpjpbhaaa
open Go.RowKit Go.PlainAid

theorem checkTwo_any (L M : List UInt8) (w : World) (hL : L.length ≤ 1000000) (hM : M.length ≤ 1000000) : Calls Try.prog 59 #[.string (str L), .string (str M)] w fun e w' => e = .returned (.int .i64 (twoE L M)) ∧ Below w.heap.size w w' := by
  have C := Lib.hid (check_any L w hL)
  have C2 := Lib.hid (fun W => check_any M W hM)
  obtain ⟨e0, he⟩ : ∃ e, chkE L = e := ⟨_, rfl⟩
  obtain ⟨e1, he1⟩ : ∃ e, chkE M = e := ⟨_, rfl⟩
  have HV : Hid (twoE L M = if e0 ≠ 0 then e0 else e1) := Lib.hid (by unfold twoE; rw [he, he1])
  rw [he] at C
  rw [he1] at C2
  obtain ⟨S, hS⟩ : ∃ S, str L = S := ⟨_, rfl⟩
  obtain ⟨T, hT⟩ : ∃ T, str M = T := ⟨_, rfl⟩
  rw [hS] at C
  rw [hT] at C2
  rw [hS, hT]
  clear he he1 hS hT hL hM
  by_cases h0 : e0 = 0
  · subst h0
    go_enter Try.func59, Try.ntmps59
    go_wp2_with fail
    refine C.out.mono ?_
    rintro e w1 ⟨rfl, hb1⟩
    go_wp2_with fail
    refine (C2.out w1).mono ?_
    rintro e w2 ⟨rfl, hb2⟩
    go_wp2_with fail
    go_ret
    exact ⟨by rw [HV.out]; rfl, hb1.trans (hb2.mono hb1.size)⟩
  · have hne : (e0 != 0) = true := bne_iff_ne.2 h0
    have HW : Hid (twoE L M = e0) := Lib.hid (by rw [HV.out, if_pos h0])
    clear HV h0
    go_enter Try.func59, Try.ntmps59
    go_wp2_with fail
    refine C.out.mono ?_
    rintro e w1 ⟨rfl, hb1⟩
    go_wp2_with fail
    go_ret
    exact ⟨by rw [HW.out]; rfl, hb1⟩
/-- What is appended. -/
def apS : Bool → List UInt8 → List UInt8
  | true, s => s
  | false, _ => []
set_option maxRecDepth 50000 in
/-- appendIf: a row of the call's own. -/
theorem appendIf_any (c : Bool) (B : Nat) (v : Value) (X s : List UInt8) (w : World) (h : w.ownsRow B 5 1 v X.length (X.map bc)) (hl : X.length + s.length ≤ 1000000000) (hB : B ≤ w.heap.size) :
    Calls Try.prog 62 #[.bool c, v, .string (str s)] w fun e w' => ∃ v', e = .returned v' ∧ w'.ownsRow B 5 1 v' (X ++ apS c s).length ((X ++ apS c s).map bc) ∧ w.grownBy w' v.ownBlock := by
  obtain ⟨a, cp, rfl⟩ := own_len h
  obtain ⟨n, hn⟩ : ∃ n, X.length = n := ⟨_, rfl⟩
  have HO := Lib.hid h
  rw [hn] at HO hl
  have HN := Lib.hid hn
  rw [hn]
  clear h hn
  cases c with
  | false =>
    go_enter Try.func62, Try.ntmps62
    go_wp2_with fail
    go_ret
    exact ⟨.slice a n cp, rfl, by rw [apS, List.append_nil, HN.out]; exact HO.out, ⟨rfl, rfl, rfl, Nat.le_refl _, fun _ _ _ => rfl⟩⟩
  | true =>
    obtain ⟨i0, hi, hz0, hz1, hz2⟩ := info_parts2 infoU8
    go_enter Try.func62, Try.ntmps62
    go_wp2_with (at_builtin; refine Lib.wpList_append_own_string _ rfl _ _ 81 9 rfl B 5 i0 Try.underlying81 Try.underlying9 hi hz0 hz1 hz2 _ _ _ rfl HO.out _ rfl (by unfold maxLen; rw [str_size]; omega) (by rw [str_size]; omega) hB ?_; intro v6 w6 hown6 hgrow6 _; rw [str_size] at hown6; obtain ⟨b6, cb6, rfl⟩ := own_len hown6)
    go_ret
    refine ⟨.slice b6 (n + s.length) cb6, rfl, ?_, hgrow6⟩
    rw [apS, List.length_append, HN.out, List.map_append]
    exact hown6
end Go.Proofs.Ytbkkmcfpjpbhaaa
