/- The law WordsBoth at any two slices of fields. -/
import Derived.Test.YtbggmmbbjojjcaaDoorFarg
import Derived.Test.YtbggmmbbjojjcaaDoorLawB
namespace Go.Proofs.YtbggmmbbjojjcaaDoor
open Go.RowKit Go.PlainAid

theorem far_arg {v : Value} {l : List Fld} {w : World} (h : FldsArg w v l) : Calls Tryd.prog 23 #[v] w (FarV l w) := by
  rcases h with ⟨a, c, rfl, rfl⟩ | h
  · exact far_none a c w
  · exact far_any v l w h
theorem FldsArg.below {w w' : World} {v : Value} {l : List Fld} (h : FldsArg w v l) (hb : Below w.heap.size w w') : FldsArg w' v l := by
  rcases h with h | h
  · exact .inl h
  · exact .inr (h.below hb (Nat.le_refl _))
theorem FldsArg.slice {w : World} {v : Value} {l : List Fld} (h : FldsArg w v l) : ∃ a c, v = .slice a l.length c := by
  rcases h with ⟨a, c, rfl, rfl⟩ | h
  · exact ⟨a, c, rfl⟩
  · exact FldsAt.slice h

set_option maxRecDepth 100000 in
set_option maxHeartbeats 3200000 in
theorem both_short (a1 a2 : Option Addr) (c1 c2 : Nat) (l m : List Fld) (w : World) (T : Ties w) (hl : FldsArg w (.slice a1 l.length c1) l) (hm : FldsArg w (.slice a2 m.length c2) m) (h0 : l.length = 0 ∨ m.length = 0) :
    Calls Tryd.prog 8 #[.slice a1 l.length c1, .slice a2 m.length c2] w fun e w' => e = .returned (.bool true) ∧ Below w.heap.size w w' := by
  have CS : Hid (∀ w', Below w.heap.size w w' → Calls Tryd.prog 9 #[] w' fun e w'' => e = .returned (.bool true) ∧ Below w'.heap.size w' w'') := Lib.hid fun w' hb => shown_any w' (T w' hb) (T.below hb)
  have C0 := Lib.hid (far_arg hl)
  have C1 : Hid (∀ w', Below w.heap.size w w' → Calls Tryd.prog 23 #[.slice a2 m.length c2] w' (FarV m w')) := Lib.hid fun w' hb => far_arg (hm.below hb)
  have hor : ((((l.length : Nat) : Int) == 0) = true) ∨ ((((l.length : Nat) : Int) == 0) = false ∧ (((m.length : Nat) : Int) == 0) = true) := by
    by_cases h : l.length = 0
    · exact .inl (by rw [beq_iff_eq]; omega)
    · exact .inr ⟨by rw [beq_eq_false_iff_ne]; omega, by rw [beq_iff_eq]; omega⟩
  clear T hl hm h0
  rcases hor with h1 | ⟨h1, h2⟩ <;> (
    go_enter Tryd.func8, Tryd.ntmps8
    go_wp2_with fail
    refine C0.out.mono ?_
    rintro e w1 ⟨b, rfl, hb70, hb1⟩
    clear hb70
    cases b with
    | true =>
      go_wp2_with (go_at_call 9; refine (CS.out _ hb1).mono ?_; rintro e w9 ⟨rfl, hb9⟩)
      go_ret
      exact ⟨rfl, hb1.trans (hb9.mono hb1.size)⟩
    | false =>
      go_wp2_with fail
      refine (C1.out _ hb1).mono ?_
      rintro e w2 ⟨b, rfl, hb70, hb2⟩
      clear hb70
      have hB2 := hb1.trans (hb2.mono hb1.size)
      cases b with
      | true =>
        go_wp2_with (go_at_call 9; refine (CS.out _ hB2).mono ?_; rintro e w9 ⟨rfl, hb9⟩)
        go_ret
        exact ⟨rfl, hB2.trans (hb9.mono hB2.size)⟩
      | false =>
        go_wp2_with (go_at_call 9; refine (CS.out _ hB2).mono ?_; rintro e w9 ⟨rfl, hb9⟩)
        go_ret
        exact ⟨rfl, hB2.trans (hb9.mono hB2.size)⟩)
theorem both_arg {v u : Value} {l m : List Fld} {w : World} (T : Ties w) (hl : FldsArg w v l) (hm : FldsArg w u m) :
    Calls Tryd.prog 8 #[v, u] w fun e w' => e = .returned (.bool true) ∧ Below w.heap.size w w' := by
  by_cases h0 : l.length = 0 ∨ m.length = 0
  · obtain ⟨a1, c1, rfl⟩ := hl.slice
    obtain ⟨a2, c2, rfl⟩ := hm.slice
    exact both_short a1 a2 c1 c2 l m w T hl hm h0
  · have hl0 : l ≠ [] := fun e => h0 (.inl (by rw [e]; rfl))
    have hm0 : m ≠ [] := fun e => h0 (.inr (by rw [e]; rfl))
    rcases hl with ⟨_, _, _, e⟩ | ⟨_, e⟩ | ⟨gl, ol, cl, rfl, hgl, hcl⟩
    · exact absurd e hl0
    · exact absurd e hl0
    · rcases hm with ⟨_, _, _, e⟩ | ⟨_, e⟩ | ⟨gm, om, cm, rfl, hgm, hcm⟩
      · exact absurd e hm0
      · exact absurd e hm0
      · exact both_some gl ol cl gm om cm l m w T hgl hgm hl0 hm0 hcl hcm
end Go.Proofs.YtbggmmbbjojjcaaDoor
