/- The law StxPuts: what is no syntax. -/
import Derived.Test.YtbmgpenllpbioaaGreatDoorYqb
import Derived.Test.YtbmgpenllpbioaaGreatDoorYf
import Derived.Test.YtbmgpenllpbioaaGreatDoorYaw
import Derived.BigQuiet
namespace Go.Proofs.YtbmgpenllpbioaaGreatDoor
open Go.RowKit Go.PlainAid

theorem u16_bdX {a : Int} (h : (Lit.int .u16 a).wf = true) : 0 ≤ a ∧ a ≤ 65535 := by
  have h' : (decide (IntKind.u16.min ≤ a) && decide (a ≤ IntKind.u16.max)) = true := h
  have h1 : IntKind.u16.min = 0 := rfl
  have h2 : IntKind.u16.max = 65535 := rfl
  rw [h1, h2, Bool.and_eq_true, decide_eq_true_iff, decide_eq_true_iff] at h'
  exact h'
set_option maxRecDepth 100000 in
set_option maxHeartbeats 6400000 in
theorem lawPu_bad (n m : Nat) (av bv : Option Addr) (cv cs : Nat) (l s : List Sx) (z : Nat) (w : World) (CF1 : Calls Tryz.prog 10 #[.slice av n cv] w (FarV l w)) (CF2 : Calls Tryz.prog 10 #[.slice bv m cs] w (FarV s w))
    (CAw : ∀ W, Below w.heap.size w W → Calls Tryz.prog 11 #[] W fun e w' => e = .returned (.bool true) ∧ Below W.heap.size W w') (i1 e1 i2 e2 : Int)
    (C1 : NearX l → ∀ W, Below w.heap.size w W → Calls Tryz.prog 12 #[.slice av n cv] W fun e w' => e = .returned (.tuple #[.int .i64 i1, .int .i64 e1]) ∧ Below W.heap.size W w')
    (C2 : NearX s → ∀ W, Below w.heap.size w W → Calls Tryz.prog 12 #[.slice bv m cs] W fun e w' => e = .returned (.tuple #[.int .i64 i2, .int .i64 e2]) ∧ Below W.heap.size W w')
    (hbad : e1 ≠ 0 ∨ e1 = 0 ∧ e2 ≠ 0) :
    Calls Tryz.prog 9 #[.slice av n cv, .slice bv m cs, .int .u16 (z : Int)] w fun e w' => e = .returned (.bool true) ∧ Below w.heap.size w w' := by
  replace CF1 := Lib.hid CF1
  replace CF2 := Lib.hid CF2
  replace CAw := Lib.hid CAw
  replace C1 := Lib.hid C1
  replace C2 := Lib.hid C2
  go_enter Tryz.func9, Tryz.ntmps9
  go_wp2_with fail
  refine CF1.out.mono ?_
  rintro e w0 ⟨bf, rfl, HN, hw0⟩
  obtain rfl : w = w0 := hw0.symm
  cases bf
  case true =>
    clear HN hbad
    go_wp2_with fail
    refine (CAw.out _ (Below.refl _ _)).mono ?_
    rintro e w9 ⟨rfl, hb9⟩
    go_wp2_with fail
    go_ret
    exact ⟨rfl, hb9⟩
  have HN1 := Lib.hid (HN.out rfl)
  clear HN
  go_wp2_with fail
  refine CF2.out.mono ?_
  rintro e w0 ⟨bf, rfl, HN, hw0⟩
  obtain rfl : w = w0 := hw0.symm
  cases bf
  case true =>
    clear HN hbad
    go_wp2_with fail
    refine (CAw.out _ (Below.refl _ _)).mono ?_
    rintro e w9 ⟨rfl, hb9⟩
    go_wp2_with fail
    go_ret
    exact ⟨rfl, hb9⟩
  have HN2 := Lib.hid (HN.out rfl)
  clear HN
  go_wp2_with fail
  -- MARK1
  refine (C1.out HN1.out w (Below.refl _ _)).mono ?_
  rintro e w1 ⟨rfl, hb1⟩
  go_wp2_with fail
  refine (C2.out HN2.out w1 hb1).mono ?_
  rintro e w2 ⟨rfl, hb2⟩
  have hB2 := below_step hb1 hb2
  rcases hbad with h1 | ⟨h1, h2⟩
  · have q1 : (e1 != 0) = true := bne_iff_ne.2 h1
    clear h1
    go_wp2_with fail
    refine (CAw.out _ hB2).mono ?_
    rintro e w9 ⟨rfl, hb9⟩
    go_wp2_with fail
    go_ret
    exact ⟨rfl, below_step hB2 hb9⟩
  · subst h1
    have q2 : (e2 != 0) = true := bne_iff_ne.2 h2
    clear h2
    go_wp2_with fail
    refine (CAw.out _ hB2).mono ?_
    rintro e w9 ⟨rfl, hb9⟩
    go_wp2_with fail
    go_ret
    exact ⟨rfl, below_step hB2 hb9⟩
-- MARK9
end Go.Proofs.YtbmgpenllpbioaaGreatDoor
