/- walk, with any visit. -/
import Derived.Test.YtbmgpenllpbioaaGreatDoorYc
import Derived.Test.YtbmgpenllpbioaaGreatDoorYk
namespace Go.Proofs.YtbmgpenllpbioaaGreatDoor
open Go.RowKit Go.PlainAid

set_option maxRecDepth 50000 in
set_option maxHeartbeats 3200000 in
theorem walk_any (F B : Nat) (v : Value) (l : List Sx) (w0 w : World) (J : Nat → World → Prop) (R : Nat → Int → World → Prop) (hv : XsAt w0 v l) (hl : l.length ≤ 1000000) (eg : Hid (∀ args w, (callFunc F args).run Tryz.prog w = .ok (.enter F args) w))
    (HJ : Hid (∀ k W, J k W → Below w0.heap.size w0 W)) (HA : Hid (∀ k W o, J k W → J k (W.alloc o)))
    (HV : Hid (∀ (k : Nat) (x : Sx) W, l[k]? = some x → J k W → Calls Tryz.prog F #[.pointer (some ⟨B, 0, none⟩), .int .i64 (k : Int), sxA x] W fun e w' => ∃ er, e = .returned (.int .i64 er) ∧ (er = 0 → J (k + 1) w') ∧ (er ≠ 0 → R k er w')))
    (h0 : Hid (J 0 w)) :
    Calls Tryz.prog 47 #[v, .func (.func F) #[.pointer (some ⟨B, 0, none⟩)] #[]] w fun e w' => (e = .returned (.tuple #[.int .i64 0, .int .i64 0]) ∧ J l.length w') ∨ ∃ (k : Nat) (er : Int), er ≠ 0 ∧ e = .returned (.tuple #[.int .i64 (k : Int), .int .i64 er]) ∧ R k er w' := by
  obtain ⟨a, c, rfl, hc⟩ := hv.slice
  obtain ⟨n, hn⟩ : ∃ n, l.length = n := ⟨_, rfl⟩
  have HX := Lib.hid hv
  have HN := Lib.hid hn
  rw [hn] at hc hl HX ⊢
  clear hv hn
  go_enter Tryz.func47, Tryz.ntmps47
  go_wp2_with fail
  -- MARK1
  go_loopw [11] (fun x11 wr => ∃ k : Nat, x11 = .int .i64 (k : Int) ∧ k ≤ n ∧ Hid (J k wr)) (fun x11 _ => n - (intOf x11).toNat)
  case atStart => exact ⟨0, rfl, Nat.zero_le _, h0⟩
  case round =>
    obtain ⟨k, rfl, hk, HK⟩ := hrel
    have hk0 : (0 : Int) ≤ (k : Int) := Int.natCast_nonneg _
    by_cases hlt : k < n
    · obtain ⟨x, hx⟩ : ∃ x, l[k]? = some x := ⟨_, List.getElem?_eq_getElem (by rw [HN.out]; exact hlt)⟩
      obtain ⟨g, off, rfl, hg, c0, c1, c2, c3, c4, c5, c6, c7⟩ := (HX.out.below (HJ.out k wr HK.out) (Nat.le_refl _)).node hx
      have HC := Lib.hid (HV.out k x (wr.alloc (.cells (sxC x).toArray 28)) hx (HA.out k wr _ HK.out))
      obtain ⟨y0, y1, y2, y3, y4, y5, y6, y7⟩ := x
      have hd := World.alloc_heap_new wr (.cells #[.int .i64 y0, .int .i64 y1, .int .i64 y2, .string (str y3), .string (str y4), .int .i64 y5, .int .i64 y6, .int .i64 y7] 28)
      obtain ⟨d0, d1, d2, d3, d4, d5, d6, d7⟩ := box8_facts hd
      have hk1 : (k : Int) < (n : Int) := by omega
      unfold sxA sxC at HC
      simp only at HC c0 c1 c2 c3 c4 c5 c6 c7
      obtain ⟨S, hS⟩ : ∃ S, str y3 = S := ⟨_, rfl⟩
      obtain ⟨P, hP⟩ : ∃ P, str y4 = P := ⟨_, rfl⟩
      rw [hS] at HC c3 d3 d0 d1 d2 d4 d5 d6 d7
      rw [hP] at HC c4 d4 d0 d1 d2 d3 d5 d6 d7
      clear hx hd hS hP
      go_wp2_with fail
      -- MARK2
      rw [eg.out]
      go_wp2_with fail
      -- MARK2a
      refine HC.out.mono ?_
      rintro e w2 ⟨er, rfl, hj, hr⟩
      by_cases he : er = 0
      · have HJ2 := Lib.hid (hj he)
        subst he
        clear hj hr
        go_wp2_with fail
        -- MARK3
        go_roundw
        case rel => exact ⟨k + 1, by go_num, by omega, HJ2⟩
        case measure => simp [intOf]; omega
      · have HR2 := Lib.hid (hr he)
        have hne : (er != 0) = true := bne_iff_ne.2 he
        have HE := Lib.hid he
        clear hj hr he
        go_wp2_with fail
        -- MARK4
        go_ret2
        exact .inr ⟨k, er, HE.out, rfl, HR2.out⟩
    · obtain rfl : k = n := by omega
      go_wp2_with fail
      -- MARK5
      go_ret2
      exact .inl ⟨rfl, HK.out⟩
-- MARK9
end Go.Proofs.YtbmgpenllpbioaaGreatDoor
