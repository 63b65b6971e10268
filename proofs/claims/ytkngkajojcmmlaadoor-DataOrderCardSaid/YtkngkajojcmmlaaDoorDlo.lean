/- The law DataOrder. -/
import Derived.Test.YtkngkajojcmmlaaDoorDcw
import Derived.Test.YtkngkajojcmmlaaDoorDsame
namespace Go.Proofs.YtkngkajojcmmlaaDoor
open Go.RowKit Go.PlainAid

theorem cmpE_0 {a b : List Nd} (h1 : (chkT symS a).2 = 0) (h2 : (chkT symS b).2 = 0) : cmpE a b = 0 := by unfold cmpE; rw [if_neg (by rw [h1]; simp)]; exact h2
theorem cmpV_0 {a b : List Nd} (h1 : (chkT symS a).2 = 0) (h2 : (chkT symS b).2 = 0) : cmpV a b = .tuple #[.int .i64 (ordT a b), .int .i64 0] := by
  unfold cmpV cmpZ; rw [cmpE_0 h1 h2, if_neg (by simp)]
theorem or_cases {x : Int} (h : -1 ≤ x ∧ x ≤ 1) : x = -1 ∨ x = 0 ∨ x = 1 := by omega
set_option maxRecDepth 50000 in
set_option maxHeartbeats 6400000 in
theorem lawOr_any (v0 v1 v2 : Value) (a b c : List Nd) (w : World) (h0 : NdsAt w v0 a) (h1 : NdsAt w v1 b) (h2 : NdsAt w v2 c) (K0 : KidsB a) (K1 : KidsB b) (K2 : KidsB c) (T : STabs w) :
    Calls Tryd.prog 9 #[v0, v1, v2] w fun e w' => e = .returned (.bool true) ∧ Below w.heap.size w w' := by
  have CS := Lib.hid (fun W (hW : Below w.heap.size w W) => shown_any W (T.below hW))
  have CF0 := Lib.hid (fun W (hW : Below w.heap.size w W) => dfar_any v0 a W (h0.below hW (Nat.le_refl _)))
  have CF1 := Lib.hid (fun W (hW : Below w.heap.size w W) => dfar_any v1 b W (h1.below hW (Nat.le_refl _)))
  have CF2 := Lib.hid (fun W (hW : Below w.heap.size w W) => dfar_any v2 c W (h2.below hW (Nat.le_refl _)))
  have C01 := Lib.hid (fun W (hW : Below w.heap.size w W) => Compare_any v0 v1 a b W (h0.below hW (Nat.le_refl _)) (h1.below hW (Nat.le_refl _)) K0 K1 (T.below hW))
  have C10 := Lib.hid (fun W (hW : Below w.heap.size w W) => Compare_any v1 v0 b a W (h1.below hW (Nat.le_refl _)) (h0.below hW (Nat.le_refl _)) K1 K0 (T.below hW))
  have C12 := Lib.hid (fun W (hW : Below w.heap.size w W) => Compare_any v1 v2 b c W (h1.below hW (Nat.le_refl _)) (h2.below hW (Nat.le_refl _)) K1 K2 (T.below hW))
  have C02 := Lib.hid (fun W (hW : Below w.heap.size w W) => Compare_any v0 v2 a c W (h0.below hW (Nat.le_refl _)) (h2.below hW (Nat.le_refl _)) K0 K2 (T.below hW))
  by_cases hok : (chkT symS a).2 = 0 ∧ (chkT symS b).2 = 0 ∧ (chkT symS c).2 = 0
  · obtain ⟨k0, k1, k2⟩ := hok
    have CM := Lib.hid (fun W (hW : Below w.heap.size w W) => same4_any v0 v1 a b W (h0.below hW (Nat.le_refl _)) (h1.below hW (Nat.le_refl _)) (by have := (chkT_ok k0).2.2.1; omega))
    have e10 : ordT b a = - ordT a b := ordF_flip a b 401 0 0
    have hx := or_cases (ordF_bd a b 401 0 0)
    have hz := or_cases (ordF_bd b c 401 0 0)
    have hw := or_cases (ordF_bd a c 401 0 0)
    have hT : Tri (ordT a b) (ordT b c) (ordT a c) := ordF_tri a b c 401 0 0 0
    have hE : (ordT a b = 0) = (a = b) := propext (ordT_0 k0 k1)
    rw [cmpV_0 k0 k1] at C01
    rw [cmpV_0 k1 k0, e10] at C10
    rw [cmpV_0 k1 k2] at C12
    rw [cmpV_0 k0 k2] at C02
    obtain ⟨x, hxE⟩ : ∃ x, ordT a b = x := ⟨_, rfl⟩
    obtain ⟨z, hzE⟩ : ∃ z, ordT b c = z := ⟨_, rfl⟩
    obtain ⟨y, hyE⟩ : ∃ y, ordT a c = y := ⟨_, rfl⟩
    have hx' : x = -1 ∨ x = 0 ∨ x = 1 := by rw [← hxE]; exact hx
    have hz' : z = -1 ∨ z = 0 ∨ z = 1 := by rw [← hzE]; exact hz
    have hy' : y = -1 ∨ y = 0 ∨ y = 1 := by rw [← hyE]; exact hw
    rw [hxE] at C01 C10 hT hE
    rw [hzE] at C12 hT
    rw [hyE] at C02 hT
    obtain ⟨s, hs⟩ : ∃ s, decide (a = b) = s := ⟨_, rfl⟩
    have hsx : s = decide (x = 0) := by rw [← hs]; exact decide_eq_decide.2 (by rw [hE])
    rw [hs] at CM
    clear h0 h1 h2 K0 K1 K2 T k0 k1 k2 hx hz hw hxE hzE hyE hs hE e10
    go_enter Tryd.func9, Tryd.ntmps9
    go_wp2_with fail
    refine (CF0.out w (Below.refl _ _)).mono ?_
    rintro e w1 ⟨b1, rfl, _, hcur⟩
    cases b1 with
    | true =>
      go_wp2_with fail
      refine (CS.out _ hcur).mono ?_
      rintro e w2 ⟨rfl, hn⟩
      go_wp2_with fail
      go_ret
      exact ⟨rfl, hcur.trans (hn.mono hcur.size)⟩
    | false =>
      go_wp2_with fail
      refine (CF1.out _ hcur).mono ?_
      rintro e w2 ⟨b1, rfl, _, hn⟩
      replace hcur := hcur.trans (hn.mono hcur.size)
      cases b1 with
      | true =>
        go_wp2_with fail
        refine (CS.out _ hcur).mono ?_
        rintro e w3 ⟨rfl, hn⟩
        go_wp2_with fail
        go_ret
        exact ⟨rfl, hcur.trans (hn.mono hcur.size)⟩
      | false =>
        go_wp2_with fail
        refine (CF2.out _ hcur).mono ?_
        rintro e w3 ⟨b1, rfl, _, hn⟩
        replace hcur := hcur.trans (hn.mono hcur.size)
        cases b1 with
        | true =>
          go_wp2_with fail
          refine (CS.out _ hcur).mono ?_
          rintro e w4 ⟨rfl, hn⟩
          go_wp2_with fail
          go_ret
          exact ⟨rfl, hcur.trans (hn.mono hcur.size)⟩
        | false =>
          go_wp2_with fail
          refine (C01.out _ hcur).mono ?_
          rintro e w4 ⟨rfl, hn⟩
          replace hcur := hcur.trans (hn.mono hcur.size)
          go_wp2_with fail
          refine (C10.out _ hcur).mono ?_
          rintro e w5 ⟨rfl, hn⟩
          replace hcur := hcur.trans (hn.mono hcur.size)
          go_wp2_with fail
          refine (C12.out _ hcur).mono ?_
          rintro e w6 ⟨rfl, hn⟩
          replace hcur := hcur.trans (hn.mono hcur.size)
          go_wp2_with fail
          refine (C02.out _ hcur).mono ?_
          rintro e w7 ⟨rfl, hn⟩
          replace hcur := hcur.trans (hn.mono hcur.size)
          clear CF0 CF1 CF2 C01 C10 C12 C02 hn
          have CM7 := Lib.hid (CM.out _ hcur)
          have CS7 := Lib.hid (fun W (hW : Below w7.heap.size w7 W) => CS.out W (hcur.trans (hW.mono hcur.size)))
          clear CM CS
          -- MARK1
          rcases hx' with rfl | rfl | rfl <;> rcases hz' with rfl | rfl | rfl <;> rcases hy' with rfl | rfl | rfl <;> first
            | (exfalso; revert hT; unfold Tri; omega)
            | (clear hT
               simp only [show ((-1 : Int) = 0) = False by simp, show ((1 : Int) = 0) = False by simp, decide_true, decide_false] at hsx
               subst hsx
               go_wp2_with fail
               refine CM7.out.mono ?_
               rintro e w8 ⟨rfl, hn⟩
               have hc8 := hcur.trans (hn.mono hcur.size)
               go_wp2_with fail
               refine (CS7.out _ hn).mono ?_
               rintro e w9 ⟨rfl, hn2⟩
               go_wp2_with fail
               go_ret
               exact ⟨rfl, hc8.trans (hn2.mono hc8.size)⟩)
  · have hne : (cmpE a b ≠ 0) ∨ (cmpE a b = 0 ∧ cmpE b a = 0 ∧ cmpE b c ≠ 0) := by
      unfold cmpE
      by_cases k0 : (chkT symS a).2 = 0
      · by_cases k1 : (chkT symS b).2 = 0
        · have k2 : (chkT symS c).2 ≠ 0 := fun k2 => hok ⟨k0, k1, k2⟩
          right
          rw [if_neg (by rw [k0]; simp), if_neg (by rw [k1]; simp), if_neg (by rw [k1]; simp)]
          exact ⟨k1, k0, k2⟩
        · left; rw [if_neg (by rw [k0]; simp)]; exact k1
      · left; rw [if_pos k0]; exact k0
    unfold cmpV at C01 C10 C12 C02
    obtain ⟨x0, hx0⟩ : ∃ x, cmpZ a b = x := ⟨_, rfl⟩
    obtain ⟨x1, hx1⟩ : ∃ x, cmpZ b a = x := ⟨_, rfl⟩
    obtain ⟨x2, hx2⟩ : ∃ x, cmpZ b c = x := ⟨_, rfl⟩
    obtain ⟨x3, hx3⟩ : ∃ x, cmpZ a c = x := ⟨_, rfl⟩
    obtain ⟨e0, he0⟩ : ∃ x, cmpE a b = x := ⟨_, rfl⟩
    obtain ⟨e1, he1⟩ : ∃ x, cmpE b a = x := ⟨_, rfl⟩
    obtain ⟨e2, he2⟩ : ∃ x, cmpE b c = x := ⟨_, rfl⟩
    obtain ⟨e3, he3⟩ : ∃ x, cmpE a c = x := ⟨_, rfl⟩
    rw [hx0, he0] at C01
    rw [hx1, he1] at C10
    rw [hx2, he2] at C12
    rw [hx3, he3] at C02
    rw [he0, he1, he2] at hne
    have hne' : ((e0 != 0) = true) ∨ ((e0 != 0) = false ∧ (e1 != 0) = false ∧ (e2 != 0) = true) := by
      rcases hne with h | ⟨h, h', h''⟩
      · exact .inl (bne_iff_ne.2 h)
      · exact .inr ⟨by rw [h]; rfl, by rw [h']; rfl, bne_iff_ne.2 h''⟩
    clear h0 h1 h2 K0 K1 K2 T hok hx0 hx1 hx2 hx3 he0 he1 he2 he3 hne
    go_enter Tryd.func9, Tryd.ntmps9
    go_wp2_with fail
    refine (CF0.out w (Below.refl _ _)).mono ?_
    rintro e w1 ⟨b1, rfl, _, hcur⟩
    cases b1 with
    | true =>
      go_wp2_with fail
      refine (CS.out _ hcur).mono ?_
      rintro e w2 ⟨rfl, hn⟩
      go_wp2_with fail
      go_ret
      exact ⟨rfl, hcur.trans (hn.mono hcur.size)⟩
    | false =>
      go_wp2_with fail
      refine (CF1.out _ hcur).mono ?_
      rintro e w2 ⟨b1, rfl, _, hn⟩
      replace hcur := hcur.trans (hn.mono hcur.size)
      cases b1 with
      | true =>
        go_wp2_with fail
        refine (CS.out _ hcur).mono ?_
        rintro e w3 ⟨rfl, hn⟩
        go_wp2_with fail
        go_ret
        exact ⟨rfl, hcur.trans (hn.mono hcur.size)⟩
      | false =>
        go_wp2_with fail
        refine (CF2.out _ hcur).mono ?_
        rintro e w3 ⟨b1, rfl, _, hn⟩
        replace hcur := hcur.trans (hn.mono hcur.size)
        cases b1 with
        | true =>
          go_wp2_with fail
          refine (CS.out _ hcur).mono ?_
          rintro e w4 ⟨rfl, hn⟩
          go_wp2_with fail
          go_ret
          exact ⟨rfl, hcur.trans (hn.mono hcur.size)⟩
        | false =>
          go_wp2_with fail
          refine (C01.out _ hcur).mono ?_
          rintro e w4 ⟨rfl, hn⟩
          replace hcur := hcur.trans (hn.mono hcur.size)
          go_wp2_with fail
          refine (C10.out _ hcur).mono ?_
          rintro e w5 ⟨rfl, hn⟩
          replace hcur := hcur.trans (hn.mono hcur.size)
          go_wp2_with fail
          refine (C12.out _ hcur).mono ?_
          rintro e w6 ⟨rfl, hn⟩
          replace hcur := hcur.trans (hn.mono hcur.size)
          go_wp2_with fail
          refine (C02.out _ hcur).mono ?_
          rintro e w7 ⟨rfl, hn⟩
          replace hcur := hcur.trans (hn.mono hcur.size)
          clear CF0 CF1 CF2 C01 C10 C12 C02 hn
          -- MARK2
          rcases hne' with d0 | ⟨d0, d1, d2⟩ <;> (
            go_wp2_with fail
            refine (CS.out _ hcur).mono ?_
            rintro e w8 ⟨rfl, hn⟩
            go_wp2_with fail
            go_ret
            exact ⟨rfl, hcur.trans (hn.mono hcur.size)⟩)
end Go.Proofs.YtkngkajojcmmlaaDoor
