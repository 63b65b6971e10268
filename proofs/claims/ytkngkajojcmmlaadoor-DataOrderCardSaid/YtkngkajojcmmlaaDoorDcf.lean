/- slices.CompareFunc with compareAt's closure. -/
import Derived.Test.YtkngkajojcmmlaaDoorDom
import Derived.Test.YtkngkajojcmmlaaDoorDcs
namespace Go.Proofs.YtkngkajojcmmlaaDoor
open Go.RowKit Go.PlainAid

def natI (l : List Nat) : List Int := l.map fun q : Nat => (q : Int)
theorem natI_at {l : List Nat} {k x : Nat} (h : l[k]? = some x) : (natI l)[k]? = some (x : Int) := by unfold natI; rw [List.getElem?_map, h]; rfl
set_option maxRecDepth 50000 in
set_option maxHeartbeats 3200000 in
theorem cmpFunc_any (BA BB : Nat) (va vb : Value) (la lb : List Nat) (c : Nat → Nat → Int) (w : World) (ha : IntRow w va (natI la)) (hb : IntRow w vb (natI lb)) (hl : la.length ≤ 1000)
    (HC : Hid (∀ (k x y : Nat), la[k]? = some x → lb[k]? = some y → ∀ W, Below w.heap.size w W → Calls Tryd.prog 95 #[.int .i64 (x : Int), .int .i64 (y : Int), .pointer (some ⟨BA, 0, none⟩), .pointer (some ⟨BB, 0, none⟩)] W fun e w' => e = .returned (.int .i64 (c x y)) ∧ Below W.heap.size W w')) :
    Calls Tryd.prog 94 #[va, vb, .func (.func 95) #[] #[.pointer (some ⟨BA, 0, none⟩), .pointer (some ⟨BB, 0, none⟩)]] w fun e w' => e = .returned (.int .i64 (cmpL c la lb)) ∧ Below w.heap.size w w' := by
  obtain ⟨a1, c1, rfl, hA⟩ := ha
  obtain ⟨a2, c2, rfl, hB⟩ := hb
  have HA : Hid (∀ W, Below w.heap.size w W → ∀ (k x : Nat), la[k]? = some x → ∃ g o, a1 = some ⟨g, o, none⟩ ∧ W.cell? ⟨g, o + k, none⟩ = some (.int .i64 (x : Int))) := Lib.hid fun W hW k x hx => by
    rcases hA with h | ⟨g, off, rfl, hg, hc⟩
    · have := natI_at hx; rw [h] at this; cases this
    · exact ⟨g, off, rfl, (hW.cell (p := ⟨g, off + k, none⟩) hg).trans (hc k _ (natI_at hx))⟩
  have HB : Hid (∀ W, Below w.heap.size w W → ∀ (k x : Nat), lb[k]? = some x → ∃ g o, a2 = some ⟨g, o, none⟩ ∧ W.cell? ⟨g, o + k, none⟩ = some (.int .i64 (x : Int))) := Lib.hid fun W hW k x hx => by
    rcases hB with h | ⟨g, off, rfl, hg, hc⟩
    · have := natI_at hx; rw [h] at this; cases this
    · exact ⟨g, off, rfl, (hW.cell (p := ⟨g, off + k, none⟩) hg).trans (hc k _ (natI_at hx))⟩
  have e1 : (natI la).length = la.length := List.length_map _
  have e2 : (natI lb).length = lb.length := List.length_map _
  rw [e1, e2]
  obtain ⟨n, hn⟩ : ∃ n, la.length = n := ⟨_, rfl⟩
  obtain ⟨m, hm⟩ : ∃ m, lb.length = m := ⟨_, rfl⟩
  have HN := Lib.hid hn
  have HM := Lib.hid hm
  rw [hn, hm]
  rw [hn] at hl
  obtain ⟨R, hR⟩ : ∃ R, cmpL c la lb = R := ⟨_, rfl⟩
  have HR := Lib.hid hR
  rw [hR]
  have HEnd : Hid (∀ k, (n ≤ k ∨ m ≤ k) → k ≤ n → k ≤ m → cmpL c (la.drop k) (lb.drop k) = sgn (n : Int) (m : Int)) := Lib.hid fun k h1 h2 h3 => by
    rw [cmpL_end (by rw [HN.out, HM.out]; exact h1) (by rw [HN.out]; exact h2) (by rw [HM.out]; exact h3), HN.out, HM.out]
  clear hA hB e1 e2 hn hm hR
  go_enter Tryd.func94, Tryd.ntmps94
  go_wp2_with fail
  -- MARK1
  go_loopw [13] (fun x wr => ∃ k : Nat, x = .int .i64 (k : Int) ∧ k ≤ n ∧ k ≤ m ∧ Hid (cmpL c (la.drop k) (lb.drop k) = R) ∧ Below w.heap.size w wr) (fun x _ => n - (intOf x).toNat)
  case atStart => exact ⟨0, rfl, Nat.zero_le _, Nat.zero_le _, Lib.hid (by rw [List.drop_zero, List.drop_zero]; exact HR.out), Below.refl _ _⟩
  case round =>
    obtain ⟨k, rfl, hkn, hkm, HE, hbr⟩ := hrel
    have hk0 : (0 : Int) ≤ (k : Int) := Int.natCast_nonneg _
    by_cases hlt : k < n
    · obtain ⟨x, hx⟩ : ∃ x, la[k]? = some x := ⟨_, List.getElem?_eq_getElem (by rw [HN.out]; exact hlt)⟩
      obtain ⟨g, o, rfl, d0⟩ := HA.out wr hbr k x hx
      have hk1 : (k : Int) < (n : Int) := by omega
      by_cases hmt : k < m
      · obtain ⟨y, hy⟩ : ∃ y, lb[k]? = some y := ⟨_, List.getElem?_eq_getElem (by rw [HM.out]; exact hmt)⟩
        obtain ⟨g2, o2, rfl, d1⟩ := HB.out wr hbr k y hy
        have hk2 : (k : Int) < (m : Int) := by omega
        have hk3 : ¬ (m : Int) ≤ (k : Int) := by omega
        have hd : decide ((m : Int) ≤ (k : Int)) = false := decide_eq_false hk3
        have CC := Lib.hid (HC.out k x y hx hy wr hbr)
        have hst := cmpL_at (c := c) hx hy
        rw [HE.out] at hst
        obtain ⟨q, hq⟩ : ∃ q, c x y = q := ⟨_, rfl⟩
        rw [hq] at hst CC
        have HSt := Lib.hid hst
        clear hx hy hst hq
        by_cases hq0 : q = 0
        · subst hq0
          have HE2 : Hid (cmpL c (la.drop (k + 1)) (lb.drop (k + 1)) = R) := Lib.hid (by rw [HSt.out, if_neg (by simp)])
          go_wp2_with (go_at_call 95; refine CC.out.mono ?_; rintro e w1 ⟨rfl, hb1⟩)
          -- MARK2
          go_roundw
          case rel => exact ⟨k + 1, by go_num, by omega, by omega, HE2, hbr.trans (hb1.mono hbr.size)⟩
          case measure => simp [intOf]; omega
        · have hne : (q != 0) = true := bne_iff_ne.2 hq0
          have HF : Hid (R = q) := Lib.hid (by rw [HSt.out, if_pos hq0])
          clear hq0
          go_wp2_with (go_at_call 95; refine CC.out.mono ?_; rintro e w1 ⟨rfl, hb1⟩)
          go_ret
          exact ⟨by rw [HF.out]; rfl, hbr.trans (hb1.mono hbr.size)⟩
      · obtain rfl : k = m := by omega
        have hd : decide ((k : Int) ≤ (k : Int)) = true := decide_eq_true (Int.le_refl _)
        have HF : Hid (R = 1) := Lib.hid (by rw [← HE.out, HEnd.out k (.inr (Nat.le_refl _)) hkn (Nat.le_refl _)]; unfold sgn; rw [if_neg (by omega), if_pos (by omega)])
        clear hx
        go_wp2_with fail
        go_ret
        exact ⟨by rw [HF.out]; rfl, hbr⟩
    · obtain rfl : k = n := by omega
      have hd0 : decide ((k : Int) < (k : Int)) = false := decide_eq_false (Int.lt_irrefl _)
      have hend := HEnd.out k (.inl (Nat.le_refl _)) (Nat.le_refl _) hkm
      rw [HE.out] at hend
      by_cases hmt : k < m
      · have HF : Hid (R = -1) := Lib.hid (by rw [hend]; unfold sgn; rw [if_pos (by omega)])
        have hd : decide ((k : Int) < (m : Int)) = true := decide_eq_true (by omega)
        clear hend
        go_wp2_with fail
        go_ret
        exact ⟨by rw [HF.out]; rfl, hbr⟩
      · have HF : Hid (R = 0) := Lib.hid (by rw [hend]; unfold sgn; rw [if_neg (by omega), if_neg (by omega)])
        have hd : decide ((k : Int) < (m : Int)) = false := decide_eq_false (by omega)
        clear hend
        go_wp2_with fail
        go_ret
        exact ⟨by rw [HF.out]; rfl, hbr⟩
end Go.Proofs.YtkngkajojcmmlaaDoor
