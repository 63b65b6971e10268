/- The reference's class, word, isWord, isInteger, Integer, Symbol. -/
import Derived.Test.YtemoeohchhpilaaDoorLa
namespace Go.Proofs.YtemoeohchhpilaaDoor
open Go.RowKit Go.PlainAid

theorem wd_no {L : List UInt8} (h : (dec L).2.2 ≠ 0) : (dec L).2.1 = 0 := by rw [dec_no h]
set_option maxRecDepth 50000 in
set_option maxHeartbeats 1600000 in
theorem rclass_at (v : Value) (l : List UInt8) (k : Nat) (w : World) (h : ArgAt w v (l.map bc)) (hl : l.length ≤ 1000000) :
    Calls Tryd.prog 31 #[v, .int .i64 (k : Int)] w fun e w' => e = .returned (.tuple #[.int .i64 (clsL (l.drop k)), .int .i64 ((dec (l.drop k)).2.1 : Int)]) ∧ Below w.heap.size w w' := by
  have CD := Lib.hid (rdecode_any v l (k : Int) w h hl)
  have CC := Lib.hid (fun r W => rclass_any r W)
  obtain ⟨r, wd, er, hd⟩ : ∃ r wd er, dec (l.drop k) = (r, wd, er) := ⟨_, _, _, rfl⟩
  have CD2 := CD.out
  rw [decV_of hd] at CD2
  have HCD := Lib.hid CD2
  have HW := wd_no (L := l.drop k)
  rw [hd] at HW
  simp only at HW
  have HC : Hid (∀ x, (if er = 0 then clsS r else 0) = x → clsL (l.drop k) = x ∧ (dec (l.drop k)).2.1 = wd) := Lib.hid (by rintro x rfl; unfold clsL; rw [hd]; exact ⟨rfl, rfl⟩)
  unfold clsV at CC
  obtain ⟨a, n, c, rfl, hrest⟩ := h
  clear CD CD2 hd hrest hl
  by_cases he : er = 0
  · subst he
    have HV := Lib.hid (HC.out (clsS r) (if_pos rfl))
    have CR := CC.out r
    obtain ⟨z, hz⟩ : ∃ z : Int, (if isR r then (0 : Int) else 7) = z := ⟨_, rfl⟩
    rw [hz] at CR
    have HCR := Lib.hid CR
    clear HW HC CC CR hz
    go_enter Tryd.func31, Tryd.ntmps31
    go_wp2_with fail
    refine HCD.out.mono ?_
    rintro e w1 ⟨rfl, hb1⟩
    go_wp2_with fail
    refine (HCR.out _).mono ?_
    rintro e w2 ⟨rfl, rfl⟩
    go_wp2_with fail
    go_ret2
    exact ⟨by rw [HV.out.1, HV.out.2]; rfl, hb1⟩
  · have HV := Lib.hid (HC.out 0 (if_neg he))
    have HW2 := Lib.hid (HW he)
    have hne : (er != 0) = true := bne_iff_ne.2 he
    clear HW HC he
    go_enter Tryd.func31, Tryd.ntmps31
    go_wp2_with fail
    refine HCD.out.mono ?_
    rintro e w1 ⟨rfl, hb1⟩
    go_wp2_with fail
    go_ret2
    exact ⟨by rw [HV.out.1, HV.out.2, HW2.out]; rfl, hb1⟩
theorem clsL_in {L : List UInt8} (h : (dec L).2.2 = 0) : clsL L = clsS (dec L).1 := by unfold clsL; rw [if_pos h]
theorem clsL_no {L : List UInt8} (h : (dec L).2.2 ≠ 0) : clsL L = 0 := by unfold clsL; rw [if_neg h]
theorem wordN_go {L : List UInt8} (h : isWc (clsL L) = true) : (dec L).2.2 = 0 ∧ wordN L = (dec L).2.1 + wordN (L.drop (dec L).2.1) := by
  by_cases h0 : (dec L).2.2 = 0
  · rw [clsL_in h0] at h
    exact ⟨h0, runN_step h0 (by rw [isWr_c]; exact h)⟩
  · rw [clsL_no h0] at h; exact absurd h (by decide)
theorem wordN_no {L : List UInt8} (h : isWc (clsL L) = false) : wordN L = 0 := by
  refine runN_stop fun h2 => ?_
  rw [clsL_in h2.1] at h
  rw [isWr_c, h] at h2
  cases h2.2
set_option maxRecDepth 50000 in
set_option maxHeartbeats 3200000 in
theorem rword_any (v : Value) (l : List UInt8) (k : Nat) (w : World) (h : ArgAt w v (l.map bc)) (hl : l.length ≤ 1000000) (hk : k ≤ l.length) :
    Calls Tryd.prog 32 #[v, .int .i64 (k : Int)] w fun e w' => e = .returned (.int .i64 ((k + wordN (l.drop k) : Nat) : Int)) ∧ Below w.heap.size w w' := by
  have CC := Lib.hid (fun (m : Nat) W (hW : Below w.heap.size w W) => rclass_at v l m W (h.below hW (Nat.le_refl _)) hl)
  obtain ⟨a, n, c, rfl, hn, hx1, hx2⟩ := h
  clear hx1 hx2
  rw [List.length_map] at hn
  have HN := Lib.hid hn
  rw [← hn] at hk hl
  clear hn
  go_enter Tryd.func32, Tryd.ntmps32
  go_wp2_with fail
  go_loopw [1] (fun x1 wr => ∃ m : Nat, x1 = .int .i64 (m : Int) ∧ m ≤ n ∧ Hid (k + wordN (l.drop k) = m + wordN (l.drop m)) ∧ Below w.heap.size w wr) (fun x1 _ => n - (intOf x1).toNat)
  case atStart => exact ⟨k, rfl, hk, Lib.hid rfl, Below.refl _ _⟩
  case round =>
    obtain ⟨m, rfl, hm, HS, hb⟩ := hrel
    by_cases hlt : m < n
    · have C := Lib.hid (CC.out m wr hb)
      obtain ⟨cl, hcl⟩ : ∃ cl, clsL (l.drop m) = cl := ⟨_, rfl⟩
      obtain ⟨wd, hwd⟩ : ∃ wd, (dec (l.drop m)).2.1 = wd := ⟨_, rfl⟩
      rw [hcl, hwd] at C
      by_cases hw : isWc cl = true
      · obtain ⟨g0, g1⟩ := wordN_go (L := l.drop m) (by rw [hcl]; exact hw)
        have g2 := dec_wd g0
        rw [hwd, List.length_drop, ← HN.out] at g2
        obtain ⟨g2, g3, _⟩ := g2
        have HS2 : Hid (k + wordN (l.drop k) = (m + wd) + wordN (l.drop (m + wd))) := Lib.hid (by rw [HS.out, g1, hwd, List.drop_drop]; omega)
        have hor : ((cl : Int) != 9) = false ∨ (((cl : Int) != 9) = true ∧ ((cl : Int) != 7) = false) ∨ (((cl : Int) != 9) = true ∧ ((cl : Int) != 7) = true ∧ ((cl : Int) != 8) = false) := by
          rcases isWc_iff.1 hw with rfl | rfl | rfl
          · exact .inl rfl
          · exact .inr (.inl ⟨rfl, rfl⟩)
          · exact .inr (.inr ⟨rfl, rfl, rfl⟩)
        clear g0 g1 hcl hwd hw
        rcases hor with e9 | ⟨e9, e7⟩ | ⟨e9, e7, e8⟩
        all_goals
          go_wp2_with fail
          refine C.out.mono ?_
          rintro e w1 ⟨rfl, hb1⟩
          go_wp2_with fail
          go_roundw
          case rel => exact ⟨m + wd, by go_num, by omega, HS2, hb.trans (hb1.mono hb.size)⟩
          case measure => simp [intOf]; omega
      · have hwf : isWc cl = false := by cases h : isWc cl with | true => exact absurd h hw | false => rfl
        have HV : Hid (k + wordN (l.drop k) = m) := Lib.hid (by rw [HS.out, wordN_no (by rw [hcl]; exact hwf)]; rfl)
        have e9 : ((cl : Int) != 9) = true := bne_iff_ne.2 (fun e => hw (isWc_iff.2 (.inl e)))
        have e7 : ((cl : Int) != 7) = true := bne_iff_ne.2 (fun e => hw (isWc_iff.2 (.inr (.inl e))))
        have e8 : ((cl : Int) != 8) = true := bne_iff_ne.2 (fun e => hw (isWc_iff.2 (.inr (.inr e))))
        clear hcl hwd hw hwf
        go_wp2_with fail
        refine C.out.mono ?_
        rintro e w1 ⟨rfl, hb1⟩
        go_wp2_with fail
        go_ret
        exact ⟨by rw [HV.out]; rfl, hb.trans (hb1.mono hb.size)⟩
    · obtain rfl : m = n := by omega
      have HV : Hid (k + wordN (l.drop k) = m) := Lib.hid (by rw [HS.out, List.drop_of_length_le (Nat.le_of_eq HN.out.symm)]; rfl)
      go_wp2_with fail
      go_ret
      exact ⟨by rw [HV.out]; rfl, hb⟩
theorem arg_conv {s : List UInt8} {W : World} {g cap : Nat} (h : BytesAt W (.slice (some ⟨g, 0, none⟩) s.length cap) s) (hc : s.length ≤ cap) : ArgAt W (.slice (some ⟨g, 0, none⟩) s.length cap) (s.map bc) := by
  refine ⟨_, _, _, rfl, by rw [List.length_map], hc, .inr ⟨_, _, rfl, fun j u hj => ?_⟩⟩
  rw [Go.WideShapes.add_plain]
  rcases h with ⟨_, _, _, hnil⟩ | ⟨g', off, n', c', e, hn, hg, hcell⟩
  · rw [hnil] at hj; cases hj
  · cases e; exact hcell j u hj
def iswB (x : List UInt8) : Bool := decide (x ≠ []) && decide (wordN x = x.length)
-- MARK9
end Go.Proofs.YtemoeohchhpilaaDoor
