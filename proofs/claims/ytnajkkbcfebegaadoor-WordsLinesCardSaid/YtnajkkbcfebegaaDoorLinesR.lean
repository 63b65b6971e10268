/- The reference's Lines, and the law's function lines. -/
import Derived.Test.YtnajkkbcfebegaaDoorLinesP
import Derived.BigQuiet
import Derived.Deep.QuietTactic
import Derived.Deep.AppendLies
import Derived.Test.YtnajkkbcfebegaaDoorRSplit
namespace Go.Proofs.YtnajkkbcfebegaaDoor
open Go.RowKit Go.PlainAid

theorem ends_last (s : ByteArray) (m : Nat) (h : s.size = m + 1) : (bt s m != 10) = !(endsLn s.data.toList) := by
  have hl : m < s.data.toList.length := by rw [len_list]; omega
  have hb := bt_list s m (by omega)
  have hlast : s.data.toList.getLast? = some s.data.toList[m] := by
    rw [List.getLast?_eq_getElem?, len_list, h, Nat.add_sub_cancel, List.getElem?_eq_getElem hl]
  have hne : s.data.toList.isEmpty = false := by
    cases hq : s.data.toList with
    | nil => rw [hq] at hl; simp at hl
    | cons => rfl
  unfold endsLn
  rw [hlast, hne, hb, Bool.false_or]
  by_cases h10 : s.data.toList[m] = 10
  · rw [h10]; rfl
  · have h1 : ((s.data.toList[m].toNat : Int) != 10) = true := by
      rw [bne_iff_ne]; intro e
      apply h10; apply UInt8.toNat_inj.1
      have : (10 : UInt8).toNat = 10 := rfl
      omega
    rw [h1]
    have h2 : (some s.data.toList[m] == some (10 : UInt8)) = false := by
      rw [beq_eq_false_iff_ne]; intro e; exact h10 (Option.some.inj e)
    rw [h2]; rfl

/-- What is left at k, where the line began at f. -/
def LnAt (L : List UInt8) (pre : List (List UInt8)) (f k : Nat) : Prop := f ≤ k ∧ lnF [] L = pre ++ lnF ((L.drop f).take (k - f)) (L.drop k)
theorem lnAt_start (L : List UInt8) : LnAt L [] 0 0 := ⟨Nat.le_refl _, by simp⟩
theorem lnAt_line {L : List UInt8} {pre : List (List UInt8)} {f k : Nat} (h : LnAt L pre f k) (hk : L[k]? = some 10) : LnAt L (pre ++ [(L.drop f).take (k - f)]) (k + 1) (k + 1) := by
  obtain ⟨h1, h2⟩ := h
  have hk' := List.getElem?_eq_some_iff.1 hk
  refine ⟨Nat.le_refl _, ?_⟩
  rw [h2, List.drop_eq_getElem_cons hk'.1, hk'.2, lnF, if_pos rfl, Nat.sub_self, List.take_zero, List.append_assoc]; rfl
theorem lnAt_step {L : List UInt8} {pre : List (List UInt8)} {f k : Nat} {c : UInt8} (h : LnAt L pre f k) (hk : L[k]? = some c) (hc : c ≠ 10) : LnAt L pre f (k + 1) := by
  obtain ⟨h1, h2⟩ := h
  have hk' := List.getElem?_eq_some_iff.1 hk
  refine ⟨by omega, ?_⟩
  rw [h2, List.drop_eq_getElem_cons hk'.1, hk'.2, lnF, if_neg hc, show k + 1 - f = (k - f) + 1 by omega, List.take_add_one, List.getElem?_drop, show f + (k - f) = k by omega, hk]; rfl
theorem lnAt_end {L : List UInt8} {pre : List (List UInt8)} {f k : Nat} (h : LnAt L pre f k) (hk : L.length ≤ k) : lnF [] L = pre := by
  rw [h.2, List.drop_of_length_le hk, lnF, List.append_nil]
theorem ext_str (s : ByteArray) (f k : Nat) : s.extract f k = str ((s.data.toList.drop f).take (k - f)) := by
  rw [← str_data (s.extract f k), Lib.extract_data]

set_option maxRecDepth 50000 in
set_option maxHeartbeats 3200000 in
theorem rlines_in (s : ByteArray) (w : World) (hs : s.size ≤ 1048576) (m : Nat) (hm : s.size = m + 1) :
    Calls Tryd.prog 50 #[.string s] w (LnV s.data.toList w) := by
  have hd1 : decide ((1048576 : Int) < (s.size : Int)) = false := decide_eq_false (by omega)
  have hem := empty_no (s := s) (by omega)
  have hlast := ends_last s m hm
  have hb := get_bt s
  have HL : Hid (s.data.toList.length = s.size) := Lib.hid (len_list s)
  have HB : Hid (s.size ≤ 1048576) := Lib.hid hs
  have hto : ((s.size : Int) - 1).toNat = m := by omega
  have hwr : IntKind.i64.wrap ((s.size : Int) - 1) = (s.size : Int) - 1 := IntWalk.i64_in _ ⟨by omega, by omega⟩
  have hidx : (0 : Int) ≤ (s.size : Int) - 1 ∧ (s.size : Int) - 1 < (s.size : Int) := by omega
  clear hs hm
  cases he : endsLn s.data.toList with
  | false =>
    have HV : Hid (linesS s.data.toList = ([], 6)) := Lib.hid (linesS_form (by have := HB.out; rw [len_list]; omega) he)
    rw [he] at hlast
    clear he
    go_enter Tryd.func50, Tryd.ntmps50
    go_wp2_with fail
    -- MARK1
    go_returns
    exact ⟨_, by rw [HV.out]; rfl, by rw [HV.out]; exact .inl ⟨rfl, rfl⟩, Below.refl _ _⟩
  | true =>
    rw [he] at hlast
    have HE := Lib.hid he
    obtain ⟨i0, hi, hj0, hj1, hj2⟩ := info_parts2 infoStr
    clear he
    go_enter Tryd.func50, Tryd.ntmps50
    go_wp2_with fail
    -- MARK2
    have hnb : s.size ≤ 2000000 := by have := HB.out; omega
    go_loopw [4, 5, 6] (fun x4 x5 x6 wr => ∃ (k f : Nat) (pre : List (List UInt8)), x6 = .int .i64 k ∧ k ≤ s.size ∧ x5 = .int .i64 f ∧ f ≤ k ∧ pre.length ≤ k ∧ Hid (LnAt s.data.toList pre f k) ∧ Hid (wr.ownsRow w.heap.size 9 1 x4 pre.length (stc pre)) ∧ Below w.heap.size w wr) (fun _ _ x6 _ => s.size - (intOf x6).toNat)
    case atStart => exact ⟨0, 0, [], rfl, Nat.zero_le _, rfl, Nat.le_refl _, Nat.le_refl _, Lib.hid (lnAt_start _), Lib.hid ⟨rfl, .inl ⟨rfl, rfl⟩⟩, Below.refl _ _⟩
    case round =>
      obtain ⟨k, f, pre, rfl, hk, rfl, hfk, hpk, HA, HO, hB⟩ := hrel
      obtain ⟨p, hp⟩ : ∃ p, pre.length = p := ⟨_, rfl⟩
      rw [hp] at hpk HO
      have HP := Lib.hid hp
      clear hp
      by_cases hlt : k < s.size
      · have hl : k < s.data.toList.length := by rw [len_list]; exact hlt
        have hbk := bt_list s k hlt
        by_cases h10 : bt s k = 10
        · have hkc : s.data.toList[k]? = some 10 := by
            rw [List.getElem?_eq_getElem hl]
            congr 1
            apply UInt8.toNat_inj.1
            have h33 : (10 : UInt8).toNat = 10 := rfl
            rw [hbk] at h10; omega
          have HA2 := Lib.hid (lnAt_line HA.out hkc)
          have HX : Hid (Value.string (s.extract f k) = Value.string (str ((s.data.toList.drop f).take (k - f)))) := Lib.hid (by rw [ext_str])
          have hbe : (bt s k == 10) = true := by rw [beq_iff_eq]; exact h10
          have hq1 : (f : Int) ≤ (k : Int) := by omega
          have hq2 : (k : Int) ≤ (s.size : Int) := by omega
          clear hl hbk h10 hkc
          -- MARK3
          go_wp2_with (at_builtin; refine wpList_append_lies _ rfl _ _ 69 rfl w.heap.size 9 i0 (.string ⟨#[]⟩) 1 16 Tryd.underlying69 hi hj0 hj1 hj2 rfl (by decide) _ _ _ rfl (HO.out.alloc _) ⟨wr.heap.size, 0, none⟩ 1 1 [.string (s.extract f k)] rfl rfl (new_cells wr [.string (s.extract f k)] _) (by simp [Value.oneCell']) (by omega) (by unfold maxLen; omega) (by omega) (by rw [World.size_alloc]; have := hB.size; omega) (wr.heap.size + 1) (by simp) ?_; intro g1 cap1 w3 hown1 hgrow1 hat1 hlt1; have HB3 : Below w.heap.size w w3 := (hB.alloc hB.size _).grown hgrow1 (by rw [World.size_alloc]; have := hB.size; omega) (fun j hj => (HO.out.lt j hj).1); have HO3 := Lib.hid hown1; clear hown1 hgrow1 hat1)
          go_roundw
          case rel => exact ⟨k + 1, k + 1, pre ++ [(s.data.toList.drop f).take (k - f)], by go_num, by omega, by go_num, Nat.le_refl _, by rw [List.length_append, HP.out, List.length_singleton]; omega, HA2, Lib.hid (by rw [List.length_append, HP.out, stc_app]; have := HO3.out; rw [HX.out] at this; exact this), HB3⟩
          case measure => simp [intOf]; omega
        · have HA2 := Lib.hid (lnAt_step HA.out (List.getElem?_eq_getElem hl) (fun e => h10 (by rw [hbk, e]; rfl)))
          have hbe : (bt s k == 10) = false := by rw [beq_eq_false_iff_ne]; exact h10
          clear hl hbk h10
          go_wp2
          go_roundw
          case rel => exact ⟨k + 1, f, pre, by go_num, by omega, rfl, by omega, by rw [HP.out]; omega, HA2, by rw [HP.out]; exact HO, hB⟩
          case measure => simp [intOf]; omega
      · obtain rfl : k = s.size := by omega
        have HLn := Lib.hid (lnAt_end HA.out (by rw [HL.out]; exact Nat.le_refl _))
        obtain ⟨sa, sc, rfl⟩ := own_lenF HO.out
        by_cases hbig : 5000 < p
        · have HV : Hid (linesS s.data.toList = ([], 3)) := Lib.hid (linesS_many (by have := HB.out; rw [len_list]; omega) HE.out (by rw [HLn.out, HP.out]; exact hbig))
          have hdp : decide ((5000 : Int) < (p : Int)) = true := decide_eq_true (by omega)
          clear hbig hpk
          go_wp2_with fail
          go_returns
          exact ⟨_, by rw [HV.out]; rfl, by rw [HV.out]; exact .inl ⟨rfl, rfl⟩, hB⟩
        · have HV : Hid (linesS s.data.toList = (lnF [] s.data.toList, 0)) := Lib.hid (linesS_ok (by have := HB.out; rw [len_list]; omega) HE.out (by rw [HLn.out, HP.out]; exact hbig))
          have hdp : decide ((5000 : Int) < (p : Int)) = false := decide_eq_false (by omega)
          clear hbig hpk
          go_wp2_with fail
          go_returns
          refine ⟨_, by rw [HV.out]; rfl, ?_, hB⟩
          rw [HV.out]
          simp only
          rw [HLn.out]
          exact StrsAt.own (by rw [HP.out]; exact HO.out)

theorem rlines_any (s : ByteArray) (w : World) : Calls Tryd.prog 50 #[.string s] w (LnV s.data.toList w) := by
  by_cases h1 : 1048576 < s.size
  · have HV : Hid (linesS s.data.toList = ([], 3)) := Lib.hid (linesS_long (by rw [len_list]; exact h1))
    have hd1 : decide ((1048576 : Int) < (s.size : Int)) = true := decide_eq_true (by omega)
    clear h1
    go_enter Tryd.func50, Tryd.ntmps50
    go_wp2_with fail
    go_returns
    exact ⟨_, by rw [HV.out]; rfl, by rw [HV.out]; exact .inl ⟨rfl, rfl⟩, Below.refl _ _⟩
  · by_cases h0 : s.size = 0
    · have hnil : s.data.toList = [] := List.eq_nil_of_length_eq_zero (by rw [len_list]; exact h0)
      have HV : Hid (linesS s.data.toList = ([], 0)) := Lib.hid (by rw [hnil]; rfl)
      have hd1 : decide ((1048576 : Int) < (s.size : Int)) = false := decide_eq_false (by omega)
      have hem := empty_yes h0
      clear h1 h0 hnil
      go_enter Tryd.func50, Tryd.ntmps50
      go_wp2_with fail
      go_returns
      exact ⟨_, by rw [HV.out]; rfl, by rw [HV.out]; exact .inl ⟨rfl, rfl⟩, Below.refl _ _⟩
    · exact rlines_in s w (by omega) (s.size - 1) (by omega)

theorem strsAt_shape {w : World} {v : Value} {l : List (List UInt8)} (h : StrsAt w v l) : ∃ a c, v = .slice a l.length c := by
  rcases h with ⟨rfl, rfl⟩ | ⟨g, off, cap, rfl, _⟩
  · exact ⟨_, _, rfl⟩
  · exact ⟨_, _, rfl⟩
theorem linesS_len (L : List UInt8) : (linesS L).1.length ≤ 5000 := by
  unfold linesS
  split
  · simp
  · split
    · simp
    · split
      · simp
      · simp only; omega

set_option maxRecDepth 50000 in
set_option maxHeartbeats 1600000 in
theorem lawlines_any (s : ByteArray) (w : World) : Calls Tryd.prog 26 #[.string s] w fun e w' => e = .returned (.bool true) ∧ Below w.heap.size w w' := by
  obtain ⟨L, hL⟩ : ∃ L, (linesS s.data.toList).1 = L := ⟨_, rfl⟩
  obtain ⟨e0, he0⟩ : ∃ e0, (linesS s.data.toList).2 = e0 := ⟨_, rfl⟩
  have hLl : L.length ≤ 5000 := by rw [← hL]; exact linesS_len _
  obtain ⟨n, hn⟩ : ∃ n, L.length = n := ⟨_, rfl⟩
  rw [hn] at hLl
  have KV : Hid (∀ W e w1, LnV s.data.toList W e w1 → ∃ a c, e = .returned (.tuple #[.slice a n c, .int .i64 e0]) ∧ Hid (StrsAt w1 (.slice a n c) L) ∧ Below W.heap.size W w1) := Lib.hid fun W e w1 ⟨v, h1, h2, h3⟩ => by
    rw [he0] at h1
    rw [hL] at h2
    obtain ⟨a, c, rfl⟩ := strsAt_shape h2
    rw [hn] at h1 h2
    exact ⟨a, c, h1, Lib.hid h2, h3⟩
  have HN := Lib.hid hn
  have C1 := Lib.hid (lines_any s w)
  have C2 : Hid (∀ W, Calls Tryd.prog 50 #[.string s] W (LnV s.data.toList W)) := Lib.hid fun W => rlines_any s W
  clear hn hL he0
  go_enter Tryd.func26, Tryd.ntmps26
  go_wp2_with fail
  refine C1.out.mono ?_
  intro e w1 hsp
  obtain ⟨a1, c1, rfl, HF1, hb1⟩ := KV.out _ _ _ hsp
  clear hsp
  go_wp2_with fail
  refine (C2.out _).mono ?_
  intro e w2 hsp
  obtain ⟨a2, c2, rfl, HF2, hb2⟩ := KV.out _ _ _ hsp
  clear hsp
  have hB2 := hb1.trans (hb2.mono hb1.size)
  have HF3 := Lib.hid (HF1.out.below hb2 (Nat.le_refl _))
  clear HF1
  go_wp2_with fail
  -- MARK1
  go_loopw [7] (fun x7 wr => ∃ k : Nat, x7 = .int .i64 k ∧ k ≤ n ∧ Below w2.heap.size w2 wr) (fun x7 _ => n - (intOf x7).toNat)
  case atStart => exact ⟨0, rfl, Nat.zero_le _, Below.refl _ _⟩
  case round =>
    obtain ⟨k, rfl, hk, hbr⟩ := hrel
    by_cases hlt : k < n
    · obtain ⟨x, hx⟩ : ∃ x, L[k]? = some x := ⟨_, List.getElem?_eq_getElem (by rw [HN.out]; exact hlt)⟩
      rcases HF3.out with ⟨_, hnil⟩ | ⟨g1, o1, p1, hv1, hg1, hcell1⟩
      · rw [hnil] at hx; cases hx
      rcases HF2.out with ⟨_, hnil⟩ | ⟨g2, o2, p2, hv2, hg2, hcell2⟩
      · rw [hnil] at hx; cases hx
      have d1 : wr.cell? ⟨g1, o1 + k, none⟩ = some (.string (str x)) := (hbr.cell (p := ⟨g1, o1 + k, none⟩) hg1).trans (hcell1 _ _ (stc_at hx))
      have d2 : wr.cell? ⟨g2, o2 + k, none⟩ = some (.string (str x)) := (hbr.cell (p := ⟨g2, o2 + k, none⟩) hg2).trans (hcell2 _ _ (stc_at hx))
      obtain ⟨rfl, _, rfl⟩ := Value.slice.inj hv1
      obtain ⟨rfl, _, rfl⟩ := Value.slice.inj hv2
      have hk0 : (0 : Int) ≤ (k : Int) := Int.natCast_nonneg _
      have hk1 : (k : Int) < (n : Int) := by omega
      obtain ⟨S, hS⟩ : ∃ S, str x = S := ⟨_, rfl⟩
      rw [hS] at d1 d2
      clear hcell1 hcell2 hv1 hv2 hx hS
      -- MARK2
      go_wp2_with fail
      go_quiet (fail)
      go_wp2_with fail
      -- MARK3
      exact ⟨⟨k + 1, by go_num, by omega, ⟨hbr.os, hbr.tape, hbr.output, hbr.size, hbr.block⟩⟩, by simp [intOf]; omega⟩
    · obtain rfl : k = n := by omega
      go_wp2_with fail
      go_ret
      exact ⟨rfl, hB2.trans (hbr.mono hB2.size)⟩
end Go.Proofs.YtnajkkbcfebegaaDoor
