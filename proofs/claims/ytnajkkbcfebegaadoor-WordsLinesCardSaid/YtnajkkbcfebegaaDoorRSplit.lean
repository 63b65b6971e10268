/- The reference's Split. -/
import Derived.Test.YtnajkkbcfebegaaDoorRBare
import Derived.Test.YtnajkkbcfebegaaDoorUnq2
import Derived.Deep.DeepCutAuto
import Derived.Deep.CutBlock
import Derived.Deep.LoopGhost
import Derived.Deep.AppendLies
namespace Go.Proofs.YtnajkkbcfebegaaDoor
open Go.RowKit Go.PlainAid

theorem fld_box {W : World} {n : Nat} {x y : Value} {t : TypeId} (h : W.heap[n]? = some (.cells #[x, y] t (0, 0))) : W.cell? ⟨n, 0, none⟩ = some x ∧ W.cell? ⟨n, 1, none⟩ = some y ∧ W.frozen? ⟨n, 0, none⟩ = false ∧ W.frozen? ⟨n, 1, none⟩ = false := by
  refine ⟨?_, ?_, ?_, ?_⟩ <;> simp [World.cell?, World.frozen?, h]
theorem own_lenF {w : World} {B n z : Nat} {e : TypeId} {v : Value} {xs : List Value} (h : w.ownsRow B e z v n xs) : ∃ a c, v = .slice a n c := by
  rcases h.2 with ⟨rfl, rfl⟩ | ⟨g, cap, cur, rfl, _⟩
  · exact ⟨_, _, rfl⟩
  · exact ⟨_, _, rfl⟩
theorem int_vF {a b : Int} (h : a = b) : Value.int .i64 a = .int .i64 b := by rw [h]
/-- Whether one is too long. -/
def anyLong (pre : List Yld) : Bool := pre.any fun y => decide (2000 < y.1.length)
theorem anyLong_app (pre : List Yld) (y : Yld) : anyLong (pre ++ [y]) = (anyLong pre || decide (2000 < y.1.length)) := by
  unfold anyLong; rw [List.any_append]; simp
theorem split_bad {L : List UInt8} {pre : List Yld} (h : L.length ≤ 8192) (hf : fldsOf L = pre ++ [bad]) : splitS L = ([], 6) := by
  unfold splitS
  rw [if_neg (by omega), if_pos]
  rw [hf, List.any_append]; simp [bad]
theorem split_end {L : List UInt8} {pre : List Yld} (h : L.length ≤ 8192) (hf : fldsOf L = pre) (hall : ∀ y ∈ pre, y.2.2 = true) :
    splitS L = if (anyLong pre || decide (64 < pre.length)) = true then ([], 3) else (pre.map fldOf, 0) := by
  have hany : (fldsOf L).any (fun y => !y.2.2) = false := by
    rw [hf, List.any_eq_false]; intro y hy; rw [hall y hy]; simp
  have ht : tooL (pre.map fldOf) = (anyLong pre || decide (64 < pre.length)) := by
    unfold tooL anyLong
    rw [List.length_map, List.any_map, Bool.or_comm]; rfl
  unfold splitS
  rw [if_neg (by omega), if_neg (by rw [hany]; simp), hf, ht]
theorem seg_at {s : ByteArray} {p n : Nat} (hn : n = (segT s.data.toList p).length) : s.extract p (p + n) = str (segT s.data.toList p) := by
  rw [← str_data (s.extract p (p + n)), Lib.extract_data]
  congr 1
  rw [show p + n - p = n by omega, hn]
  exact (List.prefix_iff_eq_take.1 (List.takeWhile_prefix _)).symm
/-- How far the segment reaches. -/
def SegTo (s : ByteArray) (p n : Nat) : Prop := n ≤ (segT s.data.toList p).length
theorem seg_step {s : ByteArray} {p n : Nat} (h : SegTo s p n) (hlt : p + n < s.size) : (bt s (p + n) ≠ 32 → SegTo s p (n + 1)) ∧ (bt s (p + n) = 32 → n = (segT s.data.toList p).length) := by
  have hl : p + n < s.data.toList.length := by rw [len_list]; exact hlt
  have hb := bt_list s (p + n) hlt
  have hx : (s.data.toList.drop p)[n]? = some (s.data.toList[p + n]) := by rw [List.getElem?_drop, List.getElem?_eq_getElem hl]
  unfold SegTo at *
  constructor
  · intro hne
    rcases Nat.lt_or_ge n (segT s.data.toList p).length with h1 | h1
    · omega
    · exfalso
      obtain rfl : n = (segT s.data.toList p).length := by omega
      rcases tw_next (s.data.toList.drop p) with h2 | h2
      · have := (List.getElem?_eq_some_iff.1 hx).1
        unfold segT at this
        omega
      · unfold segT at hx
        rw [hx] at h2
        apply hne
        have h5 : s.data.toList[p + (segT s.data.toList p).length] = 32 := Option.some.inj h2
        rw [hb, h5]; rfl
  · intro he
    rcases Nat.lt_or_ge n (segT s.data.toList p).length with h1 | h1
    · exfalso
      have h2 : (segT s.data.toList p)[n]? = some (s.data.toList[p + n]) := by
        have := List.prefix_iff_eq_take.1 (List.takeWhile_prefix (fun c : UInt8 => !(c == 32)) (l := s.data.toList.drop p))
        show (List.takeWhile _ _)[n]? = _
        rw [this, List.getElem?_take]
        split
        · exact hx
        · rename_i hq; exact absurd h1 hq
      have h3 := List.mem_of_getElem? h2
      have h4 : (!(s.data.toList[p + n] == 32)) = true := List.all_eq_true.1 (List.all_takeWhile (p := fun c : UInt8 => !(c == 32)) (l := s.data.toList.drop p)) _ h3
      rw [hb] at he
      have : s.data.toList[p + n] = 32 := by apply UInt8.toNat_inj.1; have : (32 : UInt8).toNat = 32 := rfl; omega
      rw [this] at h4; cases h4
    · omega
theorem seg_end {s : ByteArray} {p n : Nat} (h : SegTo s p n) (hp : p ≤ s.size) (hlt : ¬ p + n < s.size) : n = (segT s.data.toList p).length := by
  have := seg_le s.data.toList p
  rw [len_list] at this
  unfold SegTo at h; omega
theorem seg_to {s : ByteArray} {p n : Nat} (h : SegTo s p n) (hp : p ≤ s.size) : p + n ≤ s.size := by
  have := seg_le s.data.toList p
  rw [len_list] at this
  unfold SegTo at h; omega

set_option maxRecDepth 100000 in
set_option maxHeartbeats 12800000 in
theorem rsplit_in (s : ByteArray) (w : World) (hs : s.size ≤ 8192) (h0 : 0 < s.size) : Calls Tryd.prog 21 #[.string s] w (SplitV s w) := by
  obtain ⟨i0, hi, hj0, hj1, hj2⟩ := info_parts2 infoF
  have hb := get_bt s
  have CQ : Hid (∀ (p : Nat) W, p ≤ s.size → Calls Tryd.prog 38 #[.string (s.extract p s.size)] W fun e w' => (∃ S m, quoS (s.data.toList.drop p) 0 = some (S, m) ∧ e = .returned (.tuple #[.string (str S), .int .i64 (m : Int)]) ∧ Below W.heap.size W w') ∨
      (quoS (s.data.toList.drop p) 0 = none ∧ e = .returned (.tuple #[.string (str []), .int .i64 0]) ∧ Below W.heap.size W w')) := Lib.hid fun p W hp => by
    refine (rquoted_any (s.extract p s.size) W (by rw [ByteArray.size_extract]; omega)).mono ?_
    rintro e w' ⟨h1, h2⟩
    have hd : (s.extract p s.size).data.toList = s.data.toList.drop p := by rw [Lib.extract_to_end]
    rw [hd] at h1
    cases hq : quoS (s.data.toList.drop p) 0 with
    | none => rw [hq] at h1; exact .inr ⟨rfl, h1, h2⟩
    | some x => obtain ⟨S, m⟩ := x; rw [hq] at h1; exact .inl ⟨S, m, rfl, h1, h2⟩
  have HL : Hid (s.data.toList.length = s.size) := Lib.hid (len_list s)
  have hd1 : decide ((8192 : Int) < (s.size : Int)) = false := decide_eq_false (by omega)
  have he := empty_no h0
  have HNE : Hid (s.data.toList ≠ []) := Lib.hid (fun e => by have := len_list s; rw [e] at this; simp at this; omega)
  go_enter Tryd.func21, Tryd.ntmps21
  go_wp2_with fail
  clear hd1 he
  -- MARK1
  go_loopw [4, 5, 6] (fun x4 x5 x6 wr => ∃ (p : Nat) (pre : List Yld), x6 = .int .i64 p ∧ p ≤ s.size ∧ x5 = .bool (anyLong pre) ∧ pre.length ≤ p ∧ Hid (Left s.data.toList pre p) ∧ Hid (∀ y ∈ pre, y.2.2 = true) ∧ Hid (wr.ownsRow w.heap.size 43 2 x4 pre.length (fcs (pre.map fldOf))) ∧ Below w.heap.size w wr) (fun _ _ x6 _ => s.size - (intOf x6).toNat)
  case atStart => exact ⟨0, [], rfl, Nat.zero_le _, rfl, Nat.le_refl _, Lib.hid (left_start HNE.out), Lib.hid (fun y h => by cases h), Lib.hid ⟨rfl, .inl ⟨rfl, rfl⟩⟩, Below.refl _ _⟩
  case round =>
    obtain ⟨p, pre, rfl, hp, rfl, hpl, HLF, HOK, HO, hB⟩ := hrel
    obtain ⟨lg, hlg⟩ : ∃ lg, anyLong pre = lg := ⟨_, rfl⟩
    rw [hlg]
    have HLG := Lib.hid hlg
    clear hlg
    obtain ⟨k, hk⟩ : ∃ k, pre.length = k := ⟨_, rfl⟩
    rw [hk] at hpl HO
    have HK := Lib.hid hk
    clear hk
    obtain ⟨sa, sc, rfl⟩ := own_lenF HO.out
    have hp0 : (0 : Int) ≤ (p : Int) := Int.natCast_nonneg _
    have hp1 : (p : Int) ≤ (s.size : Int) := by omega
    go_wp2_with fail
    refine (CQ.out p _ hp).mono ?_
    intro e w1 hor
    obtain ⟨S0, n0, HE0, hb1, hcase⟩ : ∃ (S0 : List UInt8) (n0 : Nat), Hid (e = .returned (.tuple #[.string (str S0), .int .i64 (n0 : Int)])) ∧ Below wr.heap.size wr w1 ∧ ((1 ≤ n0 ∧ quoS (s.data.toList.drop p) 0 = some (S0, n0)) ∨ (n0 = 0 ∧ quoS (s.data.toList.drop p) 0 = none)) := by
      rcases hor with ⟨S, m, h1, h2, h3⟩ | ⟨h1, h2, h3⟩
      · exact ⟨S, m, Lib.hid h2, h3, .inl ⟨by have := (field_quo h1).2.1; omega, h1⟩⟩
      · exact ⟨[], 0, Lib.hid h2, h3, .inr ⟨rfl, h1⟩⟩
    obtain rfl := HE0.out
    clear hor HE0
    have hB1 := hB.trans (hb1.mono hB.size)
    have HO1 := Lib.hid (own_below HO.out hb1)
    obtain ⟨W2, hW2⟩ : ∃ W2, W2 = w1.alloc (.cells #[.string (str S0), .bool true] 43) := ⟨_, rfl⟩
    have hz2 : W2.heap[w1.heap.size]? = some (.cells #[.string (str S0), .bool true] 43 (0, 0)) := by subst hW2; exact World.alloc_heap_new _ _
    have hB2 : Below w1.heap.size w1 W2 := by subst hW2; exact (Below.refl _ _).alloc (Nat.le_refl _) _
    go_upto_if 25 with fail
    rw [← hW2]
    clear hW2 HO
    go_cut [8] (fun s8 wx => ∃ (S : List UInt8) (Q : Bool) (n : Nat), s8 = .int .i64 n ∧ 1 ≤ n ∧ p + n ≤ s.size ∧ Hid (fieldAt s.data.toList p = some (S, Q, p + n)) ∧ wx.heap[w1.heap.size]? = some (.cells #[.string (str S), .bool Q] 43 (0, 0)) ∧ Below w1.heap.size w1 wx)
    case first =>
      rcases hcase with ⟨hn1, hq⟩ | ⟨rfl, hq⟩
      · have hf := field_quo hq
        rw [HL.out] at hf
        have HF := Lib.hid hf.1
        have hle := hf.2.2
        have hne : ((n0 : Int) == 0) = false := by rw [beq_eq_false_iff_ne]; omega
        clear hf hq
        go_wp2_with fail
        go_meet
        exact ⟨S0, true, n0, rfl, hn1, hle, HF, hz2, hB2⟩
      · have HQ := Lib.hid hq
        clear hq
        go_wp2_with fail
        -- MARK3
        go_loopw [8] (fun x8 wx => ∃ n : Nat, x8 = .int .i64 n ∧ n ≤ s.size ∧ Hid (SegTo s p n) ∧ Below W2.heap.size W2 wx) (fun x8 _ => s.size - (intOf x8).toNat)
        case atStart => exact ⟨0, rfl, Nat.zero_le _, Lib.hid (Nat.zero_le _), Below.refl _ _⟩
        case round =>
          obtain ⟨n, rfl, hn, HSG, hE⟩ := hrel
          have hpn := seg_to HSG.out hp
          have hz3 := (hE.block _ (Array.getElem?_eq_some_iff.1 hz2).1).trans hz2
          obtain ⟨b0, b1, b2, b3⟩ := fld_box hz3
          have hnn : (0 : Int) ≤ (n : Int) := Int.natCast_nonneg _
          by_cases hgo : p + n < s.size ∧ bt s (p + n) ≠ 32
          · obtain ⟨hlt, hne⟩ := hgo
            have HSG' := Lib.hid ((seg_step HSG.out hlt).1 hne)
            have hlt' : (p : Int) + (n : Int) < (s.size : Int) := by omega
            have hc : (bt s (p + n) != 32) = true := by rw [bne_iff_ne]; exact hne
            clear hne hz3 b0 b1 b2 b3
            go_wp2_with fail
            -- MARK4
            exact ⟨⟨n + 1, int_vF (by omega), by omega, HSG', hE⟩, by simp [intOf]; omega⟩
          · have hnl : n = (segT s.data.toList p).length := by
              by_cases hlt : p + n < s.size
              · exact (seg_step HSG.out hlt).2 (Classical.byContradiction fun e => hgo ⟨hlt, e⟩)
              · exact seg_end HSG.out hp hlt
            have HSL := Lib.hid hnl
            have hex := seg_at hnl
            have HBR : Hid (bareL (s.extract p (p + n)).data.toList = bareL (segT s.data.toList p)) := Lib.hid (by rw [hex]; rfl)
            have HEX := Lib.hid hex
            have hq1 : (p : Int) ≤ (p : Int) + (n : Int) := by omega
            have hq2 : (p : Int) + (n : Int) ≤ (s.size : Int) := by omega
            have hBf0 : Below w1.heap.size w1 wr := hB2.trans (hE.mono hB2.size)
            have hzf : ((wr.setCell ⟨w1.heap.size, 0, none⟩ (.string (s.extract p (p + n)))).setCell ⟨w1.heap.size, 1, none⟩ (.bool false)).heap[w1.heap.size]? = some (.cells #[.string (str (segT s.data.toList p)), .bool false] 43 (0, 0)) := by
              rw [← hex]
              exact set_block _ (set_block _ hz3)
            have hBf : Below w1.heap.size w1 ((wr.setCell ⟨w1.heap.size, 0, none⟩ (.string (s.extract p (p + n)))).setCell ⟨w1.heap.size, 1, none⟩ (.bool false)) := (hBf0.setCell (Nat.le_refl _) _).setCell (Nat.le_refl _) _
            have hBfin := hB1.trans (hBf.mono hB1.size)
            clear hnl hex
            by_cases hlt : p + n < s.size
            · have hlt' : (p : Int) + (n : Int) < (s.size : Int) := by omega
              have h32 : bt s (p + n) = 32 := Classical.byContradiction fun e => hgo ⟨hlt, e⟩
              have hc : (bt s (p + n) != 32) = false := by rw [h32]; rfl
              clear hgo h32 hz3
              go_wp2_with fail
              -- MARK5
              refine (rbare_any (s.extract p (p + n)) _ (by rw [ByteArray.size_extract]; omega)).mono ?_
              rintro e w4 ⟨rfl, rfl⟩
              rw [HBR.out]
              cases hbl : bareL (segT s.data.toList p) with
              | false =>
                have HV : Hid (splitS s.data.toList = ([], 6)) := Lib.hid (split_bad (by rw [HL.out]; exact hs) (left_bad HLF.out (by rw [HL.out]; exact hp) (field_none HQ.out hbl)))
                clear hbl
                go_wp2_with fail
                go_returns
                exact ⟨_, by rw [HV.out]; rfl, by rw [HV.out]; exact ⟨rfl, .inl ⟨rfl, rfl⟩⟩, hBfin⟩
              | true =>
                have hne : 1 ≤ n := by
                  rw [HSL.out]
                  unfold bareL at hbl
                  rw [Bool.and_eq_true] at hbl
                  cases hq : segT s.data.toList p with
                  | nil => rw [hq] at hbl; exact absurd hbl.1 (by simp)
                  | cons c t => simp
                have HF : Hid (fieldAt s.data.toList p = some (segT s.data.toList p, false, p + n)) := Lib.hid (by
                  rw [HSL.out]; exact (field_bare hbl).1)
                clear hbl
                go_wp2_with fail
                go_meet
                exact ⟨_, false, n, rfl, hne, hpn, HF, hzf, hBf⟩

            · have hlt' : ¬ (p : Int) + (n : Int) < (s.size : Int) := by omega
              clear hgo hz3
              go_wp2_with fail
              refine (rbare_any (s.extract p (p + n)) _ (by rw [ByteArray.size_extract]; omega)).mono ?_
              rintro e w4 ⟨rfl, rfl⟩
              rw [HBR.out]
              cases hbl : bareL (segT s.data.toList p) with
              | false =>
                have HV : Hid (splitS s.data.toList = ([], 6)) := Lib.hid (split_bad (by rw [HL.out]; exact hs) (left_bad HLF.out (by rw [HL.out]; exact hp) (field_none HQ.out hbl)))
                clear hbl
                go_wp2_with fail
                go_returns
                exact ⟨_, by rw [HV.out]; rfl, by rw [HV.out]; exact ⟨rfl, .inl ⟨rfl, rfl⟩⟩, hBfin⟩
              | true =>
                have hne : 1 ≤ n := by
                  rw [HSL.out]
                  unfold bareL at hbl
                  rw [Bool.and_eq_true] at hbl
                  cases hq : segT s.data.toList p with
                  | nil => rw [hq] at hbl; exact absurd hbl.1 (by simp)
                  | cons c t => simp
                have HF : Hid (fieldAt s.data.toList p = some (segT s.data.toList p, false, p + n)) := Lib.hid (by
                  rw [HSL.out]; exact (field_bare hbl).1)
                clear hbl
                go_wp2_with fail
                go_meet
                exact ⟨_, false, n, rfl, hne, hpn, HF, hzf, hBf⟩

    case rest =>
      obtain ⟨S, Q, n, rfl, hn1, hpn, HF, hz, hBx⟩ := hcut
      obtain ⟨wo, hwo⟩ : ∃ x, x = wc := ⟨_, rfl⟩
      subst hwo
      have HO3 := Lib.hid (own_below HO1.out hBx)
      have hrow : ∀ g, (Value.slice sa k sc).ownBlock = some g → w.heap.size ≤ g ∧ g < w1.heap.size := fun g hg => HO1.out.lt g hg
      have HRW := Lib.hid hrow
      obtain ⟨b0, b1, b2, b3⟩ := fld_box hz
      have hB3 := hB1.trans (hBx.mono hB1.size)
      obtain ⟨z, hz'⟩ : ∃ z, (str S).size = z := ⟨_, rfl⟩
      have HZS : Hid (S.length = z) := Lib.hid (by rw [← hz', str_size])
      clear hrow hcase hz2 hB2
      -- MARK6
      go_upto_region 17 with (at_builtin; refine wpList_append_lies _ rfl _ _ 32 rfl w.heap.size 43 i0 (.agg #[.string ⟨#[]⟩, .bool false]) 2 24 Tryd.underlying32 hi hj0 hj1 hj2 rfl (by decide) _ _ _ rfl (HO3.out.alloc _) ⟨wo.heap.size, 0, none⟩ 1 1 [.string (str S), .bool Q] rfl rfl (new_cells wo [.string (str S), .bool Q] _) (by simp [Value.oneCell']) (by omega) (by unfold maxLen; omega) (by omega) (by rw [World.size_alloc]; have := hB3.size; omega) (wo.heap.size + 1) (by simp) ?_; intro g1 cap1 w3 hown1 hgrow1 hat1 hlt1; have HB4 : Below w.heap.size w w3 := (hB3.alloc hB3.size _).grown hgrow1 (by rw [World.size_alloc]; have := hB3.size; omega) (fun j hj => (HO3.out.lt j hj).1); have hz4 := (hgrow1.block w1.heap.size (by rw [World.size_alloc]; have := (Array.getElem?_eq_some_iff.1 hz).1; omega) (fun e => by have := (HRW.out _ e.symm).2; omega)).trans ((Below.heap_alloc _ _ _ (Array.getElem?_eq_some_iff.1 hz).1).trans hz); have HO4 := Lib.hid hown1; clear hown1 hgrow1 hat1)
      -- MARK7
      obtain ⟨d0, d1, _, _⟩ := fld_box hz4
      have HO5 : Hid (w3.ownsRow w.heap.size 43 2 (.slice (some ⟨g1, 0, none⟩) (k + 1) cap1) (k + 1) (fcs ((pre ++ [(S, Q, true)]).map fldOf))) := Lib.hid (by
        rw [List.map_append, fcs_app]; exact HO4.out)
      clear HO4 HO3 HO1 hz hz4 b0 b1 b2 b3
      obtain ⟨wx, hwx⟩ : ∃ x, x = w3 := ⟨_, rfl⟩
      subst hwx
      go_cut [5] (fun s5 wx' => s5 = .bool (lg || decide (2000 < z)) ∧ wx' = wx)
      case first =>
        cases lg with
        | true => (go_wp2; go_meet; exact ⟨rfl, rfl⟩)
        | false =>
          by_cases h2 : 2000 < z
          · have h3 : decide ((2000 : Int) < (z : Int)) = true := decide_eq_true (by omega)
            have HD := Lib.hid (decide_eq_true h2)
            clear h2
            go_wp2
            go_meet
            exact ⟨by rw [HD.out]; rfl, rfl⟩
          · have h3 : decide ((2000 : Int) < (z : Int)) = false := decide_eq_false (by omega)
            have HD := Lib.hid (decide_eq_false h2)
            clear h2
            go_wp2
            go_meet
            exact ⟨by rw [HD.out]; rfl, rfl⟩
      case rest =>
        obtain ⟨rfl, rfl⟩ := hcut
        have HLG2 : Hid (anyLong (pre ++ [(S, Q, true)]) = (lg || decide (2000 < z))) := Lib.hid (by
          rw [anyLong_app, HLG.out]; simp only; rw [HZS.out])
        obtain ⟨lg2, hlg2⟩ : ∃ x, (lg || decide (2000 < z)) = x := ⟨_, rfl⟩
        rw [hlg2] at HLG2 ⊢
        have HOK2 : Hid (∀ y ∈ pre ++ [(S, Q, true)], y.2.2 = true) := Lib.hid fun y hy => by
          rcases List.mem_append.1 hy with hy | hy
          · exact HOK.out y hy
          · rw [List.mem_singleton.1 hy]
        clear hlg2 HLG HOK HZS hz' d0 d1
        by_cases hend : p + n = s.size
        · have hq : ((p : Int) + (n : Int) == (s.size : Int)) = true := by rw [beq_iff_eq]; omega
          have HFO : Hid (fldsOf s.data.toList = pre ++ [(S, Q, true)]) := Lib.hid (by
            obtain ⟨rest, h1, h2, _⟩ := left_good HLF.out (by rw [HL.out]; exact hp) HF.out (by omega) (.inl (by rw [HL.out]; omega))
            rw [h2 (by rw [HL.out]; omega)] at h1; exact h1)
          have HV := Lib.hid (split_end (L := s.data.toList) (by rw [HL.out]; exact hs) HFO.out HOK2.out)
          have HLN : Hid ((pre ++ [(S, Q, true)]).length = k + 1) := Lib.hid (by rw [List.length_append, HK.out]; rfl)
          rw [HLG2.out, HLN.out] at HV
          clear hend
          -- MARK8
          cases lg2 with
          | true =>
            go_wp2_with fail
            go_returns
            exact ⟨_, by rw [HV.out]; rfl, by rw [HV.out]; exact ⟨rfl, .inl ⟨rfl, rfl⟩⟩, HB4⟩
          | false =>
            by_cases h64 : 64 < k + 1
            · have hd : decide ((64 : Int) < ((k + 1 : Nat) : Int)) = true := decide_eq_true (by omega)
              have hd' : decide ((64 : Int) < (k : Int) + 1) = true := decide_eq_true (by omega)
              rw [decide_eq_true h64] at HV
              clear h64
              go_wp2_with fail
              go_returns
              exact ⟨_, by rw [HV.out]; rfl, by rw [HV.out]; exact ⟨rfl, .inl ⟨rfl, rfl⟩⟩, HB4⟩
            · have hd : decide ((64 : Int) < ((k + 1 : Nat) : Int)) = false := decide_eq_false (by omega)
              have hd' : decide ((64 : Int) < (k : Int) + 1) = false := decide_eq_false (by omega)
              rw [decide_eq_false h64] at HV
              clear h64
              go_wp2_with fail
              go_returns
              refine ⟨_, by rw [HV.out]; rfl, ?_, HB4⟩
              rw [HV.out]
              simp only [Bool.or_self, Bool.false_eq_true, if_false]
              rw [List.length_map, HLN.out]
              exact HO5.out
        · have hq : ((p : Int) + (n : Int) == (s.size : Int)) = false := by rw [beq_eq_false_iff_ne]; omega
          have hlt : p + n < s.size := by omega
          have hlt' : (p : Int) + (n : Int) < (s.size : Int) := by omega
          have hl : p + n < s.data.toList.length := by rw [HL.out]; exact hlt
          have hbl := bt_list s (p + n) hlt
          by_cases h32 : bt s (p + n) = 32
          · have h32' : s.data.toList[p + n]? = some 32 := by
              rw [List.getElem?_eq_getElem hl]
              congr 1
              apply UInt8.toNat_inj.1
              have h33 : (32 : UInt8).toNat = 32 := rfl
              rw [hbl] at h32; omega
            obtain ⟨rest, h1, h2, h3⟩ := left_good HLF.out (by rw [HL.out]; exact hp) HF.out (by omega) (.inr h32')
            have HLF2 := Lib.hid (h3 hl)
            have hc : (bt s (p + n) != 32) = false := by rw [h32]; rfl
            clear h32 h32' h1 h2 h3 hbl hl hend
            go_wp2_with fail
            -- MARK9
            exact ⟨⟨p + n + 1, pre ++ [(S, Q, true)], int_vF (by omega), by omega, by rw [HLG2.out], by rw [List.length_append, HK.out, List.length_singleton]; omega, HLF2, HOK2, Lib.hid (by rw [List.length_append, HK.out]; exact HO5.out), HB4⟩, by simp [intOf]; omega⟩
          · have HV : Hid (splitS s.data.toList = ([], 6)) := Lib.hid (split_bad (by rw [HL.out]; exact hs) (left_bad HLF.out (by rw [HL.out]; exact hp) (.inr ⟨_, HF.out, hl, by
              simp only
              rw [List.getElem?_eq_getElem hl]
              intro e
              apply h32
              rw [hbl, Option.some.inj e]; rfl⟩)))
            have hc : (bt s (p + n) != 32) = true := by rw [bne_iff_ne]; exact h32
            clear h32 hbl hl hend
            go_wp2_with fail
            go_returns
            exact ⟨_, by rw [HV.out]; rfl, by rw [HV.out]; exact ⟨rfl, .inl ⟨rfl, rfl⟩⟩, HB4⟩
end Go.Proofs.YtnajkkbcfebegaaDoor
