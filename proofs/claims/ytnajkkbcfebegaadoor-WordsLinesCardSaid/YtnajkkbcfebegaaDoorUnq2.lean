/- Contracts of the reference's quoted, and of both Unquote. -/
import Derived.Test.YtnajkkbcfebegaaDoorUnq
namespace Go.Proofs.YtnajkkbcfebegaaDoor
open Go.RowKit Go.PlainAid

theorem escaped_nat (k : Nat) (hk : k < 256) (w : World) :
    Calls Tryd.prog 40 #[.int .u8 (k : Int)] w fun e w' => e = .returned (.string (str (esc (UInt8.ofNat k)))) ∧ Below w.heap.size w w' := by
  have h := escaped_any (UInt8.ofNat k) w
  have e : (UInt8.ofNat k).toNat = k := by simp; omega
  rw [e] at h; exact h

/-- The form of a byte stands at index q. -/
def StandsAt (s : ByteArray) (q : Nat) (c : UInt8) : Prop := ∃ r, s.data.toList.drop q = esc c ++ r
theorem stands_len {s : ByteArray} {q : Nat} {c : UInt8} (h : StandsAt s q c) (hq : q ≤ s.size) : q + (esc c).length ≤ s.size := by
  obtain ⟨r, h⟩ := h
  have e := congrArg List.length h
  simp only [List.length_drop, List.length_append] at e
  have : s.data.toList.length = s.size := by simp
  omega
theorem piece_data (s : ByteArray) (q n : Nat) : (s.extract q (q + n)).toList = (s.data.toList.drop q).take n := by
  rw [ByteArray.toList_eq, Lib.extract_data]; congr 1; omega
theorem stands_yes {s : ByteArray} {q : Nat} {c : UInt8} (h : StandsAt s q c) : ((s.extract q (q + (str (esc c)).size)).toList == (str (esc c)).toList) = true := by
  obtain ⟨r, h⟩ := h
  rw [piece_data, h, str_size, ByteArray.toList_eq]
  simp [str]
theorem stands_no {s : ByteArray} {q : Nat} {c : UInt8} (h : ¬ StandsAt s q c) : ((s.extract q (q + (str (esc c)).size)).toList == (str (esc c)).toList) = false := by
  rw [piece_data, str_size, ByteArray.toList_eq, beq_eq_false_iff_ne]
  intro e
  apply h
  refine ⟨(s.data.toList.drop q).drop (esc c).length, ?_⟩
  have e' : (s.data.toList.drop q).take (esc c).length = esc c := e
  conv => lhs; rw [← List.take_append_drop (esc c).length (s.data.toList.drop q)]
  rw [e']
theorem stands_rd {s : ByteArray} {q : Nat} {c : UInt8} (h : StandsAt s q c) : rd (s.data.toList.drop q) = some (c, (esc c).length) := by
  obtain ⟨r, h⟩ := h; rw [h]; exact rd_esc c r

/-- What the reference's quoted returns. -/
def RQuo (s : ByteArray) (w : World) (e : Ending) (w' : World) : Prop :=
  e = .returned (match quoS s.data.toList 0 with
   | some x => .tuple #[.string (str x.1), .int .i64 (x.2 : Int)]
   | none => .tuple #[.string (str []), .int .i64 0]) ∧ Below w.heap.size w w'
theorem rquo_no {s : ByteArray} {w w' : World} {t : ByteArray} (h : quoS s.data.toList 0 = none) (ht : t = str []) (hb : Below w.heap.size w w') :
    RQuo s w (.returned (.tuple #[.string t, .int .i64 0])) w' := by unfold RQuo; rw [h, ht]; exact ⟨rfl, hb⟩
theorem rquo_yes {s : ByteArray} {n : Nat} {w w' : World} {b : List UInt8} {m : Int} (h : quoS s.data.toList 0 = some (b, n)) (hm : (n : Int) = m) (hb : Below w.heap.size w w') :
    RQuo s w (.returned (.tuple #[.string (str b), .int .i64 m])) w' := by unfold RQuo; rw [h, ← hm]; exact ⟨rfl, hb⟩

set_option maxHeartbeats 3200000 in
set_option maxRecDepth 20000 in
theorem rquoted_any (s : ByteArray) (w : World) (hs : s.size ≤ 1000000000) :
    Calls Tryd.prog 38 #[.string s] w (RQuo s w) := by
  obtain ⟨i0, hi, hz0, hz1, hz2⟩ := info_parts info5
  have hb := get_bt s
  by_cases hpe : s.size = 0
  · have HV := Lib.hid (quoS_end (l := s.data.toList) (p := 0) (by rw [len_list]; omega))
    have hpi : ((s.size : Int) == 0) = true := by rw [beq_iff_eq]; omega
    clear hpe
    go_enter Tryd.func38, Tryd.ntmps38
    go_wp2
    go_ret2
    exact rquo_no HV.out rfl (Below.refl _ _)
  · have hlt : 0 < s.size := by omega
    have hpi : ((s.size : Int) == 0) = false := beq_eq_false_iff_ne.mpr (by omega)
    clear hpe
    have hl : 0 < s.data.toList.length := by simpa using hlt
    have hbp := bt_list s 0 hlt
    by_cases h34 : bt s 0 = 34
    · have HV := Lib.hid (quoS_open hl (u8_of (by rw [← hbp]; exact h34) rfl))
      obtain ⟨B, hB⟩ : ∃ B, B = w.heap.size := ⟨_, rfl⟩
      have HW := Lib.hid hB
      have hbe : Below B w w := Below.refl _ _
      have hsz : Hid (B ≤ w.heap.size) := Lib.hid (by omega)
      have hn : (bt s 0 != 34) = false := by simp [h34]
      clear hB hl hbp h34
      go_enter Tryd.func38, Tryd.ntmps38
      go_wp2
      go_loopw [4, 5] (fun v i wr => ∃ (q : Nat) (b : List UInt8), q ≤ s.size ∧ i = .int .i64 q ∧ Hid (b.length ≤ q) ∧ Hid (QuoAt s.data.toList 0 b q) ∧ wr.ownsRow B 5 1 v b.length (b.map bc) ∧ Below B w wr ∧ Hid (B ≤ wr.heap.size)) (fun _ i _ => s.size - (intOf i).toNat)
      case atStart => exact ⟨1, [], by omega, by go_num, Lib.hid (by simp), Lib.hid (QuoAt.start _ _), World.ownsRow_nil _ _ _ _, hbe, hsz⟩
      case round =>
        clear hbe hsz
        obtain ⟨q, b, hq, rfl, hbl, hqa, hown, hbel, hsz⟩ := hrel
        by_cases hqe : s.size ≤ q
        · have hne : ((q : Int) == (s.size : Int)) = true := by rw [beq_iff_eq]; omega
          go_wp2
          all_goals go_ret2
          all_goals exact rquo_no (HV.out.trans (hqa.out.over (by simpa using hqe))) rfl (by rw [← HW.out]; exact hbel)
        · have hqlt : q < s.size := by omega
          clear hqe
          have hql : q < s.data.toList.length := by simpa using hqlt
          have HQ := Lib.hid hql
          have hbq := bt_list s q hqlt
          by_cases h34 : bt s q = 34
          · have HD := Lib.hid (HV.out.trans (hqa.out.done hql (u8_of (by rw [← hbq]; exact h34) rfl)))
            have hn : (bt s q != 34) = false := by simp [h34]
            have hcv := conv_own Tryd.underlying38 Tryd.underlying5 hown 9 Tryd.underlying9
            have hne : ((q : Int) == (s.size : Int)) = false := beq_eq_false_iff_ne.mpr (by omega)
            clear hql hbq h34
            go_wp2
            all_goals go_ret2
            all_goals exact rquo_yes HD.out (by omega) (by rw [← HW.out]; exact hbel)
          · have hn : (bt s q != 34) = true := by simpa using h34
            have H34 : Hid (s.data.toList[q] ≠ 34) := Lib.hid (fun e => h34 (hbq.trans (congrArg (fun x : UInt8 => (x.toNat : Int)) e)))
            clear hbq h34
            cases hr : rd (s.data.toList.drop q) with
            | none =>
              have HF := Lib.hid (HV.out.trans (hqa.out.fails hql H34.out hr))
              have HR : Hid (∀ c, ¬ StandsAt s q c) := Lib.hid (fun c h => by rw [stands_rd h] at hr; cases hr)
              clear hql hr
              go_wp2_with fail
              obtain ⟨wo, hwo⟩ : ∃ wo : World, wo = wr := ⟨_, rfl⟩
              rw [← hwo] at hown hbel hsz ⊢
              clear hwo
              go_loopw [4, 5, 6, 7] (fun v i f c wr => ∃ k : Nat, k ≤ 256 ∧ v = u4 ∧ i = .int .i64 q ∧ f = .bool false ∧ c = .int .i64 k ∧ Below B w wr ∧ Hid (B ≤ wr.heap.size)) (fun _ _ _ c _ => 256 - (intOf c).toNat)
              case atStart => exact ⟨0, by omega, rfl, rfl, rfl, rfl, hbel, hsz⟩
              case round =>
                clear hbel hsz hown
                obtain ⟨k, hk, rfl, rfl, rfl, rfl, hbel, hsz⟩ := hrel
                by_cases hk2 : k < 256
                · have hki : (k : Int) < 256 := by omega
                  obtain ⟨t, ht⟩ : ∃ t, str (esc (UInt8.ofNat k)) = t := ⟨_, rfl⟩
                  have hcmp := stands_no (HR.out (UInt8.ofNat k))
                  have ht4 : t.size ≤ 4 := by rw [← ht, str_size]; exact esc_len _
                  rw [ht] at hcmp
                  go_wp2_with (go_at_call 40; refine (escaped_nat _ hk2 _).mono ?_; rintro e w1 ⟨rfl, hb1⟩)
                  all_goals
                    go_roundw
                    case rel => exact ⟨k + 1, by omega, rfl, rfl, rfl, by go_num, hbel.trans (hb1.mono hsz.out), Lib.hid (by have := hb1.size; have := hsz.out; omega)⟩
                    case measure => simp [intOf]; omega
                · go_wp2
                  all_goals go_ret2
                  all_goals exact rquo_no HF.out rfl (by rw [← HW.out]; exact hbel)
            | some x =>
              obtain ⟨c, n⟩ := x
              obtain ⟨r, hr1, hr2⟩ := rd_some hr
              have hst : StandsAt s q c := ⟨r, hr1⟩
              have HR : Hid (∀ d, StandsAt s q d → d = c) := Lib.hid (fun d h => by rw [stands_rd h] at hr; cases hr; rfl)
              have hn1 : 1 ≤ n := by rw [hr2]; exact esc_ne c
              have hqn : q + n ≤ s.size := by rw [hr2]; exact stands_len hst hq
              have HN := Lib.hid (hqa.out.next hql H34.out hr hn1)
              have HST := Lib.hid hst
              have HLN := Lib.hid hr2
              clear hql hr hr1 hr2 hst
              go_wp2_with fail
              obtain ⟨wo, hwo⟩ : ∃ wo : World, wo = wr := ⟨_, rfl⟩
              rw [← hwo] at hown hbel hsz ⊢
              have HWO := Lib.hid hwo
              clear hwo
              go_loopw [4, 5, 6, 7] (fun v i f x wr => (∃ k : Nat, k ≤ c.toNat ∧ v = u4 ∧ i = .int .i64 q ∧ f = .bool false ∧ x = .int .i64 k ∧ wr.ownsRow B 5 1 u4 b.length (b.map bc) ∧ Below B w wr ∧ Hid (B ≤ wr.heap.size)) ∨
                (i = .int .i64 ((q : Int) + (n : Int)) ∧ f = .bool true ∧ x = .int .i64 ((c.toNat : Int) + 1) ∧ wr.ownsRow B 5 1 v (b ++ [c]).length ((b ++ [c]).map bc) ∧ Below B w wr ∧ Hid (B ≤ wr.heap.size))) (fun _ _ _ x _ => 257 - (intOf x).toNat)
              case atStart => exact .inl ⟨0, by omega, rfl, rfl, rfl, rfl, hown, hbel, hsz⟩
              case round =>
                clear hbel hsz hown
                have hc256 : c.toNat < 256 := c.toNat_lt
                rcases hrel with ⟨k, hk, rfl, rfl, rfl, rfl, hown, hbel, hsz⟩ | ⟨rfl, rfl, rfl, hown, hbel, hsz⟩
                · have hk2 : k < 256 := by omega
                  have hki : (k : Int) < 256 := by omega
                  obtain ⟨t, ht⟩ : ∃ t, str (esc (UInt8.ofNat k)) = t := ⟨_, rfl⟩
                  have ht4 : t.size ≤ 4 := by rw [← ht, str_size]; exact esc_len _
                  by_cases hkc : k = c.toNat
                  · have e : UInt8.ofNat k = c := by rw [hkc]; simp
                    have hcmp := stands_yes HST.out
                    have htn : (t.size : Int) = n := by rw [← ht, e, HLN.out, str_size]
                    have hle : (t.size : Int) ≤ (s.size : Int) - (q : Int) := by omega
                    rw [← e, ht] at hcmp
                    have HT := Lib.hid htn
                    have HK := Lib.hid hkc
                    clear htn hkc e
                    go_wp2_with (first | (go_at_call 40; refine (escaped_nat _ hk2 _).mono ?_; rintro e w1 ⟨rfl, hb1⟩; have hown1 := own_below hown hb1) | (at_builtin; refine wpList_append_own _ rfl _ _ 38 rfl B 5 i0 (.int .u8 0) 1 1 Tryd.underlying38 hi hz0 hz1 hz2 rfl (by decide) _ _ _ rfl (hown1.alloc _) ⟨w1.heap.size, 0, none⟩ 1 1 [.int .u8 (k : Int)] rfl rfl (new_cells w1 [.int .u8 (k : Int)] _) (one_ints rfl) (by have := hbl.out; unfold maxLen; omega) (by have := hbl.out; omega) (by have := hsz.out; have := hb1.size; simp; omega) ?_; intro v' w2 hown2 hgrow2 _))
                    go_roundw
                    case rel =>
                      refine .inr ⟨by rw [HT.out], rfl, by rw [HK.out], own_app rfl (by rw [HK.out] at hown2; exact hown2), ((hbel.trans (hb1.mono hsz.out)).alloc (by have := hsz.out; have := hb1.size; omega) _).grown hgrow2 (by have := hsz.out; have := hb1.size; simp; omega) (fun k hk => (hown1.lt k hk).1), Lib.hid (by have := hgrow2.size; have := hsz.out; have := hb1.size; simp at *; omega)⟩
                    case measure => simp [intOf]; omega
                  · have hcmp := stands_no (fun h => hkc (by have := HR.out _ h; rw [← this]; simp; omega) : ¬ StandsAt s q (UInt8.ofNat k))
                    rw [ht] at hcmp
                    have hklt : k < c.toNat := by omega
                    clear hkc
                    go_wp2_with (go_at_call 40; refine (escaped_nat _ hk2 _).mono ?_; rintro e w1 ⟨rfl, hb1⟩)
                    all_goals
                      go_roundw
                      case rel => exact .inl ⟨k + 1, by omega, rfl, rfl, rfl, by go_num, own_below hown hb1, hbel.trans (hb1.mono hsz.out), Lib.hid (by have := hb1.size; have := hsz.out; omega)⟩
                      case measure => simp [intOf]; omega
                · go_wp2
                  all_goals
                    go_roundw
                    case rel => exact ⟨q + n, b ++ [c], hqn, by go_num, Lib.hid (by have := hbl.out; simp; omega), HN, hown, hbel, hsz⟩
                    case measure => simp [intOf]; omega
    · have HV := Lib.hid (quoS_not hl (fun e => h34 (hbp.trans (congrArg (fun x : UInt8 => (x.toNat : Int)) e))))
      have hn : (bt s 0 != 34) = true := by simpa using h34
      clear hl hbp h34
      go_enter Tryd.func38, Tryd.ntmps38
      go_wp2
      all_goals go_ret2
      all_goals exact rquo_no HV.out rfl (Below.refl _ _)

/-- The string that a quoted form stands for. -/
def unqS (s : ByteArray) : Option (List UInt8) := match quoS s.data.toList 0 with
  | some x => if x.2 = s.size then some x.1 else none
  | none => none
def UnqV (s : ByteArray) (w : World) (e : Ending) (w' : World) : Prop :=
  e = .returned (match unqS s with
   | some l => .tuple #[.string (str l), .int .i64 0]
   | none => .tuple #[.string (str []), .int .i64 6]) ∧ Below w.heap.size w w'
theorem unqV_no {s : ByteArray} {w w' : World} {t : ByteArray} (h : unqS s = none) (ht : t = str []) (hb : Below w.heap.size w w') :
    UnqV s w (.returned (.tuple #[.string t, .int .i64 6])) w' := by unfold UnqV; rw [h, ht]; exact ⟨rfl, hb⟩
theorem unqV_yes {s : ByteArray} {w w' : World} {b : List UInt8} (h : unqS s = some b) (hb : Below w.heap.size w w') :
    UnqV s w (.returned (.tuple #[.string (str b), .int .i64 0])) w' := by unfold UnqV; rw [h]; exact ⟨rfl, hb⟩
theorem unqS_none {s : ByteArray} (h : quoS s.data.toList 0 = none) : unqS s = none := by unfold unqS; rw [h]
theorem unqS_part {s : ByteArray} {x : List UInt8 × Nat} (h : quoS s.data.toList 0 = some x) (hn : x.2 ≠ s.size) : unqS s = none := by unfold unqS; rw [h]; simp [hn]
theorem unqS_all {s : ByteArray} {x : List UInt8 × Nat} (h : quoS s.data.toList 0 = some x) (hn : x.2 = s.size) : unqS s = some x.1 := by unfold unqS; rw [h]; simp [hn]

set_option maxHeartbeats 1600000 in
theorem unquote_any (s : ByteArray) (w : World) (hs : s.size ≤ 1000000000) (htab : EscTab w) (hw : 0 < w.heap.size) :
    Calls Tryd.prog 16 #[.string s] w (UnqV s w) := by
  have c0 := quotedAt_any s 0 w (by omega) hs htab hw
  rw [show ((0 : Nat) : Int) = 0 from rfl] at c0
  unfold QuoV at c0
  cases hq : quoS s.data.toList 0 with
  | none =>
    rw [hq] at c0
    have C := Lib.hid c0
    have HN := Lib.hid (unqS_none hq)
    clear c0 hq
    go_enter Tryd.func16, Tryd.ntmps16
    go_wp2_with (go_at_call 37; refine C.out.mono ?_; rintro e w' ⟨⟨n, hn, rfl⟩, hb⟩)
    go_ret2
    exact unqV_no HN.out rfl hb
  | some x =>
    rw [hq] at c0
    have C := Lib.hid c0
    by_cases hx : x.2 = s.size
    · have HN := Lib.hid (unqS_all hq hx)
      have hne : ((x.2 : Int) != (s.size : Int)) = false := by rw [hx]; simp
      clear c0 hq hx
      go_enter Tryd.func16, Tryd.ntmps16
      go_wp2_with (go_at_call 37; refine C.out.mono ?_; rintro e w' ⟨rfl, hb⟩)
      all_goals go_ret2
      all_goals exact unqV_yes HN.out hb
    · have HN := Lib.hid (unqS_part hq hx)
      have hne : ((x.2 : Int) != (s.size : Int)) = true := by rw [bne_iff_ne]; omega
      clear c0 hq hx
      go_enter Tryd.func16, Tryd.ntmps16
      go_wp2_with (go_at_call 37; refine C.out.mono ?_; rintro e w' ⟨rfl, hb⟩)
      all_goals go_ret2
      all_goals exact unqV_no HN.out rfl hb

set_option maxHeartbeats 1600000 in
theorem runquote_any (s : ByteArray) (w : World) (hs : s.size ≤ 1000000000) :
    Calls Tryd.prog 17 #[.string s] w (UnqV s w) := by
  have c0 := rquoted_any s w hs
  unfold RQuo at c0
  cases hq : quoS s.data.toList 0 with
  | none =>
    rw [hq] at c0
    have C := Lib.hid c0
    have HN := Lib.hid (unqS_none hq)
    clear c0 hq
    go_enter Tryd.func17, Tryd.ntmps17
    go_wp2_with (go_at_call 38; refine C.out.mono ?_; rintro e w' ⟨rfl, hb⟩)
    go_ret2
    exact unqV_no HN.out rfl hb
  | some x =>
    rw [hq] at c0
    have C := Lib.hid c0
    have hx0 : 1 ≤ x.2 := quoS_pos hq
    by_cases hx : x.2 = s.size
    · have HN := Lib.hid (unqS_all hq hx)
      have hne : ((x.2 : Int) != (s.size : Int)) = false := by rw [hx]; simp
      have hnz : ((x.2 : Int) == 0) = false := beq_eq_false_iff_ne.mpr (by omega)
      clear c0 hq hx
      go_enter Tryd.func17, Tryd.ntmps17
      go_wp2_with (go_at_call 38; refine C.out.mono ?_; rintro e w' ⟨rfl, hb⟩)
      all_goals go_ret2
      all_goals exact unqV_yes HN.out hb
    · have HN := Lib.hid (unqS_part hq hx)
      have hne : ((x.2 : Int) != (s.size : Int)) = true := by rw [bne_iff_ne]; omega
      have hnz : ((x.2 : Int) == 0) = false := beq_eq_false_iff_ne.mpr (by omega)
      clear c0 hq hx
      go_enter Tryd.func17, Tryd.ntmps17
      go_wp2_with (go_at_call 38; refine C.out.mono ?_; rintro e w' ⟨rfl, hb⟩)
      all_goals go_ret2
      all_goals exact unqV_no HN.out rfl hb
end Go.Proofs.YtnajkkbcfebegaaDoor
