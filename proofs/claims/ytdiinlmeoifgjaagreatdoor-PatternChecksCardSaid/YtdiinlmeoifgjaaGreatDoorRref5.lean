/- The reference's Check, Runes, Count, Bytes. -/
import Derived.Test.YtdiinlmeoifgjaaGreatDoorRref4
namespace Go.Proofs.YtdiinlmeoifgjaaGreatDoor
open Go.RowKit Go.PlainAid

set_option maxRecDepth 100000 in
set_option maxHeartbeats 1600000 in
theorem rcheck_any (v : Value) (l : List UInt8) (w : World) (h : ArgAt w v (l.map bc)) (hl : l.length ≤ 1000000) :
    Calls Tryz.prog 58 #[v] w fun e w' => e = .returned (chkV l) ∧ Below w.heap.size w w' := by
  obtain ⟨a, cap, hv⟩ := h.row.slice
  obtain ⟨n, hn⟩ : ∃ n, n = l.length := ⟨_, rfl⟩
  rw [List.length_map, ← hn] at hv
  by_cases h8 : 8000 < n
  · have HV : Hid (chkV l = .tuple #[.int .i64 0, .int .i64 3]) := Lib.hid (by unfold chkV chkS; rw [if_pos (by omega)]; rfl)
    subst hv
    clear h hn hl
    go_enter Tryz.func58, Tryz.ntmps58
    go_wp2
    go_ret2
    exact ⟨(congrArg Ending.returned HV.out).symm, Below.refl _ _⟩
  · have HV : Hid (∀ (k : Nat) (e : Int), wid (runs l).1 = k → (runs l).2 = e → chkV l = .tuple #[.int .i64 (k : Int), .int .i64 e]) := Lib.hid (by
      rintro k e rfl rfl; unfold chkV chkS; rw [if_neg (by omega)])
    have h8' : n ≤ 8000 := by omega
    clear h8
    subst hv
    have CD : Hid (∀ (k : Nat) (w' : World), Below w.heap.size w w' → Calls Tryz.prog 59 #[.slice a n cap, .int .i64 (k : Int)] w' fun e w'' => e = .returned (decV (dec (l.drop k))) ∧ Below w'.heap.size w' w'') := Lib.hid fun k w' hb => by
      have := rdecode_any _ l (k : Int) w' (h.below hb (Nat.le_refl _)) hl
      rw [decAt_in] at this; exact this
    have HN : Hid (n = l.length) := Lib.hid hn
    clear h hn hl
    go_enter Tryz.func58, Tryz.ntmps58
    go_wp2
    go_loopw [4] (fun x wr => ∃ (k : Nat) (pre : List Int), x = .int .i64 k ∧ k ≤ n ∧ Hid (At l pre k) ∧ Below w.heap.size w wr) (fun x _ => n - (intOf x).toNat)
    case atStart => exact ⟨0, [], rfl, Nat.zero_le _, Lib.hid (At.start l), Below.refl _ _⟩
    case round =>
      obtain ⟨k, pre, rfl, hk, HA, hB⟩ := hrel
      by_cases hlt : k < n
      · have C := CD.out k wr hB
        obtain ⟨r, m, e, hd⟩ : ∃ r m e, dec (l.drop k) = (r, m, e) := ⟨_, _, _, rfl⟩
        rw [hd] at C
        have C := Lib.hid C
        have hbd := dec_bd (l.drop k)
        rw [hd, List.length_drop, ← HN.out] at hbd
        obtain ⟨m1, m2, m3, m4⟩ := hbd
        simp only at m1 m2 m3 m4
        by_cases he : e = 0
        · subst he
          have HA' : Hid (At l (pre ++ [r]) (k + m)) := Lib.hid (HA.out.ok hd)
          have hm1 : 1 ≤ m := by obtain ⟨q1, q2, _⟩ := dec_ok hd; rw [q2]; exact wO_pos q1
          clear hd
          go_wp2_with (go_at_call 59; refine C.out.mono ?_; rintro e w1 ⟨rfl, hb1⟩; unfold decV; simp only)
          go_roundw
          case rel => exact ⟨k + m, pre ++ [r], by go_num, by omega, HA', hB.trans (hb1.mono hB.size)⟩
          case measure => simp [intOf]; omega
        · have HE : Hid (runs l = (pre, e) ∧ wid (runs l).1 = k) := Lib.hid (HA.out.err (by rw [← HN.out]; exact hlt) he (by rw [hd]))
          have hne : (e != 0) = true := by rw [bne_iff_ne]; exact he
          clear hd he
          go_wp2_with (go_at_call 59; refine C.out.mono ?_; rintro e w1 ⟨rfl, hb1⟩; unfold decV; simp only)
          go_ret2
          exact ⟨(congrArg Ending.returned (HV.out k e HE.out.2 (by rw [HE.out.1]))).symm, hB.trans (hb1.mono hB.size)⟩
      · have HE : Hid (runs l = (pre, 0) ∧ wid (runs l).1 = k) := Lib.hid (HA.out.stop (by rw [← HN.out]; omega))
        go_wp2
        go_ret2
        exact ⟨(congrArg Ending.returned (HV.out k 0 HE.out.2 (by rw [HE.out.1]))).symm, hB⟩

set_option maxRecDepth 100000 in
set_option maxHeartbeats 3200000 in
theorem rrunes_any (v : Value) (l : List UInt8) (w : World) (h : ArgAt w v (l.map bc)) (hl : l.length ≤ 1000000) :
    Calls Tryz.prog 52 #[v] w (RnV l w) := by
  obtain ⟨x, e, hx, he⟩ : ∃ (x : Int) (e : Int), chkV l = .tuple #[.int .i64 x, .int .i64 e] ∧ e = (chkS l).2 := ⟨_, _, rfl, rfl⟩
  have C : Hid (Calls Tryz.prog 58 #[v] w fun e' w' => e' = .returned (.tuple #[.int .i64 x, .int .i64 e]) ∧ Below w.heap.size w w') := Lib.hid (by
    rw [← hx]; exact rcheck_any v l w h hl)
  have hr := h.row
  obtain ⟨a, n, cap, rfl, hn, hcap, hs⟩ := id h
  rw [List.length_map] at hn
  by_cases hc : e = 0
  · have hr0 : (runs l).2 = 0 := by
      rw [hc] at he; unfold chkS at he
      split at he
      · exact absurd he (by decide)
      · exact he.symm
    have HV : Hid (runesS l = ((runs l).1, 0)) := Lib.hid (by unfold runesS; rw [if_pos (by rw [← he]; exact hc)])
    have CD : Hid (∀ (k : Nat) (w' : World), Below w.heap.size w w' → Calls Tryz.prog 59 #[.slice a n cap, .int .i64 (k : Int)] w' fun e w'' => e = .returned (decV (dec (l.drop k))) ∧ Below w'.heap.size w' w'') := Lib.hid fun k w' hb => by
      have := rdecode_any _ l (k : Int) w' (h.below hb (Nat.le_refl _)) hl
      rw [decAt_in] at this; exact this
    have HN := Lib.hid hn
    have HR := Lib.hid hr0
    have hnb : n ≤ 1000000 := by omega
    obtain ⟨i0, hi, hj0, hj1, hj2⟩ := info_parts2R infoRn
    subst hc
    clear h hr hs hx he hn hl hr0
    go_enter Tryz.func52, Tryz.ntmps52
    go_wp2_with (go_at_call 58; refine C.out.mono ?_; rintro e w1 ⟨rfl, hb1⟩)
    go_loopw [6, 7] (fun x6 x7 wr => ∃ (k : Nat) (pre : List Int), x7 = .int .i64 k ∧ k ≤ n ∧ pre.length ≤ k ∧ Hid (At l pre k) ∧ Below w.heap.size w wr ∧ Hid (wr.ownsRow w.heap.size 21 1 x6 pre.length (pre.map (Value.int .i32)))) (fun _ x7 _ => n - (intOf x7).toNat)
    case atStart => exact ⟨0, [], rfl, Nat.zero_le _, Nat.le_refl _, Lib.hid (At.start l), hb1, Lib.hid ⟨rfl, .inl ⟨rfl, rfl⟩⟩⟩
    case round =>
      obtain ⟨k, pre, rfl, hk, hpk, HA, hB, HO⟩ := hrel
      by_cases hlt : k < n
      · have C2 := CD.out k wr hB
        obtain ⟨r, m, e, hd⟩ : ∃ r m e, dec (l.drop k) = (r, m, e) := ⟨_, _, _, rfl⟩
        have he0 : e = 0 := by
          by_cases he : e = 0
          · exact he
          · have := (HA.out.err (by rw [← HN.out]; exact hlt) he (by rw [hd])).1
            have h2 := HR.out
            rw [this] at h2; exact absurd h2 he
        subst he0
        rw [hd] at C2
        have C2 := Lib.hid C2
        have hbd := dec_bd (l.drop k)
        rw [hd, List.length_drop, ← HN.out] at hbd
        obtain ⟨m1, m2, m3, m4⟩ := hbd
        simp only at m1 m2 m3 m4
        have HA' : Hid (At l (pre ++ [r]) (k + m)) := Lib.hid (HA.out.ok hd)
        have hm1 : 1 ≤ m := by obtain ⟨q1, q2, _⟩ := dec_ok hd; rw [q2]; exact wO_pos q1
        clear hd
        have hlA : pre.length ≤ 1000000 := by omega
        obtain ⟨p, hp⟩ : ∃ p, pre.length = p := ⟨_, rfl⟩
        rw [hp] at hlA hpk HO
        have HP := Lib.hid hp
        clear hp
        go_wp2_with (first
          | (go_at_call 59; refine C2.out.mono ?_; rintro e w2 ⟨rfl, hb2⟩; unfold decV; simp only; have hB2 := hB.trans (hb2.mono hB.size); have HO2 := Lib.hid (own_below HO.out hb2); have hsA := World.size_alloc w2 (.cells #[.int .i32 r] 21))
          | (at_builtin; refine wpList_append_own _ rfl _ _ 95 rfl w.heap.size 21 i0 (.int .i32 0) 1 4 Tryz.underlying95 hi hj0 hj1 hj2 rfl (by decide) _ _ _ rfl (HO2.out.alloc _) ⟨w2.heap.size, 0, none⟩ 1 1 [.int .i32 r] rfl rfl (new_cells w2 [.int .i32 r] _) (by simp [Value.oneCell']) (by unfold maxLen; omega) (by omega) (by rw [hsA]; have := hB2.size; omega) ?_; intro v' w3 hown' hgrow _; have HB3 : Below w.heap.size w w3 := (hB2.alloc hB2.size _).grown hgrow (by rw [hsA]; have := hB2.size; omega) (fun k hk => (HO2.out.lt k hk).1); have HO3 : Hid (w3.ownsRow w.heap.size 21 1 v' (pre ++ [r]).length ((pre ++ [r]).map (Value.int .i32))) := Lib.hid (by rw [List.length_append, List.map_append, HP.out]; exact hown'); clear hown' hgrow))
        go_roundw
        case rel => exact ⟨k + m, pre ++ [r], by go_num, by omega, by rw [List.length_append, HP.out, List.length_singleton]; omega, HA', HB3, HO3⟩
        case measure => simp [intOf]; omega
      · have HE : Hid (runs l = (pre, 0)) := Lib.hid (HA.out.stop (by rw [← HN.out]; omega)).1
        go_wp2
        go_ret2
        refine ⟨u6, ?_, ?_, hB⟩
        · rw [HV.out]; rfl
        · rw [HV.out, HE.out]; exact HO.out
  · have HV : Hid (runesS l = ([], e)) := Lib.hid (by unfold runesS; rw [if_neg (by rw [← he]; exact hc), he])
    have hne : (e != 0) = true := by rw [bne_iff_ne]; exact hc
    clear h hr hs hx he hn hl hc
    go_enter Tryz.func52, Tryz.ntmps52
    go_wp2_with (go_at_call 58; refine C.out.mono ?_; rintro e w1 ⟨rfl, hb1⟩)
    go_ret2
    exact ⟨_, by rw [HV.out]; rfl, by rw [HV.out]; exact ⟨rfl, .inl ⟨rfl, rfl⟩⟩, hb1⟩

end Go.Proofs.YtdiinlmeoifgjaaGreatDoor
