/- The reference's Check, Runes, Count, Bytes. -/
import Derived.Test.YtcnekeahlcbflaaDoorRref4
namespace Go.Proofs.YtcnekeahlcbflaaDoor
open Go.RowKit Go.PlainAid

set_option maxRecDepth 100000 in
set_option maxHeartbeats 1600000 in
theorem rcheck_any (v : Value) (l : List UInt8) (w : World) (h : ArgAt w v (l.map bc)) (hl : l.length ≤ 1000000) :
    Calls Tryd.prog 80 #[v] w fun e w' => e = .returned (chkV l) ∧ Below w.heap.size w w' := by
  obtain ⟨a, cap, hv⟩ := h.row.slice
  obtain ⟨n, hn⟩ : ∃ n, n = l.length := ⟨_, rfl⟩
  rw [List.length_map, ← hn] at hv
  by_cases h8 : 8000 < n
  · have HV : Hid (chkV l = .tuple #[.int .i64 0, .int .i64 3]) := Lib.hid (by unfold chkV chkS; rw [if_pos (by omega)]; rfl)
    subst hv
    clear h hn hl
    go_enter Tryd.func80, Tryd.ntmps80
    go_wp2
    go_ret2
    exact ⟨(congrArg Ending.returned HV.out).symm, Below.refl _ _⟩
  · have HV : Hid (∀ (k : Nat) (e : Int), wid (runs l).1 = k → (runs l).2 = e → chkV l = .tuple #[.int .i64 (k : Int), .int .i64 e]) := Lib.hid (by
      rintro k e rfl rfl; unfold chkV chkS; rw [if_neg (by omega)])
    have h8' : n ≤ 8000 := by omega
    clear h8
    subst hv
    have CD : Hid (∀ (k : Nat) (w' : World), Below w.heap.size w w' → Calls Tryd.prog 61 #[.slice a n cap, .int .i64 (k : Int)] w' fun e w'' => e = .returned (decV (dec (l.drop k))) ∧ Below w'.heap.size w' w'') := Lib.hid fun k w' hb => by
      have := rdecode_any _ l (k : Int) w' (h.below hb (Nat.le_refl _)) hl
      rw [decAt_in] at this; exact this
    have HN : Hid (n = l.length) := Lib.hid hn
    clear h hn hl
    go_enter Tryd.func80, Tryd.ntmps80
    go_wp2
    go_loopw [4] (fun x wr => ∃ (k : Nat) (pre : List Int), x = .int .i64 k ∧ k ≤ n ∧ Hid (At l pre k) ∧ Below w.heap.size w wr) (fun x _ => n - (intOf x).toNat)
    case atStart => exact ⟨0, [], rfl, Nat.zero_le _, Lib.hid (At.start l), Below.refl _ _⟩
    case round =>
      obtain ⟨k, pre, rfl, hk, HA, hB⟩ := hrel
      by_cases hlt : k < n
      · have C := CD.out k wr hB
        obtain ⟨r, m, e, hd⟩ : ∃ r m e, dec (l.drop k) = (r, m, e) := ⟨_, _, _, rfl⟩
        rw [hd] at C
        have C := Lib.hid C
        have hbd := dec_bd (l.drop k)
        rw [hd, List.length_drop, ← HN.out] at hbd
        obtain ⟨m1, m2, m3, m4⟩ := hbd
        simp only at m1 m2 m3 m4
        by_cases he : e = 0
        · subst he
          have HA' : Hid (At l (pre ++ [r]) (k + m)) := Lib.hid (HA.out.ok hd)
          have hm1 : 1 ≤ m := by obtain ⟨q1, q2, _⟩ := dec_ok hd; rw [q2]; exact wO_pos q1
          clear hd
          go_wp2_with (go_at_call 61; refine C.out.mono ?_; rintro e w1 ⟨rfl, hb1⟩; unfold decV; simp only)
          go_roundw
          case rel => exact ⟨k + m, pre ++ [r], by go_num, by omega, HA', hB.trans (hb1.mono hB.size)⟩
          case measure => simp [intOf]; omega
        · have HE : Hid (runs l = (pre, e) ∧ wid (runs l).1 = k) := Lib.hid (HA.out.err (by rw [← HN.out]; exact hlt) he (by rw [hd]))
          have hne : (e != 0) = true := by rw [bne_iff_ne]; exact he
          clear hd he
          go_wp2_with (go_at_call 61; refine C.out.mono ?_; rintro e w1 ⟨rfl, hb1⟩; unfold decV; simp only)
          go_ret2
          exact ⟨(congrArg Ending.returned (HV.out k e HE.out.2 (by rw [HE.out.1]))).symm, hB.trans (hb1.mono hB.size)⟩
      · have HE : Hid (runs l = (pre, 0) ∧ wid (runs l).1 = k) := Lib.hid (HA.out.stop (by rw [← HN.out]; omega))
        go_wp2
        go_ret2
        exact ⟨(congrArg Ending.returned (HV.out k 0 HE.out.2 (by rw [HE.out.1]))).symm, hB⟩

end Go.Proofs.YtcnekeahlcbflaaDoor
