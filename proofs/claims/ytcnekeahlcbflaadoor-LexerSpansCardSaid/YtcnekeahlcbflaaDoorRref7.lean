/- The reference's Starts, Back, On. -/
import Derived.Test.YtcnekeahlcbflaaDoorRst
import Derived.Deep.DeepCutAuto
namespace Go.Proofs.YtcnekeahlcbflaaDoor
open Go.RowKit Go.PlainAid

def ints (l : List Nat) : List Value := l.map fun k : Nat => Value.int .i64 (k : Int)

set_option maxRecDepth 100000 in
set_option maxHeartbeats 3200000 in
theorem rstarts_any (v : Value) (l : List UInt8) (w : World) (h : ArgAt w v (l.map bc)) (hl : l.length ≤ 1000000) :
    Calls Tryd.prog 60 #[v] w (StV l w) := by
  obtain ⟨x, e, hx, he⟩ : ∃ (x : Int) (e : Int), chkV l = .tuple #[.int .i64 x, .int .i64 e] ∧ e = (chkS l).2 := ⟨_, _, rfl, rfl⟩
  have C : Hid (Calls Tryd.prog 80 #[v] w fun e' w' => e' = .returned (.tuple #[.int .i64 x, .int .i64 e]) ∧ Below w.heap.size w w') := Lib.hid (by
    rw [← hx]; exact rcheck_any v l w h hl)
  obtain ⟨a, n, cap, rfl, hn, hcap, hs⟩ := id h
  rw [List.length_map] at hn
  by_cases hc : e = 0
  · have hr0 : (runs l).2 = 0 := by
      rw [hc] at he; unfold chkS at he
      split at he
      · exact absurd he (by decide)
      · exact he.symm
    have HV : Hid (startsS l = (stS l, 0)) := Lib.hid (by unfold startsS; rw [if_pos (by rw [← he]; exact hc)])
    have CD : Hid (∀ (k : Nat) (w' : World), Below w.heap.size w w' → Calls Tryd.prog 61 #[.slice a n cap, .int .i64 (k : Int)] w' fun e w'' => e = .returned (decV (dec (l.drop k))) ∧ Below w'.heap.size w' w'') := Lib.hid fun k w' hb => by
      have := rdecode_any _ l (k : Int) w' (h.below hb (Nat.le_refl _)) hl
      rw [decAt_in] at this; exact this
    have HN := Lib.hid hn
    have HR := Lib.hid hr0
    have hnb : n ≤ 1000000 := by omega
    obtain ⟨i0, hi, hj0, hj1, hj2⟩ := info_parts2 infoSt
    subst hc
    clear h hs hx he hn hl hr0
    go_enter Tryd.func60, Tryd.ntmps60
    go_wp2_with (go_at_call 80; refine C.out.mono ?_; rintro e w1 ⟨rfl, hb1⟩)
    go_loopw [6, 7] (fun x6 x7 wr => ∃ (k : Nat) (pre : List Int), x7 = .int .i64 k ∧ k ≤ n ∧ pre.length ≤ k ∧ Hid (At l pre k) ∧ Below w.heap.size w wr ∧ Hid (wr.ownsRow w.heap.size 3 1 x6 pre.length (ints (begs 0 pre)))) (fun _ x7 _ => n - (intOf x7).toNat)
    case atStart => exact ⟨0, [], rfl, Nat.zero_le _, Nat.le_refl _, Lib.hid (At.start l), hb1, Lib.hid ⟨rfl, .inl ⟨rfl, rfl⟩⟩⟩
    case round =>
      obtain ⟨k, pre, rfl, hk, hpk, HA, hB, HO⟩ := hrel
      have hsA := World.size_alloc wr (.cells #[.int .i64 (k : Int)] 3)
      have hBs := hB.size
      have hlA : pre.length ≤ 1000000 := by omega
      obtain ⟨p, hp⟩ : ∃ p, pre.length = p := ⟨_, rfl⟩
      rw [hp] at hlA hpk HO
      have HP := Lib.hid hp
      clear hp
      by_cases hlt : k < n
      · obtain ⟨r, m, e, hd⟩ : ∃ r m e, dec (l.drop k) = (r, m, e) := ⟨_, _, _, rfl⟩
        have he0 : e = 0 := by
          by_cases he : e = 0
          · exact he
          · have := (HA.out.err (by rw [← HN.out]; exact hlt) he (by rw [hd])).1
            have h2 := HR.out
            rw [this] at h2; exact absurd h2 he
        subst he0
        have C2 : Hid (∀ W, Below w.heap.size w W → Calls Tryd.prog 61 #[.slice a n cap, .int .i64 (k : Int)] W fun e w'' => e = .returned (decV (r, m, 0)) ∧ Below W.heap.size W w'') := Lib.hid fun W hb => by
          have := CD.out k W hb
          rw [hd] at this; exact this
        have hbd := dec_bd (l.drop k)
        rw [hd, List.length_drop, ← HN.out] at hbd
        obtain ⟨m1, m2, m3, m4⟩ := hbd
        simp only at m1 m2 m3 m4
        have HA' : Hid (At l (pre ++ [r]) (k + m)) := Lib.hid (HA.out.ok hd)
        have HBG : Hid (ints (begs 0 (pre ++ [r])) = ints (begs 0 pre) ++ [.int .i64 (k : Int)]) := Lib.hid (by
          rw [begs_app, Nat.zero_add, ← HA.out.1]; simp [ints, begs])
        have hm1 : 1 ≤ m := by obtain ⟨q1, q2, _⟩ := dec_ok hd; rw [q2]; exact wO_pos q1
        clear hd
        go_wp2_with (first
          | (at_builtin; refine wpList_append_own _ rfl _ _ 83 rfl w.heap.size 3 i0 (.int .i64 0) 1 8 Tryd.underlying83 hi hj0 hj1 hj2 rfl (by decide) _ _ _ rfl (HO.out.alloc _) ⟨wr.heap.size, 0, none⟩ 1 1 [.int .i64 (k : Int)] rfl rfl (new_cells wr [.int .i64 (k : Int)] _) (by simp [Value.oneCell']) (by unfold maxLen; omega) (by omega) (by rw [hsA]; omega) ?_; intro v' w3 hown' hgrow _; have HB3 : Below w.heap.size w w3 := (hB.alloc hBs _).grown hgrow (by rw [hsA]; omega) (fun k hk => (HO.out.lt k hk).1); have HO3 : Hid (w3.ownsRow w.heap.size 3 1 v' (pre ++ [r]).length (ints (begs 0 (pre ++ [r])))) := Lib.hid (by rw [List.length_append, HBG.out, HP.out]; exact hown'); clear hown' hgrow)
          | (go_at_call 61; refine (C2.out w3 HB3).mono ?_; rintro e w2 ⟨rfl, hb2⟩; unfold decV; simp only; have hB2 := HB3.trans (hb2.mono HB3.size); have HO2 := Lib.hid (own_below HO3.out hb2)))
        go_roundw
        case rel => exact ⟨k + m, pre ++ [r], by go_num, by omega, by rw [List.length_append, HP.out, List.length_singleton]; omega, HA', hB2, HO2⟩
        case measure => simp [intOf]; omega
      · have HE : Hid (runs l = (pre, 0)) := Lib.hid (HA.out.stop (by rw [← HN.out]; omega)).1
        have HK : Hid (k = n) := Lib.hid (by omega)
        go_wp2_with (at_builtin; refine wpList_append_own _ rfl _ _ 83 rfl w.heap.size 3 i0 (.int .i64 0) 1 8 Tryd.underlying83 hi hj0 hj1 hj2 rfl (by decide) _ _ _ rfl (HO.out.alloc _) ⟨wr.heap.size, 0, none⟩ 1 1 [.int .i64 (k : Int)] rfl rfl (new_cells wr [.int .i64 (k : Int)] _) (by simp [Value.oneCell']) (by unfold maxLen; omega) (by omega) (by rw [hsA]; omega) ?_; intro v' w3 hown' hgrow _; have HB3 : Below w.heap.size w w3 := (hB.alloc hBs _).grown hgrow (by rw [hsA]; omega) (fun k hk => (HO.out.lt k hk).1); have HO3 := Lib.hid hown'; clear hown' hgrow)
        go_ret2
        refine ⟨v', ?_, ?_, HB3⟩
        · rw [HV.out]; rfl
        · rw [HV.out]
          have e1 : stS l = begs 0 pre ++ [k] := by unfold stS; rw [HE.out, HK.out, HN.out]
          have e2 : (stS l).length = p + 1 := by rw [e1, List.length_append, begs_len, HP.out]; rfl
          have e3 : (stS l).map (fun k : Nat => Value.int .i64 (k : Int)) = ints (begs 0 pre) ++ [.int .i64 (k : Int)] := by rw [e1, List.map_append]; rfl
          rw [e2, e3]; exact HO3.out
  · have HV : Hid (startsS l = ([], e)) := Lib.hid (by unfold startsS; rw [if_neg (by rw [← he]; exact hc), he])
    have hne : (e != 0) = true := by rw [bne_iff_ne]; exact hc
    clear h hs hx he hn hl hc
    go_enter Tryd.func60, Tryd.ntmps60
    go_wp2_with (go_at_call 80; refine C.out.mono ?_; rintro e w1 ⟨rfl, hb1⟩)
    go_ret2
    exact ⟨_, by rw [HV.out]; rfl, by rw [HV.out]; exact ⟨rfl, .inl ⟨rfl, rfl⟩⟩, hb1⟩

set_option maxRecDepth 100000 in
set_option maxHeartbeats 6400000 in
theorem rback_any (v : Value) (l : List UInt8) (i : Int) (w : World) (h : ArgAt w v (l.map bc)) (hl : l.length ≤ 1000000) :
    Calls Tryd.prog 45 #[v, .int .i64 i] w fun e w' => e = .returned (backV l i) ∧ Below w.heap.size w w' := by
  obtain ⟨S, hS⟩ : ∃ S, (startsS l).1 = S := ⟨_, rfl⟩
  obtain ⟨e, he⟩ : ∃ e, (startsS l).2 = e := ⟨_, rfl⟩
  have hec : (chkS l).2 = e := by
    rw [← he]; unfold startsS; split
    · assumption
    · rfl
  have C : Hid (Calls Tryd.prog 60 #[v] w fun e' w' => ∃ a n c, e' = .returned (.tuple #[.slice a n c, .int .i64 e]) ∧ n = S.length ∧ RowAt w' (.slice a n c) (ints S) ∧ Below w.heap.size w w') := Lib.hid (by
    refine (rstarts_any v l w h hl).mono ?_
    rintro e' w1 ⟨v1, h1, h2, h3⟩
    rw [he] at h1
    rw [hS] at h2
    obtain ⟨a, c, rfl⟩ := (RowAt.own h2).slice
    exact ⟨_, _, _, h1, by simp, RowAt.own h2, h3⟩)
  obtain ⟨a, n, cap, rfl, hn, hcap, hs⟩ := id h
  rw [List.length_map] at hn
  have hsl : S.length ≤ 1000001 := by
    rw [← hS]; unfold startsS; split
    · show (stS l).length ≤ _
      unfold stS; rw [List.length_append, begs_len]; have := runs_len_le l; simp; omega
    · simp
  by_cases hc : e = 0
  · have hr0 : (runs l).2 = 0 := by
      have := hec
      rw [hc] at this; unfold chkS at this
      split at this
      · exact absurd this (by decide)
      · exact this
    have hS2 : S = stS l := by rw [← hS]; unfold startsS; rw [if_pos (by rw [hec]; exact hc)]
    by_cases hi : i < 0 ∨ (n : Int) < i
    · have HV : Hid (backV l i = .tuple #[.int .i64 0, .int .i64 7]) := Lib.hid (by unfold backV backS; rw [hec, if_neg (by simpa using hc), if_pos (by omega)])
      subst hc
      clear h hs he hn hl hr0 hec hS2 hS
      by_cases hi0 : i < 0
      · clear hi
        go_enter Tryd.func45, Tryd.ntmps45
        go_wp2_with (go_at_call 60; refine C.out.mono ?_; rintro e w1 ⟨a1, n1, c1, rfl, hn1, hr1, hb1⟩; clear hn1 hr1)
        go_ret2
        exact ⟨(congrArg Ending.returned HV.out).symm, hb1⟩
      · have hi1 : (n : Int) < i := by omega
        clear hi
        go_enter Tryd.func45, Tryd.ntmps45
        go_wp2_with (go_at_call 60; refine C.out.mono ?_; rintro e w1 ⟨a1, n1, c1, rfl, hn1, hr1, hb1⟩; clear hn1 hr1)
        go_ret2
        exact ⟨(congrArg Ending.returned HV.out).symm, hb1⟩
    · obtain ⟨m, rfl⟩ : ∃ m : Nat, i = m := ⟨i.toNat, by omega⟩
      have hm : m ≤ n := by omega
      have HV : Hid (∀ k : Nat, lastLe m 0 S = k → backV l (m : Int) = .tuple #[.int .i64 (k : Int), .int .i64 0]) := Lib.hid (by
        rintro k rfl
        unfold backV backS; rw [hec, if_neg (by simpa using hc), if_neg (by omega), Int.toNat_natCast, back_last hr0 (by omega), hS2])
      have hd1 : decide ((m : Int) < 0) = false := decide_eq_false (by omega)
      have hd2 : decide ((n : Int) < (m : Int)) = false := decide_eq_false (by omega)
      have hm0 : m ≤ 1000000 := by omega
      subst hc
      clear h hs he hn hl hr0 hec hS2 hS hi
      go_enter Tryd.func45, Tryd.ntmps45
      go_wp2_with (go_at_call 60; refine C.out.mono ?_; rintro e w1 ⟨a1, n1, c1, rfl, hn1, hr1, hb1⟩; have HN1 := Lib.hid hn1; have HR1 := Lib.hid hr1; have hn1b : n1 ≤ 1000001 := (by rw [hn1]; exact hsl); clear hn1 hr1)
      go_loop [8, 9] (fun x8 x9 => ∃ (j o : Nat), j ≤ n1 ∧ x9 = .int .i64 j ∧ x8 = .int .i64 o ∧ Hid (lastLe m o (S.drop j) = lastLe m 0 S)) (fun _ x9 => n1 - (intOf x9).toNat)
      case atStart => exact ⟨0, 0, Nat.zero_le _, rfl, rfl, Lib.hid rfl⟩
      case round =>
        obtain ⟨j, o, hj, rfl, rfl, HG⟩ := hrel
        by_cases hlt : j < n1
        · have hjS : j < S.length := by rw [← HN1.out]; exact hlt
          obtain ⟨s, hs⟩ : ∃ s, S[j]? = some s := ⟨_, List.getElem?_eq_getElem hjS⟩
          have hdr : S.drop j = s :: S.drop (j + 1) := by
            rw [drop_cons hjS]; rw [List.getElem?_eq_getElem hjS] at hs; rw [Option.some.inj hs]
          rcases HR1.out with ⟨_, _, hv, hnil⟩ | ⟨g, off, nn, cc, hv, _, _, hcell⟩
          · have := (Value.slice.inj hv).2.1; omega
          · obtain ⟨rfl, hs2, hs3⟩ := Value.slice.inj hv
            have c0 : w1.cell? ⟨g, off + j, none⟩ = some (.int .i64 (s : Int)) := hcell j _ (by unfold ints; rw [List.getElem?_map, hs]; rfl)
            have hG := HG.out
            rw [hdr, lastLe] at hG
            clear hcell hv hs2 hs3 hs hdr HR1 hjS
            by_cases hsm : s ≤ m
            · rw [if_pos hsm] at hG
              have HG' := Lib.hid hG
              have hd3 : decide ((s : Int) ≤ (m : Int)) = true := decide_eq_true (by omega)
              clear hG
              go_wp2
              go_round
              case rel => exact ⟨j + 1, s, by omega, by go_num, rfl, HG'⟩
              case measure => simp [intOf]; omega
            · rw [if_neg hsm] at hG
              have HG' := Lib.hid hG
              have hd3 : decide ((s : Int) ≤ (m : Int)) = false := decide_eq_false (by omega)
              clear hG
              go_wp2
              go_round
              case rel => exact ⟨j + 1, o, by omega, by go_num, rfl, HG'⟩
              case measure => simp [intOf]; omega
        · have HE : Hid (lastLe m 0 S = o) := Lib.hid (by rw [← HG.out, List.drop_of_length_le (by rw [← HN1.out]; omega)]; rfl)
          go_wp2
          go_ret2
          exact ⟨(congrArg Ending.returned (HV.out o HE.out)).symm, hb1⟩
  · have HV : Hid (backV l i = .tuple #[.int .i64 0, .int .i64 e]) := Lib.hid (by unfold backV backS; rw [hec, if_pos hc])
    have hne : (e != 0) = true := by rw [bne_iff_ne]; exact hc
    have hne' : (e == 0) = false := by rw [beq_eq_false_iff_ne]; exact hc
    clear h hs he hn hl hc hec hS
    go_enter Tryd.func45, Tryd.ntmps45
    go_wp2_with (go_at_call 60; refine C.out.mono ?_; rintro e w1 ⟨a1, n1, c1, rfl, hn1, hr1, hb1⟩; clear hn1 hr1)
    go_ret2
    exact ⟨(congrArg Ending.returned HV.out).symm, hb1⟩

set_option maxHeartbeats 1600000 in
theorem ron_any (v : Value) (l : List UInt8) (i : Int) (w : World) (h : ArgAt w v (l.map bc)) (hl : l.length ≤ 1000000) :
    Calls Tryd.prog 31 #[v, .int .i64 i] w fun e w' => e = .returned (onV l i) ∧ Below w.heap.size w w' := by
  obtain ⟨x, e, hx, he, hxx⟩ : ∃ (x : Int) (e : Int), backV l i = .tuple #[.int .i64 x, .int .i64 e] ∧ e = (backS l i).2 ∧ x = (backS l i).1 := ⟨_, _, rfl, rfl, rfl⟩
  have C : Hid (Calls Tryd.prog 45 #[v, .int .i64 i] w fun e' w' => e' = .returned (.tuple #[.int .i64 x, .int .i64 e]) ∧ Below w.heap.size w w') := Lib.hid (by
    rw [← hx]; exact rback_any v l i w h hl)
  have HV : Hid (∀ b, decide (e = 0 ∧ x = i) = b → onV l i = .tuple #[.bool b, .int .i64 e]) := Lib.hid (by
    rintro b rfl; unfold onV onS; rw [← he, ← hxx])
  obtain ⟨a, n, cap, rfl, hn, hcap, hs⟩ := h
  clear hn hs hx he hxx
  go_enter Tryd.func31, Tryd.ntmps31
  go_wp2_with (go_at_call 45; refine C.out.mono ?_; rintro e w1 ⟨rfl, hb1⟩)
  · go_ret2
    exact ⟨(congrArg Ending.returned (HV.out (x == i) (by rw [Bool.eq_iff_iff]; simp; omega))).symm, hb1⟩
  · go_ret2
    exact ⟨(congrArg Ending.returned (HV.out false (by rw [decide_eq_false_iff_not]; omega))).symm, hb1⟩
end Go.Proofs.YtcnekeahlcbflaaDoor
