/- runes.Decode at an index that the list has; whole. -/
import Derived.Test.YtemoeohchhpilaaDoorRdec
namespace Go.Proofs.YtemoeohchhpilaaDoor
open Go.RowKit Go.PlainAid

theorem below_drewN (w : World) (n : Nat) : Below w.heap.size w (w.drewN n) := by
  have h := Below.refl w.heap.size w
  exact ⟨h.os, h.tape, h.output, h.size, h.block⟩

set_option maxRecDepth 100000 in
set_option maxHeartbeats 1600000 in
theorem decode_in (g off : Nat) (l : List UInt8) (n cap k : Nat) (w : World) (hn : n = l.length) (hk : k < n) (hl : l.length ≤ 1000000000) (hm : MarksTab w)
    (hc : ∀ j u, (l.map bc)[j]? = some u → w.cell? ⟨g, off + j, none⟩ = some u) :
    Calls Tryd.prog 41 #[.slice (some ⟨g, off, none⟩) n cap, .int .i64 (k : Int)] w fun e w' => e = .returned (decV (decAt l k)) ∧ Below w.heap.size w w' := by
  rw [decAt_in]
  have hkl : k < l.length := by omega
  obtain ⟨c, hcc⟩ : ∃ c, c = l[k] := ⟨_, rfl⟩
  have hL : l.drop k = c :: l.drop (k + 1) := by rw [drop_cons hkl, hcc]
  have hget : l[k]? = some c := by rw [List.getElem?_eq_getElem hkl, hcc]
  rw [hL]
  have HC : Hid (∀ j c, l[j]? = some c → w.cell? ⟨g, off + j, none⟩ = some (.int .u8 (ub c))) := Lib.hid fun j c h => hc j _ (bc_at h)
  have c0 : w.cell? ⟨g, off + k, none⟩ = some (.int .u8 (ub c)) := HC.out _ _ hget
  have hcb := ub_bd c
  obtain ⟨m, hwm⟩ : ∃ m, wA (ub c) = m := ⟨_, rfl⟩
  have HW := Lib.hid hwm
  have CW : Hid (∀ w, Calls Tryd.prog 58 #[.int .u8 (ub c)] w fun e w' => e = .returned (.int .i64 (m : Int)) ∧ w = w') := Lib.hid (by
    rw [← hwm]; exact fun w => widthAfter_any (ub c) w)
  clear hc hcc hget hL
  by_cases hm0 : m = 0
  · have HD : Hid (dec (c :: l.drop (k + 1)) = (0, 0, 6)) := Lib.hid (dec_c0 (by rw [hwm, hm0]))
    clear hwm
    have CW0 : Hid (∀ w, Calls Tryd.prog 58 #[.int .u8 (ub c)] w fun e w' => e = .returned (.int .i64 0) ∧ w = w') := Lib.hid (by have := CW.out; rw [hm0] at this; exact this)
    clear CW HW hm0 hm
    go_enter Tryd.func41, Tryd.ntmps41
    go_wp2_with (go_at_call 58; refine (CW0.out _).mono ?_; rintro e w' ⟨rfl, rfl⟩)
    go_ret3
    exact ⟨ret_dec HD.out.symm, Below.refl _ _⟩
  · have hb := mk_bd hwm hm0
    have hgo : Hid (∀ r e, decGo (m - 1) (ub c - mkB m) (loB (ub c)) (hiB (ub c)) (l.drop (k + 1)) = (r, e) → dec (c :: l.drop (k + 1)) = if e = 0 then (r, m, 0) else (0, 0, e)) := Lib.hid fun r e h => dec_go hwm hm0 h
    have c1 := marks_cell hm (n := m) hb.2.2
    obtain ⟨mm, hmm⟩ : ∃ mm, mm = mkB m := ⟨_, rfl⟩
    rw [← hmm] at hb c1 hgo
    obtain ⟨b1, b2, b3⟩ := hb
    obtain ⟨r0, hr0⟩ : ∃ r0, r0 = ub c - mm := ⟨_, rfl⟩
    have hlo := lo_hi_bd (ub c)
    obtain ⟨lo, hlo1⟩ : ∃ lo, lo = loB (ub c) := ⟨_, rfl⟩
    obtain ⟨hi, hhi1⟩ : ∃ hi, hi = hiB (ub c) := ⟨_, rfl⟩
    have CS : Hid (∀ w, Calls Tryd.prog 59 #[.int .u8 (ub c)] w fun e w' => e = .returned (.tuple #[.int .u8 lo, .int .u8 hi]) ∧ w = w') := Lib.hid (by
      rw [hlo1, hhi1]; exact fun w => secondBounds_any (ub c) w)
    rw [← hr0] at b1 b2
    rw [← hr0, ← hlo1, ← hhi1] at hgo
    rw [← hlo1, ← hhi1] at hlo
    have hlo2 : 128 ≤ lo ∧ lo ≤ 255 ∧ 0 ≤ hi ∧ hi ≤ 191 := by omega
    obtain ⟨lb1, lb2, lb3, lb4⟩ := hlo2
    have hw1 : IntKind.i32.wrap (ub c - mm) = r0 := by rw [← hr0]; exact IntWalk.i32_in _ (by omega)
    have hz : ((m : Int) == 0) = false := beq_eq_false_iff_ne.2 (by omega)
    have hmz : 1 ≤ m := by omega
    clear hwm hm0 hmm hlo hlo1 hhi1 hr0 hm HW
    go_enter Tryd.func41, Tryd.ntmps41
    go_wp2_with (go_at_call 58; refine (CW.out _).mono ?_; rintro e w' ⟨rfl, rfl⟩)
    go_quiet (fail)
    go_wp2_with (go_at_call 59; refine (CS.out _).mono ?_; rintro e w' ⟨rfl, rfl⟩)
    go_loop [4, 5, 7, 8, 9] (fun x4 x5 x7 x8 x9 => ∃ (i : Nat) (r a b : Int), x4 = .int .i32 r ∧ x5 = .int .i64 m ∧ x7 = .int .u8 a ∧ x8 = .int .u8 b ∧ x9 = .int .i64 i ∧ 1 ≤ i ∧ i ≤ m ∧ k + i ≤ n ∧ 0 ≤ r ∧ r ≤ rb i ∧ 128 ≤ a ∧ a ≤ 255 ∧ 0 ≤ b ∧ b ≤ 191 ∧
      Hid (∀ y, decGo (m - i) r a b (l.drop (k + i)) = y → dec (c :: l.drop (k + 1)) = if y.2 = 0 then (y.1, m, 0) else (0, 0, y.2))) (fun _ _ _ _ x9 => m - (intOf x9).toNat)
    case atStart => exact ⟨1, r0, lo, hi, rfl, rfl, rfl, rfl, rfl, by omega, by omega, by omega, b1, b2, lb1, lb2, lb3, lb4, Lib.hid fun y h => hgo.out y.1 y.2 h⟩
    case round =>
      obtain ⟨i, r, a, b, rfl, rfl, rfl, rfl, rfl, h1, him, hkn, hr0, hr1, ha0, ha1, hb0, hb1, HG⟩ := hrel
      by_cases hi : i < m
      · have hrb := rb_le (i := i) (by omega)
        have HQ : Hid (m - i = (m - i - 1) + 1) := Lib.hid (by omega)
        by_cases hend : k + i = n
        · have HD : Hid (dec (c :: l.drop (k + 1)) = (0, 0, 320)) := Lib.hid (by
            rw [HG.out (0, 320) (by rw [List.drop_of_length_le (by omega), HQ.out, decGo]), if_neg (by decide)])
          have he : ((k : Int) + (i : Int) == (l.length : Int)) = true := beq_iff_eq.2 (by omega)
          go_wp2
          go_ret3
          exact ⟨ret_dec HD.out.symm, below_drewN _ _⟩
        · obtain ⟨d, hd⟩ : ∃ d, l[k + i]? = some d := ⟨_, List.getElem?_eq_getElem (by omega)⟩
          have hdr : l.drop (k + i) = d :: l.drop (k + (i + 1)) := by
            have h1 : k + i < l.length := by omega
            rw [drop_cons h1, show k + i + 1 = k + (i + 1) by omega]
            rw [List.getElem?_eq_getElem h1] at hd; rw [Option.some.inj hd]
          have c2 := HC.out _ _ hd
          have hdb := ub_bd d
          have he : ((k : Int) + (i : Int) == (l.length : Int)) = false := beq_eq_false_iff_ne.2 (by omega)
          have hlt1 : (k : Int) + (i : Int) < (l.length : Int) := by omega
          have hlt2 : (0 : Int) ≤ (k : Int) + (i : Int) := by omega
          have htn : ((k : Int) + (i : Int)).toNat = k + i := by omega
          have HS : Hid (∀ y, decGo (m - i) r a b (l.drop (k + i)) = y ↔ (if a ≤ ub d ∧ ub d ≤ b then decGo (m - (i + 1)) (r * 64 + (ub d - 128)) 128 191 (l.drop (k + (i + 1))) else (0, 6)) = y) := Lib.hid fun y => by
            rw [HQ.out, hdr, decGo, show m - i - 1 = m - (i + 1) by omega]
          clear hd hdr hend
          by_cases hok : a ≤ ub d ∧ ub d ≤ b
          · have HN : Hid (∀ y, decGo (m - (i + 1)) (r * 64 + (ub d - 128)) 128 191 (l.drop (k + (i + 1))) = y → dec (c :: l.drop (k + 1)) = if y.2 = 0 then (y.1, m, 0) else (0, 0, y.2)) := Lib.hid fun y h =>
              HG.out y ((HS.out y).2 (by rw [if_pos hok]; exact h))
            have HB : Hid (r * 64 + (ub d - 128) ≤ rb (i + 1)) := Lib.hid (rb_succ h1 (by omega) hr1 (by omega))
            obtain ⟨k1, k2⟩ := hok
            go_wp2
            go_round
            case rel => exact ⟨i + 1, _, _, _, rfl, rfl, rfl, rfl, by go_num, by omega, by omega, by omega, by omega, HB.out, by omega, by omega, by omega, by omega, HN⟩
            case measure => simp [intOf]; omega
          · have HD : Hid (dec (c :: l.drop (k + 1)) = (0, 0, 6)) := Lib.hid (by
              rw [HG.out (0, 6) ((HS.out _).2 (by rw [if_neg hok])), if_neg (by decide)])
            have hok' : ub d < a ∨ b < ub d := by omega
            clear hok
            go_wp2
            all_goals
              go_ret3
              exact ⟨ret_dec HD.out.symm, below_drewN _ _⟩
      · obtain rfl : i = m := by omega
        have HD : Hid (dec (c :: l.drop (k + 1)) = (r, i, 0)) := Lib.hid (by
          rw [HG.out (r, 0) (by rw [Nat.sub_self, decGo]), if_pos rfl])
        go_wp2
        go_ret3
        exact ⟨ret_dec HD.out.symm, below_drewN _ _⟩

theorem decode_any (v : Value) (l : List UInt8) (i : Int) (w : World) (h : BytesAt w v l) (hl : l.length ≤ 1000000000) (hm : MarksTab w) :
    Calls Tryd.prog 41 #[v, .int .i64 i] w fun e w' => e = .returned (decV (decAt l i)) ∧ Below w.heap.size w w' := by
  by_cases hi : i < 0 ∨ (l.length : Int) ≤ i
  · obtain ⟨a, cap, rfl⟩ := h.slice
    exact decode_out a l _ cap i w (by simp) (by simpa using hi)
  · obtain ⟨k, rfl⟩ : ∃ k : Nat, i = k := ⟨i.toNat, by omega⟩
    rcases h with ⟨a, cap, rfl, hn⟩ | ⟨g, off, n, cap, rfl, hn, hg, hc⟩
    · have := congrArg List.length hn
      simp at this; subst this; simp at hi
    · exact decode_in g off l n cap k w (by simpa using hn) (by simp at hn; omega) hl hm hc
end Go.Proofs.YtemoeohchhpilaaDoor
