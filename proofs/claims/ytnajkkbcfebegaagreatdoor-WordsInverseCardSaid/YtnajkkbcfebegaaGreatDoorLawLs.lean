/- The law WordsLists, walked. -/
import Derived.Test.YtnajkkbcfebegaaGreatDoorPlH
import Derived.Test.YtnajkkbcfebegaaGreatDoorLaw1
namespace Go.Proofs.YtnajkkbcfebegaaGreatDoor
open Go.RowKit Go.PlainAid

/-- A slice of numbers that came in: it may have an address though it is empty. -/
def IntsArg (W : World) (v : Value) (l : List Int) : Prop := (∃ a c, v = .slice a 0 c ∧ l = []) ∨ IntsAt W v l
theorem IntsArg.below {w w' : World} {v : Value} {l : List Int} (h : IntsArg w v l) (hb : Below w.heap.size w w') : IntsArg w' v l := h.imp id fun h => h.below hb (Nat.le_refl _)
theorem intsAt_shape {w : World} {v : Value} {l : List Int} (h : IntsAt w v l) : ∃ a c, v = .slice a l.length c := by
  rcases h with ⟨rfl, rfl⟩ | ⟨g, off, cap, rfl, _⟩
  · exact ⟨_, _, rfl⟩
  · exact ⟨_, _, rfl⟩
theorem intsArg_shape {w : World} {v : Value} {l : List Int} (h : IntsArg w v l) : ∃ a c, v = .slice a l.length c := by
  rcases h with ⟨a, c, rfl, rfl⟩ | h
  · exact ⟨_, _, rfl⟩
  · exact intsAt_shape h
set_option maxHeartbeats 800000 in
theorem list_none (a : Option Addr) (c : Nat) (w : World) : Calls Tryz.prog 7 #[.slice a 0 c] w (ListV [] w) := by
  have hV := Lib.hid (listS_0 (l := []) rfl)
  go_enter Tryz.func7, Tryz.ntmps7
  go_wp2
  go_loop [15] (fun i => i = .int .i64 0) (fun _ => 0)
  case atStart => rfl
  case round =>
    subst hrel
    go_wp2
    go_loop [6] (fun i => i = .int .i64 1) (fun _ => 0)
    case atStart => rfl
    case round =>
      subst hrel
      go_wp2
      go_ret2
      exact listV_of hV.out rfl (Below.refl _ _)
set_option maxHeartbeats 800000 in
theorem rlist_none (a : Option Addr) (c : Nat) (w : World) : Calls Tryz.prog 8 #[.slice a 0 c] w (ListV [] w) := by
  have hV := Lib.hid (listS_0 (l := []) rfl)
  go_enter Tryz.func8, Tryz.ntmps8
  go_wp2
  go_loop [4] (fun i => i = .int .i64 0) (fun _ => 0)
  case atStart => rfl
  case round =>
    subst hrel
    go_wp2
    go_loop [5] (fun i => i = .int .i64 1) (fun _ => 0)
    case atStart => rfl
    case round =>
      subst hrel
      go_wp2
      go_ret2
      exact listV_of hV.out rfl (Below.refl _ _)
theorem list_arg (v : Value) (l : List Int) (w : World) (h : IntsArg w v l) (hl : l.length ≤ 1000000) (hr : ∀ n ∈ l, i64r n) (hp : PowIs w) (hpw : 3 < w.heap.size) :
    Calls Tryz.prog 7 #[v] w (ListV l w) := by
  rcases h with ⟨a, c, rfl, rfl⟩ | h
  · exact list_none a c w
  · exact list_any v l w h hl hr hp hpw
theorem rlist_arg (v : Value) (l : List Int) (w : World) (h : IntsArg w v l) (hl : l.length ≤ 1000000) (hr : ∀ n ∈ l, i64r n) :
    Calls Tryz.prog 8 #[v] w (ListV l w) := by
  rcases h with ⟨a, c, rfl, rfl⟩ | ⟨rfl, rfl⟩ | ⟨g, off, cap, rfl, hg, hc⟩
  · exact rlist_none a c w
  · exact rlist_none _ _ w
  · exact rlist_some g off cap l w hl hg hr hc

set_option maxRecDepth 50000 in
set_option maxHeartbeats 1600000 in
theorem lists_any (v v' : Value) (l : List Int) (w : World) (h1 : IntsAt w v l) (h2 : IntsAt w v' l) (hl : l.length ≤ 1000000) :
    Calls Tryz.prog 11 #[v, v'] w fun e w' => e = .returned (.bool true) ∧ Below w.heap.size w w' := by
  obtain ⟨n, hn⟩ : ∃ n, l.length = n := ⟨_, rfl⟩
  have HN := Lib.hid hn
  obtain ⟨a1, c1, rfl⟩ := intsAt_shape h1
  obtain ⟨a2, c2, rfl⟩ := intsAt_shape h2
  rw [hn] at h1 h2 hl ⊢
  have HF1 := Lib.hid h1
  have HF2 := Lib.hid h2
  clear h1 h2 hn
  go_enter Tryz.func11, Tryz.ntmps11
  go_wp2_with fail
  go_loopw [5] (fun x5 wr => ∃ k : Nat, x5 = .int .i64 k ∧ k ≤ n ∧ Below w.heap.size w wr) (fun x5 _ => n - (intOf x5).toNat)
  case atStart => exact ⟨0, rfl, Nat.zero_le _, Below.refl _ _⟩
  case round =>
    obtain ⟨k, rfl, hk, hbr⟩ := hrel
    by_cases hlt : k < n
    · obtain ⟨x, hx⟩ : ∃ x, l[k]? = some x := ⟨_, List.getElem?_eq_getElem (by rw [HN.out]; exact hlt)⟩
      rcases HF1.out with ⟨_, hnil⟩ | ⟨g1, o1, p1, hv1, hg1, hcell1⟩
      · rw [hnil] at hx; cases hx
      rcases HF2.out with ⟨_, hnil⟩ | ⟨g2, o2, p2, hv2, hg2, hcell2⟩
      · rw [hnil] at hx; cases hx
      have d1 : wr.cell? ⟨g1, o1 + k, none⟩ = some (.int .i64 x) := (hbr.cell (p := ⟨g1, o1 + k, none⟩) hg1).trans (hcell1 _ _ hx)
      have d2 : wr.cell? ⟨g2, o2 + k, none⟩ = some (.int .i64 x) := (hbr.cell (p := ⟨g2, o2 + k, none⟩) hg2).trans (hcell2 _ _ hx)
      obtain ⟨rfl, hq1, rfl⟩ := Value.slice.inj hv1
      obtain ⟨rfl, hq2, rfl⟩ := Value.slice.inj hv2
      have hk0 : (0 : Int) ≤ (k : Int) := Int.natCast_nonneg _
      have hk1 : (k : Int) < (n : Int) := by omega
      clear hcell1 hcell2 hv1 hv2 hx hq1 hq2
      go_wp2_with fail
      go_quiet (fail)
      go_wp2_with fail
      exact ⟨⟨k + 1, by go_num, by omega, ⟨hbr.os, hbr.tape, hbr.output, hbr.size, hbr.block⟩⟩, by simp [intOf]; omega⟩
    · obtain rfl : k = n := by omega
      go_wp2_with fail
      go_ret
      exact ⟨rfl, hbr⟩
theorem expV_len : ∀ {rs : List Rn} {out l : List Int}, out.length ≤ 500 → expV out rs = some l → l.length ≤ 500 := by
  intro rs
  induction rs with
  | nil => intro out l h he; rw [expV] at he; cases he; exact h
  | cons r rs ih =>
    intro out l h he
    rw [expV] at he
    split at he
    · cases he
    · refine ih ?_ he
      rw [List.length_append, uptoV_len]; omega
theorem parseV_len (T : List UInt8) : (parseV T).1.length ≤ 500 := by
  by_cases hd : T = [45]
  · rw [hd]; exact Nat.zero_le _
  · cases hq : runsV none (cutF 44 [] T) with
    | none => rw [parse_form hd hq]; exact Nat.zero_le _
    | some rs =>
      cases hl : lessL (Lib.itoa 1000000000) (lastV rs) with
      | true => rw [parse_range hd hq hl]; exact Nat.zero_le _
      | false =>
        cases he : expV [] rs with
        | none => rw [parse_long hd hq hl he]; exact Nat.zero_le _
        | some l => rw [parse_good hd hq hl he]; exact expV_len (Nat.zero_le _) he

set_option maxRecDepth 100000 in
set_option maxHeartbeats 3200000 in
theorem wlists_any (v : Value) (l : List Int) (s : ByteArray) (w : World) (T : Ties w) (hm : MaxIs w) (hrl : 2 < w.heap.size) (hv : IntsArg w v l) (hr : ∀ n ∈ l, i64r n) (hll : l.length ≤ maxLen) :
    Calls Tryz.prog 3 #[v, .string s] w fun e w' => e = .returned (.bool true) ∧ Below w.heap.size w w' := by
  have CS : Hid (∀ w', Below w.heap.size w w' → Calls Tryz.prog 6 #[] w' fun e w'' => e = .returned (.bool true) ∧ Below w'.heap.size w' w'') := Lib.hid fun w' hb => shown_any w' (T w' hb) (T.below hb)
  obtain ⟨n, hn⟩ : ∃ n, l.length = n := ⟨_, rfl⟩
  obtain ⟨va, vc, rfl⟩ := intsArg_shape hv
  rw [hn] at hv hll ⊢
  unfold maxLen at hll
  by_cases hbig : 510 < n ∨ 2000 < s.size
  · have hdd : (decide ((510 : Int) < (n : Int)) = true) ∨ (decide ((510 : Int) < (n : Int)) = false ∧ decide ((2000 : Int) < (s.size : Int)) = true) := by
      by_cases h1 : 510 < n
      · exact .inl (decide_eq_true (by omega))
      · exact .inr ⟨decide_eq_false (by omega), decide_eq_true (by omega)⟩
    clear T hbig hv hr hm hll hn
    rcases hdd with hd2 | ⟨hd2, hd3⟩ <;> (
      go_enter Tryz.func3, Tryz.ntmps3
      go_wp2_with (go_at_call 6; refine (CS.out w (Below.refl _ _)).mono ?_; rintro e w1 ⟨rfl, hb1⟩)
      go_ret
      exact ⟨rfl, hb1⟩)
  · have hd1 : decide ((510 : Int) < (n : Int)) = false := decide_eq_false (by omega)
    have hd2 : decide ((2000 : Int) < (s.size : Int)) = false := decide_eq_false (by omega)
    have hsl : s.data.toList.length ≤ 50000 := by rw [len_list]; omega
    have hss : str s.data.toList = s := str_data s
    obtain ⟨X, hX⟩ : ∃ X, str (listS l).1 = X := ⟨_, rfl⟩
    obtain ⟨x0, hx0⟩ : ∃ x0, (listS l).2 = x0 := ⟨_, rfl⟩
    have C1 : Hid (Calls Tryz.prog 7 #[.slice va n vc] w fun e w' => e = .returned (.tuple #[.string X, .int .i64 x0]) ∧ Below w.heap.size w w') := Lib.hid (by
      have h := list_arg _ l w hv (by omega) hr T.tabs.pow T.tabs.hp
      unfold ListV at h
      rw [hX, hx0] at h; exact h)
    have C2 : Hid (∀ w', Below w.heap.size w w' → Calls Tryz.prog 8 #[.slice va n vc] w' fun e w'' => e = .returned (.tuple #[.string X, .int .i64 x0]) ∧ Below w'.heap.size w' w'') := Lib.hid fun w' hb => by
      have h := rlist_arg _ l w' (hv.below hb) (by omega) hr
      unfold ListV at h
      rw [hX, hx0] at h; exact h
    obtain ⟨M, hM⟩ : ∃ M, (parseV s.data.toList).1 = M := ⟨_, rfl⟩
    obtain ⟨y0, hy0⟩ : ∃ y0, (parseV s.data.toList).2 = y0 := ⟨_, rfl⟩
    have hMl : M.length ≤ 500 := by rw [← hM]; exact parseV_len _
    have C3 : Hid (∀ w', Below w.heap.size w w' → Calls Tryz.prog 9 #[.string s] w' fun e w'' => ∃ v, e = .returned (.tuple #[v, .int .i64 y0]) ∧ IntsAt w'' v M ∧ Below w'.heap.size w' w'') := Lib.hid fun w' hb => by
      have h := parse_any s.data.toList w' hsl (hm.below hb) (T w' hb).rng (Nat.lt_of_lt_of_le hrl hb.size) (T w' hb).pow (T w' hb).hp
      unfold PlOut at h
      rw [hM, hy0, hss] at h; exact h
    have C4 : Hid (∀ w', Calls Tryz.prog 10 #[.string s] w' fun e w'' => ∃ v, e = .returned (.tuple #[v, .int .i64 y0]) ∧ IntsAt w'' v M ∧ Below w'.heap.size w' w'') := Lib.hid fun w' => by
      have h := rparse_any s.data.toList w' hsl
      unfold PlOut at h
      rw [hM, hy0, hss] at h; exact h
    have C5 : Hid (∀ W v v', IntsAt W v M → IntsAt W v' M → Calls Tryz.prog 11 #[v, v'] W fun e w' => e = .returned (.bool true) ∧ Below W.heap.size W w') := Lib.hid fun W v v' h1 h2 => lists_any v v' M W h1 h2 (by omega)
    clear T hbig hv hr hm hll hn hsl hss hX hx0 hM hy0 hMl
    go_enter Tryz.func3, Tryz.ntmps3
    go_wp2_with fail
    refine C1.out.mono ?_
    rintro e w1 ⟨rfl, hb1⟩
    go_wp2_with fail
    refine (C2.out _ hb1).mono ?_
    rintro e w2 ⟨rfl, hb2⟩
    have hB2 := hb1.trans (hb2.mono hb1.size)
    go_wp2_with fail
    refine (C3.out _ hB2).mono ?_
    rintro e w3 ⟨v3, rfl, hf3, hb3⟩
    have HF3 := Lib.hid hf3
    have hB3 := hB2.trans (hb3.mono hB2.size)
    clear hf3
    go_wp2_with fail
    refine (C4.out _).mono ?_
    rintro e w4 ⟨v4, rfl, hf4, hb4⟩
    have HF4 := Lib.hid hf4
    have hB4 := hB3.trans (hb4.mono hB3.size)
    clear hf4
    go_wp2_with fail
    refine (C5.out _ _ _ (HF3.out.below hb4 (Nat.le_refl _)) HF4.out).mono ?_
    rintro e w5 ⟨rfl, hb5⟩
    have hB5 := hB4.trans (hb5.mono hB4.size)
    go_wp2_with fail
    refine (CS.out _ hB5).mono ?_
    rintro e w9 ⟨rfl, hb9⟩
    go_wp2_with fail
    go_ret
    exact ⟨rfl, hB5.trans (hb9.mono hB5.size)⟩
end Go.Proofs.YtnajkkbcfebegaaGreatDoor
