/- The reference's Decode whole; one, Class; the law RunesDecodes. -/
import Derived.Test.YtdiinlmeoifgjaaGreatDoorRref3
namespace Go.Proofs.YtdiinlmeoifgjaaGreatDoor
open Go.RowKit Go.PlainAid

theorem rdecode_any (v : Value) (l : List UInt8) (i : Int) (w : World) (h : ArgAt w v (l.map bc)) (hl : l.length ≤ 1000000) :
    Calls Tryz.prog 59 #[v, .int .i64 i] w fun e w' => e = .returned (decV (decAt l i)) ∧ Below w.heap.size w w' := by
  have hr := h.row
  obtain ⟨a, n, cap, rfl, hn, hcap, hs⟩ := h
  rw [List.length_map] at hn
  by_cases hi : i < 0 ∨ (n : Int) ≤ i
  · exact rdecode_out a l n cap i w hn hi
  · obtain ⟨k, rfl⟩ : ∃ k : Nat, i = k := ⟨i.toNat, by omega⟩
    rcases hr with ⟨_, _, hv, hnil⟩ | ⟨g, off, n', cap', hv, hn', hg, hc⟩
    · have := (Value.slice.inj hv).2.1; omega
    · obtain ⟨rfl, rfl, rfl⟩ := Value.slice.inj hv
      exact rdecode_in g off l n cap k w hn (by omega) hl hcap hg hc

def oneB (r : Int) (l : List UInt8) : Bool := l.any fun c => ub c == r
theorem oneB_no {r : Int} {l : List UInt8} (h : ∀ (j : Nat) (c : UInt8), l[j]? = some c → ub c ≠ r) : oneB r l = false := by
  unfold oneB; rw [List.any_eq_false]
  intro c hc
  obtain ⟨j, hj, rfl⟩ := List.getElem_of_mem hc
  have := h j _ (List.getElem?_eq_getElem hj)
  simpa using this
theorem oneB_yes {r : Int} {l : List UInt8} {j : Nat} {c : UInt8} (h : l[j]? = some c) (hc : ub c = r) : oneB r l = true := by
  unfold oneB; rw [List.any_eq_true]
  exact ⟨c, List.mem_of_getElem? h, by simpa using hc⟩

set_option maxHeartbeats 1600000 in
theorem one_any (r : Int) (l : List UInt8) (w : World) (hl : l.length ≤ 100) :
    Calls Tryz.prog 61 #[.int .i32 r, .string (str l)] w fun e w' => e = .returned (.bool (oneB r l)) ∧ w = w' := by
  have hgb := get_bt (str l)
  have hz := str_size l
  obtain ⟨t, ht⟩ : ∃ t, t = str l := ⟨_, rfl⟩
  rw [← ht] at hgb hz ⊢
  have HB : Hid (∀ j c, l[j]? = some c → bt t j = ub c) := Lib.hid (by
    intro j c hj
    obtain ⟨h1, h2⟩ := List.getElem?_eq_some_iff.1 hj
    rw [ht, bt_str l j h1, h2]; rfl)
  have HZ := Lib.hid hz
  have htl : t.size ≤ 100 := by omega
  clear hz ht hl
  go_enter Tryz.func61, Tryz.ntmps61
  go_wp2
  go_loop [5] (fun x5 => ∃ i : Nat, i ≤ t.size ∧ x5 = .int .i64 i ∧ Hid (∀ j c, j < i → l[j]? = some c → ub c ≠ r)) (fun x5 => t.size - (intOf x5).toNat)
  case atStart => exact ⟨0, Nat.zero_le _, rfl, Lib.hid fun j c h => by omega⟩
  case round =>
    obtain ⟨i, hi, rfl, HI⟩ := hrel
    by_cases hlt : i < t.size
    · obtain ⟨d, hd⟩ : ∃ d, l[i]? = some d := ⟨_, List.getElem?_eq_getElem (by rw [← HZ.out]; exact hlt)⟩
      have hbd := HB.out i d hd
      obtain ⟨hb0, hb9⟩ : 0 ≤ bt t i ∧ bt t i < 256 := by rw [hbd]; exact ub_bd d
      by_cases he : bt t i = r
      · have HE : Hid (oneB r l = true) := Lib.hid (oneB_yes hd (by rw [← hbd]; exact he))
        have heb : (bt t i == r) = true := beq_iff_eq.2 he
        clear hd hbd he
        go_wp2
        go_ret
        exact ⟨ret_bool HE.out.symm, rfl⟩
      · have HI' : Hid (∀ j c, j < i + 1 → l[j]? = some c → ub c ≠ r) := Lib.hid fun j c h1 h2 => by
          by_cases hj : j = i
          · subst hj
            rw [hd] at h2
            rw [← Option.some.inj h2, ← hbd]; exact he
          · exact HI.out j c (by omega) h2
        have heb : (bt t i == r) = false := beq_eq_false_iff_ne.2 he
        clear hd hbd he
        go_wp2
        go_round
        case rel => exact ⟨i + 1, by omega, by go_num, HI'⟩
        case measure => simp [intOf]; omega
    · have HE : Hid (oneB r l = false) := Lib.hid (oneB_no fun j c h => HI.out j c (by have := (List.getElem?_eq_some_iff.1 h).1; have := HZ.out; omega) h)
      go_wp2
      go_ret
      exact ⟨ret_bool HE.out.symm, rfl⟩
/-- What the reference's Class returns. -/
def rclsS (r : Int) : Int := if isR r = false then 0 else if oneB r [9, 10, 13, 32] then 1 else if oneB r [40, 91] then 2 else if oneB r [41, 93] then 3 else if r = 39 then 4 else if r = 35 then 5 else if r = 59 then 6
  else if 48 ≤ r ∧ r ≤ 57 then 7 else if r = 43 ∨ r = 45 then 8 else if (97 ≤ r ∧ r ≤ 122) ∨ (65 ≤ r ∧ r ≤ 90) ∨ 161 ≤ r ∨ oneB r [33, 36, 37, 38, 42, 47, 58, 60, 61, 62, 63, 94, 95, 126, 46, 64] = true then 9 else 10
theorem rcls_fin : ∀ n : Fin 161, rclsS (n.val : Int) = clsS (n.val : Int) := by decide +kernel
theorem oneB_big {r : Int} {l : List UInt8} (h : ∀ c ∈ l, ub c < 161) (hr : 161 ≤ r) : oneB r l = false := by
  unfold oneB; rw [List.any_eq_false]
  intro c hc
  have := h c hc
  simp; omega
theorem rcls_eq (r : Int) : rclsS r = clsS r := by
  by_cases hr : isR r = true
  · have hb := isR_iff.1 hr
    by_cases h9 : r < 161
    · have := rcls_fin ⟨r.toNat, by omega⟩
      simp only [Int.toNat_of_nonneg hb.1] at this; exact this
    · have e1 : clsS r = 9 := by unfold clsS; rw [hr, if_neg (by simp), if_pos (show 161 ≤ r by omega)]
      have e2 : rclsS r = 9 := by
        unfold rclsS
        rw [hr, if_neg (by simp), oneB_big (by decide) (by omega), if_neg (by simp), oneB_big (by decide) (by omega), if_neg (by simp), oneB_big (by decide) (by omega), if_neg (by simp),
          if_neg (by omega), if_neg (by omega), if_neg (by omega), if_neg (by omega), if_neg (by omega), if_pos (.inr (.inr (.inl (by omega))))]
      rw [e1, e2]
  · have hr' : isR r = false := by simpa using hr
    unfold rclsS clsS; rw [hr']; rfl

set_option maxRecDepth 100000 in
set_option maxHeartbeats 6400000 in
theorem rclass_any (r : Int) (w : World) : Calls Tryz.prog 53 #[.int .i32 r] w fun e w' => e = .returned (clsV r) ∧ w = w' := by
  have C : Hid (∀ (l : List UInt8) (s : ByteArray) (w : World), s = str l → l.length ≤ 100 → Calls Tryz.prog 61 #[.int .i32 r, .string s] w fun e w' => e = .returned (.bool (oneB r l)) ∧ w = w') := Lib.hid fun l s w hs hl => by
    rw [hs]; exact one_any r l w hl
  obtain ⟨b, hb⟩ : ∃ b, isR r = b := ⟨_, rfl⟩
  have CI : Hid (∀ w, Calls Tryz.prog 60 #[.int .i32 r] w fun e w' => e = .returned (.bool b) ∧ w = w') := Lib.hid (by rw [← hb]; exact fun w => is_any r w)
  obtain ⟨o1, h1⟩ : ∃ o, oneB r [9, 10, 13, 32] = o := ⟨_, rfl⟩
  obtain ⟨o2, h2⟩ : ∃ o, oneB r [40, 91] = o := ⟨_, rfl⟩
  obtain ⟨o3, h3⟩ : ∃ o, oneB r [41, 93] = o := ⟨_, rfl⟩
  obtain ⟨o4, h4⟩ : ∃ o, oneB r [33, 36, 37, 38, 42, 47, 58, 60, 61, 62, 63, 94, 95, 126, 46, 64] = o := ⟨_, rfl⟩
  have C1 : Hid (∀ w, Calls Tryz.prog 61 #[.int .i32 r, .string ⟨#[9, 10, 13, 32]⟩] w fun e w' => e = .returned (.bool o1) ∧ w = w') := Lib.hid (by rw [← h1]; exact fun w => C.out _ _ w rfl (by decide))
  have C2 : Hid (∀ w, Calls Tryz.prog 61 #[.int .i32 r, .string ⟨#[40, 91]⟩] w fun e w' => e = .returned (.bool o2) ∧ w = w') := Lib.hid (by rw [← h2]; exact fun w => C.out _ _ w rfl (by decide))
  have C3 : Hid (∀ w, Calls Tryz.prog 61 #[.int .i32 r, .string ⟨#[41, 93]⟩] w fun e w' => e = .returned (.bool o3) ∧ w = w') := Lib.hid (by rw [← h3]; exact fun w => C.out _ _ w rfl (by decide))
  have C4 : Hid (∀ w, Calls Tryz.prog 61 #[.int .i32 r, .string ⟨#[33, 36, 37, 38, 42, 47, 58, 60, 61, 62, 63, 94, 95, 126, 46, 64]⟩] w fun e w' => e = .returned (.bool o4) ∧ w = w') := Lib.hid (by rw [← h4]; exact fun w => C.out _ _ w rfl (by decide))
  have HV : Hid (∀ x y, (if b = false then (0 : Int) else if o1 then 1 else if o2 then 2 else if o3 then 3 else if r = 39 then 4 else if r = 35 then 5 else if r = 59 then 6
      else if 48 ≤ r ∧ r ≤ 57 then 7 else if r = 43 ∨ r = 45 then 8 else if (97 ≤ r ∧ r ≤ 122) ∨ (65 ≤ r ∧ r ≤ 90) ∨ 161 ≤ r ∨ o4 = true then 9 else 10) = x → (if b then (0 : Int) else 7) = y → clsV r = .tuple #[.int .i64 x, .int .i64 y]) := Lib.hid (by
    rintro x y hx hy
    have : clsS r = x := by rw [← rcls_eq]; unfold rclsS; rw [hb, h1, h2, h3, h4]; exact hx
    unfold clsV; rw [this, hb, hy])
  clear C hb h1 h2 h3 h4
  go_enter Tryz.func53, Tryz.ntmps53
  go_wp2_with fail
  refine (CI.out _).mono ?_
  rintro e w1 ⟨rfl, rfl⟩
  cases b
  · go_wp2_with fail
    go_ret2
    exact ⟨(congrArg Ending.returned (HV.out 0 7 rfl rfl)).symm, rfl⟩
  go_wp2_with fail
  refine (C1.out _).mono ?_
  rintro e w1 ⟨rfl, rfl⟩
  cases o1
  case true =>
    go_wp2_with fail
    go_ret2
    exact ⟨(congrArg Ending.returned (HV.out 1 0 rfl rfl)).symm, rfl⟩
  go_wp2_with fail
  refine (C2.out _).mono ?_
  rintro e w1 ⟨rfl, rfl⟩
  cases o2
  case true =>
    go_wp2_with fail
    go_ret2
    exact ⟨(congrArg Ending.returned (HV.out 2 0 rfl rfl)).symm, rfl⟩
  go_wp2_with fail
  refine (C3.out _).mono ?_
  rintro e w1 ⟨rfl, rfl⟩
  cases o3
  case true =>
    go_wp2_with fail
    go_ret2
    exact ⟨(congrArg Ending.returned (HV.out 3 0 rfl rfl)).symm, rfl⟩
  have HW : Hid (∀ x, (if r = 39 then (4 : Int) else if r = 35 then 5 else if r = 59 then 6
      else if 48 ≤ r ∧ r ≤ 57 then 7 else if r = 43 ∨ r = 45 then 8 else if (97 ≤ r ∧ r ≤ 122) ∨ (65 ≤ r ∧ r ≤ 90) ∨ 161 ≤ r ∨ o4 = true then 9 else 10) = x → clsV r = .tuple #[.int .i64 x, .int .i64 0]) := Lib.hid fun x hx => HV.out x 0 hx rfl
  clear HV
  by_cases h43 : r = 43
  · subst h43
    go_wp2_with fail
    go_ret2
    exact ⟨(congrArg Ending.returned (HW.out 8 rfl)).symm, rfl⟩
  have h43' : (r == 43) = false := beq_eq_false_iff_ne.2 h43
  go_wp2_with (go_at_call 61; refine (C4.out _).mono ?_; rintro e w1 ⟨rfl, rfl⟩)
  all_goals
    go_ret2
    refine ⟨(congrArg Ending.returned (HW.out _ ?_)).symm, by trivial⟩
    clear HW C1 C2 C3 C4 CI
    simp only [beq_iff_eq, beq_eq_false_iff_ne, ne_eq] at *
    first
      | (exfalso; omega)
      | rw [if_pos (by omega)]
      | rw [if_neg (by omega), if_pos (by omega)]
      | rw [if_neg (by omega), if_neg (by omega), if_pos (by omega)]
      | rw [if_neg (by omega), if_neg (by omega), if_neg (by omega), if_pos (by omega)]
      | rw [if_neg (by omega), if_neg (by omega), if_neg (by omega), if_neg (by omega), if_pos (by omega)]
      | rw [if_neg (by omega), if_neg (by omega), if_neg (by omega), if_neg (by omega), if_neg (by omega), if_pos (.inl (by omega))]
      | rw [if_neg (by omega), if_neg (by omega), if_neg (by omega), if_neg (by omega), if_neg (by omega), if_pos (.inr (.inl (by omega)))]
      | rw [if_neg (by omega), if_neg (by omega), if_neg (by omega), if_neg (by omega), if_neg (by omega), if_pos (.inr (.inr (.inl (by omega))))]
      | rw [if_neg (by omega), if_neg (by omega), if_neg (by omega), if_neg (by omega), if_neg (by omega), if_pos (.inr (.inr (.inr (by assumption))))]
      | (rw [if_neg (by omega), if_neg (by omega), if_neg (by omega), if_neg (by omega), if_neg (by omega), if_neg]
         rintro (h | h | h | h)
         all_goals first | omega | simp_all)
end Go.Proofs.YtdiinlmeoifgjaaGreatDoor
