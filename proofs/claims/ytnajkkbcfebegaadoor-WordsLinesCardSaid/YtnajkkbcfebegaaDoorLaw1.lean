/- The laws WordsNames and WordsQuotes, walked. -/
import Derived.Test.YtnajkkbcfebegaaDoorShown
namespace Go.Proofs.YtnajkkbcfebegaaDoor
open Go.RowKit Go.PlainAid

def Ties (w : World) : Prop := ∀ w', Below w.heap.size w w' → Tabs w'
theorem Ties.tabs {w : World} (h : Ties w) : Tabs w := h w (Below.refl _ _)
theorem Ties.below {w w' : World} (h : Ties w) (hb : Below w.heap.size w w') : Ties w' := fun w'' hb' => h w'' (hb.trans (hb'.mono hb.size))

set_option maxRecDepth 50000 in
set_option maxHeartbeats 1600000 in
theorem names_any (s : ByteArray) (low high : Int) (w : World) (T : Ties w) (hlo : i64r low) (hhi : i64r high) :
    Calls Tryd.prog 3 #[.string s, .int .i64 low, .int .i64 high] w fun e w' => e = .returned (.bool true) ∧ Below w.heap.size w w' := by
  have CS : Hid (∀ w', Below w.heap.size w w' → Calls Tryd.prog 9 #[] w' fun e w'' => e = .returned (.bool true) ∧ Below w'.heap.size w' w'') := Lib.hid fun w' hb => shown_any w' (T w' hb) (T.below hb)
  by_cases hs : 1000 < s.size
  · have hd : decide ((1000 : Int) < (s.size : Int)) = true := decide_eq_true (by omega)
    clear T
    go_enter Tryd.func3, Tryd.ntmps3
    go_wp2_with (go_at_call 9; refine (CS.out w (Below.refl _ _)).mono ?_; rintro e w1 ⟨rfl, hb1⟩)
    go_ret
    exact ⟨rfl, hb1⟩
  · have hd : decide ((1000 : Int) < (s.size : Int)) = false := decide_eq_false (by omega)
    obtain ⟨a, ha⟩ : ∃ a, a = (intS s.data.toList low high).1 := ⟨_, rfl⟩
    obtain ⟨b, hb⟩ : ∃ b, b = (intS s.data.toList low high).2 := ⟨_, rfl⟩
    obtain ⟨nb, hnb⟩ : ∃ nb, nb = nameB s := ⟨_, rfl⟩
    have C1 : Hid (Calls Tryd.prog 10 #[.string s, .int .i64 low, .int .i64 high] w fun e w' => e = .returned (.tuple #[.int .i64 a, .int .i64 b]) ∧ Below w.heap.size w w') := Lib.hid (by
      rw [ha, hb]; exact int_any s low high w (by omega) T.tabs.rng)
    have C2 : Hid (∀ w', Calls Tryd.prog 11 #[.string s, .int .i64 low, .int .i64 high] w' fun e w'' => e = .returned (.tuple #[.int .i64 a, .int .i64 b]) ∧ Below w'.heap.size w' w'') := Lib.hid (by
      rw [ha, hb]; exact fun w' => rint_any s low high w' (by omega))
    have C3 : Hid (∀ w', Calls Tryd.prog 12 #[.string s] w' fun e w'' => e = .returned (.bool nb) ∧ w' = w'') := Lib.hid (by
      rw [hnb]; exact fun w' => name_any s w' (by unfold maxLen; omega))
    have C4 : Hid (∀ w', Calls Tryd.prog 13 #[.string s] w' fun e w'' => e = .returned (.bool nb) ∧ w' = w'') := Lib.hid (by
      rw [hnb]; exact fun w' => rname_any s w' (by unfold maxLen; omega))
    have C5 : Hid (∀ n w', i64r n → Below w.heap.size w w' → Calls Tryd.prog 14 #[.int .i64 n] w' fun e w'' => e = .returned (.string (str (Lib.itoa n))) ∧ Below w'.heap.size w' w'') := Lib.hid fun n w' hn hb => digits_any n w' hn (T w' hb).pow
    have C6 : Hid (∀ n w', i64r n → Calls Tryd.prog 15 #[.int .i64 n] w' fun e w'' => e = .returned (.string (str (Lib.itoa n))) ∧ Below w'.heap.size w' w'') := Lib.hid fun n w' hn => rdigits_any _ n w' (Nat.le_refl _) hn
    clear T ha hb hnb
    have hB := Below.refl w.heap.size w
    go_enter Tryd.func3, Tryd.ntmps3
    go_wp2_with (first
      | (go_at_call 10; refine C1.out.mono ?_; rintro e w1 ⟨rfl, hb1⟩; have hB := hb1)
      | (go_at_call 11; refine (C2.out _).mono ?_; rintro e w2 ⟨rfl, hb2⟩; have hB := hB.trans (hb2.mono hB.size))
      | (go_at_call 12; refine (C3.out _).mono ?_; rintro e w3 ⟨rfl, rfl⟩)
      | (go_at_call 13; refine (C4.out _).mono ?_; rintro e w4 ⟨rfl, rfl⟩)
      | (go_at_call 14; refine (C5.out _ _ (by assumption) hB).mono ?_; rintro e w5 ⟨rfl, hb5⟩; have hB := hB.trans (hb5.mono hB.size))
      | (go_at_call 15; refine (C6.out _ _ (by assumption)).mono ?_; rintro e w6 ⟨rfl, hb6⟩; have hB := hB.trans (hb6.mono hB.size))
      | (go_at_call 9; refine (CS.out _ hB).mono ?_; rintro e w9 ⟨rfl, hb9⟩; have hB := hB.trans (hb9.mono hB.size)))
    go_ret
    exact ⟨rfl, hB⟩

set_option maxRecDepth 50000 in
set_option maxHeartbeats 1600000 in
theorem quotes_any (s : ByteArray) (w : World) (T : Ties w) :
    Calls Tryd.prog 4 #[.string s] w fun e w' => e = .returned (.bool true) ∧ Below w.heap.size w w' := by
  have CS : Hid (∀ w', Below w.heap.size w w' → Calls Tryd.prog 9 #[] w' fun e w'' => e = .returned (.bool true) ∧ Below w'.heap.size w' w'') := Lib.hid fun w' hb => shown_any w' (T w' hb) (T.below hb)
  by_cases hs : 1000 < s.size
  · have hd : decide ((1000 : Int) < (s.size : Int)) = true := decide_eq_true (by omega)
    clear T
    go_enter Tryd.func4, Tryd.ntmps4
    go_wp2_with (go_at_call 9; refine (CS.out w (Below.refl _ _)).mono ?_; rintro e w1 ⟨rfl, hb1⟩)
    go_ret
    exact ⟨rfl, hb1⟩
  · have hd : decide ((1000 : Int) < (s.size : Int)) = false := decide_eq_false (by omega)
    obtain ⟨t, c, htc⟩ : ∃ (t : ByteArray) (c : Int), (match unqS s with | some l => Value.tuple #[.string (str l), .int .i64 0] | none => .tuple #[.string (str []), .int .i64 6]) = .tuple #[.string t, .int .i64 c] := by
      cases unqS s with
      | none => exact ⟨_, _, rfl⟩
      | some l => exact ⟨_, _, rfl⟩
    obtain ⟨q, hq⟩ : ∃ q, q = str (quoteL s.data.toList) := ⟨_, rfl⟩
    have C1 : Hid (Calls Tryd.prog 16 #[.string s] w fun e w' => e = .returned (.tuple #[.string t, .int .i64 c]) ∧ Below w.heap.size w w') := Lib.hid (by
      rw [← htc]; exact unquote_any s w (by omega) T.tabs.esc (Nat.lt_of_le_of_lt (Nat.zero_le _) T.tabs.he))
    have C2 : Hid (∀ w', Calls Tryd.prog 17 #[.string s] w' fun e w'' => e = .returned (.tuple #[.string t, .int .i64 c]) ∧ Below w'.heap.size w' w'') := Lib.hid (by
      rw [← htc]; exact fun w' => runquote_any s w' (by omega))
    have C3 : Hid (∀ w', Below w.heap.size w w' → Calls Tryd.prog 18 #[.string s] w' fun e w'' => e = .returned (.string q) ∧ Below w'.heap.size w' w'') := Lib.hid (by
      rw [hq]; exact fun w' hb => quote_any s w' (by omega) (T w' hb).esc (T w' hb).he)
    have C4 : Hid (∀ w', Calls Tryd.prog 19 #[.string s] w' fun e w'' => e = .returned (.string q) ∧ Below w'.heap.size w' w'') := Lib.hid (by
      rw [hq]; exact fun w' => rquote_any s w' (by omega))
    clear T htc hq
    have hB := Below.refl w.heap.size w
    go_enter Tryd.func4, Tryd.ntmps4
    go_wp2_with (first
      | (go_at_call 16; refine C1.out.mono ?_; rintro e w1 ⟨rfl, hb1⟩; have hB := hb1)
      | (go_at_call 17; refine (C2.out _).mono ?_; rintro e w2 ⟨rfl, hb2⟩; have hB := hB.trans (hb2.mono hB.size))
      | (go_at_call 18; refine (C3.out _ hB).mono ?_; rintro e w3 ⟨rfl, hb3⟩; have hB := hB.trans (hb3.mono hB.size))
      | (go_at_call 19; refine (C4.out _).mono ?_; rintro e w4 ⟨rfl, hb4⟩; have hB := hB.trans (hb4.mono hB.size))
      | (go_at_call 9; refine (CS.out _ hB).mono ?_; rintro e w9 ⟨rfl, hb9⟩; have hB := hB.trans (hb9.mono hB.size)))
    go_ret
    exact ⟨rfl, hB⟩
end Go.Proofs.YtnajkkbcfebegaaDoor
