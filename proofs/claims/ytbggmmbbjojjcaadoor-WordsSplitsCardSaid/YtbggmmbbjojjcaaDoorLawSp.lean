/- The law WordsSplits, walked. -/
import Derived.Test.YtbggmmbbjojjcaaDoorRSplit
import Derived.Test.YtbggmmbbjojjcaaDoorLaw1
namespace Go.Proofs.YtbggmmbbjojjcaaDoor
open Go.RowKit Go.PlainAid

theorem rsplit_big (s : ByteArray) (w : World) (hs : 8192 < s.size) : Calls Tryd.prog 21 #[.string s] w (SplitV s w) := by
  have hr : decide ((8192 : Int) < (s.size : Int)) = true := decide_eq_true (by omega)
  have HV : Hid (splitS s.data.toList = ([], 3)) := Lib.hid (by
    unfold splitS; rw [if_pos (by rw [len_list]; exact hs)])
  go_enter Tryd.func21, Tryd.ntmps21
  go_wp2_with fail
  go_returns
  exact ⟨_, by rw [HV.out]; rfl, by rw [HV.out]; exact ⟨rfl, .inl ⟨rfl, rfl⟩⟩, Below.refl _ _⟩
theorem rsplit_none (s : ByteArray) (w : World) (hs : s.size = 0) : Calls Tryd.prog 21 #[.string s] w (SplitV s w) := by
  have hr : decide ((8192 : Int) < (s.size : Int)) = false := decide_eq_false (by omega)
  have he := empty_yes hs
  have HV : Hid (splitS s.data.toList = ([], 0)) := Lib.hid (by
    have : s.data.toList = [] := List.eq_nil_of_length_eq_zero (by rw [len_list]; exact hs)
    rw [this]; rfl)
  clear hs
  go_enter Tryd.func21, Tryd.ntmps21
  go_wp2_with fail
  go_returns
  exact ⟨_, by rw [HV.out]; rfl, by rw [HV.out]; exact ⟨rfl, .inl ⟨rfl, rfl⟩⟩, Below.refl _ _⟩
theorem rsplit_any (s : ByteArray) (w : World) : Calls Tryd.prog 21 #[.string s] w (SplitV s w) := by
  by_cases h1 : 8192 < s.size
  · exact rsplit_big s w h1
  · by_cases h2 : s.size = 0
    · exact rsplit_none s w h2
    · exact rsplit_in s w (by omega) (by omega)

set_option maxRecDepth 50000 in
set_option maxHeartbeats 1600000 in
theorem splits_any (s : ByteArray) (w : World) (T : Ties w) :
    Calls Tryd.prog 5 #[.string s] w fun e w' => e = .returned (.bool true) ∧ Below w.heap.size w w' := by
  have CS : Hid (∀ w', Below w.heap.size w w' → Calls Tryd.prog 9 #[] w' fun e w'' => e = .returned (.bool true) ∧ Below w'.heap.size w' w'') := Lib.hid fun w' hb => shown_any w' (T w' hb) (T.below hb)
  by_cases hb : s.size ≤ 3000 ∨ (8192 < s.size ∧ s.size ≤ 9000)
  · obtain ⟨L, hL⟩ : ∃ L, (splitS s.data.toList).1 = L := ⟨_, rfl⟩
    obtain ⟨e0, he0⟩ : ∃ e0, (splitS s.data.toList).2 = e0 := ⟨_, rfl⟩
    have hLl : L.length ≤ 1000000 := by
      rw [← hL]; unfold splitS
      have := fldsOf_len s.data.toList
      rw [len_list] at this
      split
      · simp
      · split
        · simp
        · split
          · simp
          · simp only [List.length_map]; omega
    have KV : Hid (∀ W e w1, SplitV s W e w1 → ∃ v, e = .returned (.tuple #[v, .int .i64 e0]) ∧ FldsAt w1 v L ∧ Below W.heap.size W w1) := Lib.hid fun W e w1 ⟨v, h1, h2, h3⟩ => by
      rw [he0] at h1
      rw [hL] at h2
      exact ⟨v, h1, FldsAt.own h2, h3⟩
    have C1 := Lib.hid (split_any s w T.tabs.esc T.tabs.he)
    have C2 : Hid (∀ W, Calls Tryd.prog 21 #[.string s] W (SplitV s W)) := Lib.hid fun W => rsplit_any s W
    have C3 : Hid (∀ W v v', FldsAt W v L → FldsAt W v' L → Calls Tryd.prog 22 #[v, v'] W fun e w' => e = .returned (.bool true) ∧ Below W.heap.size W w') := Lib.hid fun W v v' h1 h2 => by
      have := same_any v v' L L W h1 h2 hLl
      rw [decide_eq_true rfl] at this; exact this
    have hdd : (decide ((3000 : Int) < (s.size : Int)) = false) ∨ (decide ((3000 : Int) < (s.size : Int)) = true ∧ decide ((s.size : Int) ≤ (8192 : Int)) = false) := by
      rcases hb with hb | hb
      · exact .inl (decide_eq_false (by omega))
      · exact .inr ⟨decide_eq_true (by omega), decide_eq_false (by omega)⟩
    have hd3 : decide ((9000 : Int) < (s.size : Int)) = false := decide_eq_false (by omega)
    clear T hb hL he0 hLl
    rcases hdd with hd1 | ⟨hd1, hd2⟩ <;> (
      go_enter Tryd.func5, Tryd.ntmps5
      go_wp2_with fail
      refine C1.out.mono ?_
      intro e w1 hsp
      obtain ⟨v1, rfl, hf1, hb1⟩ := KV.out _ _ _ hsp
      have HF1 := Lib.hid hf1
      clear hsp hf1
      go_wp2_with fail
      refine (C2.out _).mono ?_
      intro e w2 hsp
      obtain ⟨v2, rfl, hf2, hb2⟩ := KV.out _ _ _ hsp
      have HF2 := Lib.hid hf2
      clear hsp hf2
      have hB2 := hb1.trans (hb2.mono hb1.size)
      go_wp2_with fail
      refine (C3.out _ _ _ (HF1.out.below hb2 (Nat.le_refl _)) HF2.out).mono ?_
      rintro e w3 ⟨rfl, hb3⟩
      have hB3 := hB2.trans (hb3.mono hB2.size)
      go_wp2_with (go_at_call 9; refine (CS.out _ hB3).mono ?_; rintro e w9 ⟨rfl, hb9⟩)
      go_ret
      exact ⟨rfl, hB3.trans (hb9.mono hB3.size)⟩)
  · have hd1 : decide ((3000 : Int) < (s.size : Int)) = true := decide_eq_true (by omega)
    have hdd : (decide ((s.size : Int) ≤ (8192 : Int)) = true) ∨ (decide ((s.size : Int) ≤ (8192 : Int)) = false ∧ decide ((9000 : Int) < (s.size : Int)) = true) := by
      by_cases h1 : s.size ≤ 8192
      · exact .inl (decide_eq_true (by omega))
      · exact .inr ⟨decide_eq_false (by omega), decide_eq_true (by omega)⟩
    clear T hb
    rcases hdd with hd2 | ⟨hd2, hd3⟩ <;> (
      go_enter Tryd.func5, Tryd.ntmps5
      go_wp2_with (go_at_call 9; refine (CS.out w (Below.refl _ _)).mono ?_; rintro e w1 ⟨rfl, hb1⟩)
      go_ret
      exact ⟨rfl, hb1⟩)
end Go.Proofs.YtbggmmbbjojjcaaDoor
