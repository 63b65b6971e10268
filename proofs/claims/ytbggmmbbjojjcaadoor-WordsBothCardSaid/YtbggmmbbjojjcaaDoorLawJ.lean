/- The law WordsJoins, walked. -/
import Derived.Test.YtbggmmbbjojjcaaDoorJoin
import Derived.Test.YtbggmmbbjojjcaaDoorShelfJ
import Derived.Test.YtbggmmbbjojjcaaDoorLaw1
namespace Go.Proofs.YtbggmmbbjojjcaaDoor
open Go.RowKit Go.PlainAid

theorem len_ok : LenOK := fun B b l w h => by
  have := Tryd.Builder_Len B b (l.map bc) w h
  rw [List.length_map] at this; exact this
theorem str_ok : StrOK := fun B b l w h hB => Tryd.Builder_String_any B b l w h hB

/-- far: if it says false, there are few fields. -/
def FarV (l : List Fld) (w : World) (e : Ending) (w' : World) : Prop := ∃ b, e = .returned (.bool b) ∧ (b = false → l.length ≤ 70) ∧ Below w.heap.size w w'
set_option maxRecDepth 50000 in
set_option maxHeartbeats 1600000 in
theorem far_any (v : Value) (l : List Fld) (w : World) (h : FldsAt w v l) : Calls Tryd.prog 23 #[v] w (FarV l w) := by
  rcases h with ⟨rfl, rfl⟩ | ⟨g, off, cap, rfl, hg, hc⟩
  · go_enter Tryd.func23, Tryd.ntmps23
    go_wp2
    go_loop [3, 4] (fun n i => n = .int .i64 0 ∧ i = .int .i64 0) (fun _ _ => 0)
    case atStart => exact ⟨rfl, rfl⟩
    case round =>
      obtain ⟨rfl, rfl⟩ := hrel
      go_wp2
      go_ret
      exact ⟨_, rfl, fun _ => Nat.zero_le _, Below.refl _ _⟩
  · have HC : Hid (∀ (wr : World) (k : Nat) (x : Fld), Below w.heap.size w wr → l[k]? = some x → wr.cell? ⟨g, off + k * 2, none⟩ = some (.string (str x.1)) ∧ wr.cell? ⟨g, off + k * 2 + 1, none⟩ = some (.bool x.2)) :=
      Lib.hid fun wr k x hb hx => ⟨(hb.cell (p := ⟨g, off + k * 2, none⟩) hg).trans (hc _ _ (fcs_at l hx).1), (hb.cell (p := ⟨g, off + k * 2 + 1, none⟩) hg).trans (hc _ _ (fcs_at l hx).2)⟩
    clear hc
    by_cases h70 : 70 < l.length
    · have hd : decide ((70 : Int) < (l.length : Int)) = true := decide_eq_true (by omega)
      go_enter Tryd.func23, Tryd.ntmps23
      go_wp2
      go_ret
      exact ⟨_, rfl, (fun e => by cases e), Below.refl _ _⟩
    · have hd : decide ((70 : Int) < (l.length : Int)) = false := decide_eq_false (by omega)
      go_enter Tryd.func23, Tryd.ntmps23
      go_wp2
      go_loopw [3, 4] (fun n i wr => ∃ k m : Nat, k ≤ l.length ∧ i = .int .i64 k ∧ n = .int .i64 m ∧ m ≤ 2100 * k ∧ Below w.heap.size w wr) (fun _ i _ => l.length - (intOf i).toNat)
      case atStart => exact ⟨0, 0, Nat.zero_le _, rfl, rfl, Nat.zero_le _, Below.refl _ _⟩
      case round =>
        obtain ⟨k, m, hk, rfl, rfl, hm, hbel⟩ := hrel
        by_cases hlt : k < l.length
        · obtain ⟨x, hxk⟩ : ∃ x, l[k]? = some x := ⟨_, List.getElem?_eq_getElem hlt⟩
          obtain ⟨c0, c1⟩ := HC.out wr k x hbel hxk
          have hkl : (k : Int) < (l.length : Int) := by omega
          have hk0 : (0 : Int) ≤ (k : Int) := Int.natCast_nonneg _
          clear hxk
          obtain ⟨z, hz⟩ : ∃ z, (str x.1).size = z := ⟨_, rfl⟩
          by_cases hbig : 2100 < z
          · have hd2 : decide ((2100 : Int) < (z : Int)) = true := decide_eq_true (by omega)
            clear hbig
            go_wp2
            go_ret
            exact ⟨_, rfl, (fun e => by cases e), hbel⟩
          · have hd2 : decide ((2100 : Int) < (z : Int)) = false := decide_eq_false (by omega)
            go_wp2
            go_roundw
            case rel => exact ⟨k + 1, m + z, by omega, by go_num, by go_num, by omega, hbel⟩
            case measure => simp [intOf]; omega
        · obtain rfl : k = l.length := by omega
          go_wp2
          go_ret
          exact ⟨_, rfl, fun _ => by omega, hbel⟩

set_option maxRecDepth 50000 in
set_option maxHeartbeats 1600000 in
theorem joins_any (v : Value) (l : List Fld) (w : World) (T : Ties w) (h : FldsAt w v l) :
    Calls Tryd.prog 6 #[v] w fun e w' => e = .returned (.bool true) ∧ Below w.heap.size w w' := by
  have CS : Hid (∀ w', Below w.heap.size w w' → Calls Tryd.prog 9 #[] w' fun e w'' => e = .returned (.bool true) ∧ Below w'.heap.size w' w'') := Lib.hid fun w' hb => shown_any w' (T w' hb) (T.below hb)
  have C0 := Lib.hid (far_any v l w h)
  obtain ⟨S0, hS0⟩ : ∃ x, (joinS l).1 = x := ⟨_, rfl⟩
  obtain ⟨E0, hE0⟩ : ∃ x, (joinS l).2 = x := ⟨_, rfl⟩
  have hJV : joinV l = .tuple #[.string (str S0), .int .i64 E0] := by unfold joinV; rw [hS0, hE0]
  have C1 : Hid (∀ w', l.length ≤ 70 → Below w.heap.size w w' → Calls Tryd.prog 24 #[v] w' fun e w'' => e = .returned (.tuple #[.string (str S0), .int .i64 E0]) ∧ Below w'.heap.size w' w'') := Lib.hid fun w' hl hb => by
    rw [← hJV]; exact join_any len_ok str_ok v l w' (T w' hb).esc (T w' hb).he (h.below hb (Nat.le_refl _)) (by omega)
  have C2 : Hid (∀ w', l.length ≤ 70 → Below w.heap.size w w' → Calls Tryd.prog 25 #[v] w' fun e w'' => e = .returned (.tuple #[.string (str S0), .int .i64 E0]) ∧ Below w'.heap.size w' w'') := Lib.hid fun w' hl hb => by
    rw [← hJV]; exact rjoin_any v l w' (h.below hb (Nat.le_refl _)) (by omega)
  clear T h hS0 hE0 hJV
  go_enter Tryd.func6, Tryd.ntmps6
  go_wp2_with fail
  refine C0.out.mono ?_
  rintro e w1 ⟨b, rfl, hb70, hb1⟩
  cases b with
  | true =>
    go_wp2_with (go_at_call 9; refine (CS.out _ hb1).mono ?_; rintro e w9 ⟨rfl, hb9⟩)
    go_ret
    exact ⟨rfl, hb1.trans (hb9.mono hb1.size)⟩
  | false =>
    have hl70 := hb70 rfl
    clear hb70
    go_wp2_with fail
    refine (C1.out _ hl70 hb1).mono ?_
    rintro e w2 ⟨rfl, hb2⟩
    have hB2 := hb1.trans (hb2.mono hb1.size)
    go_wp2_with fail
    refine (C2.out _ hl70 hB2).mono ?_
    rintro e w3 ⟨rfl, hb3⟩
    have hB3 := hB2.trans (hb3.mono hB2.size)
    go_wp2_with (go_at_call 9; refine (CS.out _ hB3).mono ?_; rintro e w9 ⟨rfl, hb9⟩)
    go_ret
    exact ⟨rfl, hB3.trans (hb9.mono hB3.size)⟩
end Go.Proofs.YtbggmmbbjojjcaaDoor
