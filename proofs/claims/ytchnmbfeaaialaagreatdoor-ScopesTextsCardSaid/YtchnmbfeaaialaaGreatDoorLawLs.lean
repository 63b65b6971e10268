/- The law WordsLists, walked. -/
import Derived.Test.YtchnmbfeaaialaaGreatDoorPlH
namespace Go.Proofs.YtchnmbfeaaialaaGreatDoor
open Go.RowKit Go.PlainAid

/-- A slice of numbers that came in: it may have an address though it is empty. -/
def IntsArg (W : World) (v : Value) (l : List Int) : Prop := (∃ a c, v = .slice a 0 c ∧ l = []) ∨ IntsAt W v l
theorem IntsArg.below {w w' : World} {v : Value} {l : List Int} (h : IntsArg w v l) (hb : Below w.heap.size w w') : IntsArg w' v l := h.imp id fun h => h.below hb (Nat.le_refl _)
theorem intsAt_shape {w : World} {v : Value} {l : List Int} (h : IntsAt w v l) : ∃ a c, v = .slice a l.length c := by
  rcases h with ⟨rfl, rfl⟩ | ⟨g, off, cap, rfl, _⟩
  · exact ⟨_, _, rfl⟩
  · exact ⟨_, _, rfl⟩
theorem intsArg_shape {w : World} {v : Value} {l : List Int} (h : IntsArg w v l) : ∃ a c, v = .slice a l.length c := by
  rcases h with ⟨a, c, rfl, rfl⟩ | h
  · exact ⟨_, _, rfl⟩
  · exact intsAt_shape h
set_option maxHeartbeats 800000 in
theorem list_none (a : Option Addr) (c : Nat) (w : World) : Calls Tryz.prog 15 #[.slice a 0 c] w (ListV [] w) := by
  have hV := Lib.hid (listS_0 (l := []) rfl)
  go_enter Tryz.func15, Tryz.ntmps15
  go_wp2
  go_loop [15] (fun i => i = .int .i64 0) (fun _ => 0)
  case atStart => rfl
  case round =>
    subst hrel
    go_wp2
    go_loop [6] (fun i => i = .int .i64 1) (fun _ => 0)
    case atStart => rfl
    case round =>
      subst hrel
      go_wp2
      go_ret2
      exact listV_of hV.out rfl (Below.refl _ _)
set_option maxHeartbeats 800000 in
theorem rlist_none (a : Option Addr) (c : Nat) (w : World) : Calls Tryz.prog 17 #[.slice a 0 c] w (ListV [] w) := by
  have hV := Lib.hid (listS_0 (l := []) rfl)
  go_enter Tryz.func17, Tryz.ntmps17
  go_wp2
  go_loop [4] (fun i => i = .int .i64 0) (fun _ => 0)
  case atStart => rfl
  case round =>
    subst hrel
    go_wp2
    go_loop [5] (fun i => i = .int .i64 1) (fun _ => 0)
    case atStart => rfl
    case round =>
      subst hrel
      go_wp2
      go_ret2
      exact listV_of hV.out rfl (Below.refl _ _)
theorem list_arg (v : Value) (l : List Int) (w : World) (h : IntsArg w v l) (hl : l.length ≤ 1000000) (hr : ∀ n ∈ l, i64r n) (hp : PowIs w) (hpw : 1 < w.heap.size) :
    Calls Tryz.prog 15 #[v] w (ListV l w) := by
  rcases h with ⟨a, c, rfl, rfl⟩ | h
  · exact list_none a c w
  · exact list_any v l w h hl hr hp hpw
theorem rlist_arg (v : Value) (l : List Int) (w : World) (h : IntsArg w v l) (hl : l.length ≤ 1000000) (hr : ∀ n ∈ l, i64r n) :
    Calls Tryz.prog 17 #[v] w (ListV l w) := by
  rcases h with ⟨a, c, rfl, rfl⟩ | ⟨rfl, rfl⟩ | ⟨g, off, cap, rfl, hg, hc⟩
  · exact rlist_none a c w
  · exact rlist_none _ _ w
  · exact rlist_some g off cap l w hl hg hr hc

theorem expV_len : ∀ {rs : List Rn} {out l : List Int}, out.length ≤ 500 → expV out rs = some l → l.length ≤ 500 := by
  intro rs
  induction rs with
  | nil => intro out l h he; rw [expV] at he; cases he; exact h
  | cons r rs ih =>
    intro out l h he
    rw [expV] at he
    split at he
    · cases he
    · refine ih ?_ he
      rw [List.length_append, uptoV_len]; omega
theorem parseV_len (T : List UInt8) : (parseV T).1.length ≤ 500 := by
  by_cases hd : T = [45]
  · rw [hd]; exact Nat.zero_le _
  · cases hq : runsV none (cutF 44 [] T) with
    | none => rw [parse_form hd hq]; exact Nat.zero_le _
    | some rs =>
      cases hl : lessL (Lib.itoa 1000000000) (lastVW rs) with
      | true => rw [parse_range hd hq hl]; exact Nat.zero_le _
      | false =>
        cases he : expV [] rs with
        | none => rw [parse_long hd hq hl he]; exact Nat.zero_le _
        | some l => rw [parse_good hd hq hl he]; exact expV_len (Nat.zero_le _) he

end Go.Proofs.YtchnmbfeaaialaaGreatDoor
