/- Lists of fields in memory; words.tooLong. -/
import Derived.Test.YtnajkkbcfebegaaGreatDoorFields2
namespace Go.Proofs.YtnajkkbcfebegaaGreatDoor
open Go.RowKit Go.PlainAid

/-- A field: its string, and whether it is quoted. -/
abbrev Fld := List UInt8 × Bool
/-- Its cells. -/
def fcs (l : List Fld) : List Value := l.flatMap fun x => [.string (str x.1), .bool x.2]
theorem fcs_nil : fcs [] = [] := rfl
theorem fcs_cons (x : Fld) (l : List Fld) : fcs (x :: l) = .string (str x.1) :: .bool x.2 :: fcs l := rfl
theorem fcs_app (a b : List Fld) : fcs (a ++ b) = fcs a ++ fcs b := List.flatMap_append
theorem fcs_len (l : List Fld) : (fcs l).length = l.length * 2 := by
  induction l with
  | nil => rfl
  | cons x l ih => rw [fcs_cons]; simp only [List.length_cons, ih]; omega
theorem fcs_at (l : List Fld) : ∀ {k : Nat} {x : Fld}, l[k]? = some x → (fcs l)[k * 2]? = some (.string (str x.1)) ∧ (fcs l)[k * 2 + 1]? = some (.bool x.2) := by
  induction l with
  | nil => intro k x h; simp at h
  | cons y l ih =>
    intro k x h
    rw [fcs_cons]
    cases k with
    | zero => simp at h; subst h; simp
    | succ k =>
      have := ih (k := k) (x := x) (by simpa using h)
      rw [show (k + 1) * 2 = k * 2 + 1 + 1 by omega]
      simpa using this
/-- The slice value v holds the fields l. -/
def FldsAt (w : World) (v : Value) (l : List Fld) : Prop :=
  (v = .slice none 0 0 ∧ l = []) ∨ ∃ g off cap, v = .slice (some ⟨g, off, none⟩) l.length cap ∧ g < w.heap.size ∧ ∀ j u, (fcs l)[j]? = some u → w.cell? ⟨g, off + j, none⟩ = some u
theorem FldsAt.below {B : Nat} {w w' : World} {v : Value} {l : List Fld} (h : FldsAt w v l) (hb : Below B w w') (hB : w.heap.size ≤ B) : FldsAt w' v l := by
  rcases h with h | ⟨g, off, cap, e, hg, hc⟩
  · exact .inl h
  · exact .inr ⟨g, off, cap, e, Nat.lt_of_lt_of_le hg hb.size, fun j u hj => (hb.cell (p := ⟨g, off + j, none⟩) (by show g < B; omega)).trans (hc j u hj)⟩
theorem FldsAt.own {w : World} {B : Nat} {e : TypeId} {v : Value} {l : List Fld} (h : w.ownsRow B e 2 v l.length (fcs l)) : FldsAt w v l := by
  obtain ⟨_, h⟩ := h
  rcases h with ⟨rfl, h⟩ | ⟨g, cap, cur, rfl, _, hg, _, _, _, ht⟩
  · exact .inl ⟨rfl, List.eq_nil_of_length_eq_zero h⟩
  · refine .inr ⟨g, 0, cap, rfl, (Array.getElem?_eq_some_iff.1 hg).1, fun j u hj => ?_⟩
    rw [← ht] at hj
    have hj' : cur.toList[j]? = some u := by
      rw [List.getElem?_take] at hj
      split at hj
      · exact hj
      · cases hj
    simp only [World.cell?, hg, Nat.zero_add, Option.isSome_none]
    simpa using hj'

/-- More fields than a line may have, or one that is too long. -/
def tooL (l : List Fld) : Bool := decide (64 < l.length) || l.any fun x => decide (2000 < x.1.length)

set_option maxHeartbeats 1600000 in
theorem tooLong_any (v : Value) (l : List Fld) (w : World) (h : FldsAt w v l) (hl : l.length ≤ 1000000000) :
    Calls Tryz.prog 34 #[v] w fun e w' => e = .returned (.bool (tooL l)) ∧ Below w.heap.size w w' := by
  rcases h with ⟨rfl, rfl⟩ | ⟨g, off, cap, rfl, hg, hc⟩
  · go_enter Tryz.func34, Tryz.ntmps34
    go_wp2
    go_loop [10] (fun i => i = .int .i64 0) (fun _ => 0)
    case atStart => rfl
    case round =>
      subst hrel
      go_wp2
      go_ret
      exact ⟨rfl, Below.refl _ _⟩
  · by_cases h64 : 64 < l.length
    · have ht : tooL l = true := by unfold tooL; rw [decide_eq_true h64]; rfl
      have hr : decide ((64 : Int) < (l.length : Int)) = true := decide_eq_true (by omega)
      go_enter Tryz.func34, Tryz.ntmps34
      go_wp2
      go_ret
      exact ⟨ret_bool ht.symm, Below.refl _ _⟩
    · go_enter Tryz.func34, Tryz.ntmps34
      go_wp2
      go_loopw [10] (fun i wr => ∃ k : Nat, k ≤ l.length ∧ i = .int .i64 k ∧ Hid ((l.take k).any (fun x => decide (2000 < x.1.length)) = false) ∧ Below w.heap.size w wr) (fun i _ => l.length - (intOf i).toNat)
      case atStart => exact ⟨0, Nat.zero_le _, rfl, Lib.hid rfl, Below.refl _ _⟩
      case round =>
        obtain ⟨k, hk, rfl, hno, hbel⟩ := hrel
        by_cases hlt : k < l.length
        · obtain ⟨x, hxk⟩ : ∃ x, l[k]? = some x := ⟨_, List.getElem?_eq_getElem hlt⟩
          have hc0 := (hbel.cell (p := ⟨g, off + k * 2, none⟩) hg).trans (hc _ _ (fcs_at l hxk).1)
          have hc1 : wr.cell? ⟨g, off + k * 2 + 1, none⟩ = some (.bool x.2) := (hbel.cell (p := ⟨g, off + k * 2 + 1, none⟩) hg).trans (hc _ _ (fcs_at l hxk).2)
          have hsz := str_size x.1
          by_cases hlong : 2000 < x.1.length
          · have hr : decide ((2000 : Int) < (x.1.length : Int)) = true := decide_eq_true (by omega)
            have ht : tooL l = true := by
              unfold tooL; rw [Bool.or_eq_true]; refine .inr (List.any_eq_true.2 ⟨x, List.mem_of_getElem? hxk, decide_eq_true hlong⟩)
            clear hno
            go_wp2
            go_ret
            exact ⟨ret_bool ht.symm, by first | exact hbel.alloc hbel.size _ | exact ((hbel.alloc hbel.size _).setCell (by have := hbel.size; simpa using this) _).setCell (by have := hbel.size; simpa using this) _⟩
          · have hr : decide ((2000 : Int) < (x.1.length : Int)) = false := decide_eq_false (by omega)
            have HN : Hid ((l.take (k + 1)).any (fun x => decide (2000 < x.1.length)) = false) := Lib.hid (by
              rw [List.take_add_one, hxk, List.any_append, hno.out]; simp; omega)
            clear hno
            go_wp2
            go_roundw
            case rel => exact ⟨k + 1, by omega, by go_num, HN, by first | exact hbel.alloc hbel.size _ | exact ((hbel.alloc hbel.size _).setCell (by have := hbel.size; simpa using this) _).setCell (by have := hbel.size; simpa using this) _⟩
            case measure => simp [intOf]; omega
        · obtain rfl : k = l.length := by omega
          have ht : tooL l = false := by
            unfold tooL; rw [decide_eq_false h64]; have := hno.out; rw [List.take_length] at this; rw [this]; rfl
          clear hno
          go_wp2
          go_ret
          exact ⟨ret_bool ht.symm, hbel⟩
end Go.Proofs.YtnajkkbcfebegaaGreatDoor
