/- The fields of a line, as the reference reads them. -/
import Derived.Test.YtnajkkbcfebegaaGreatDoorLaw1
namespace Go.Proofs.YtnajkkbcfebegaaGreatDoor
open Go.RowKit Go.PlainAid

theorem quoP_drop (a : Nat) (l : List UInt8) : ∀ (f p : Nat), quoP f (l.drop a) p = (quoP f l (a + p)).map fun x => (x.1, x.2 - a) := by
  intro f
  induction f with
  | zero => intro p; rfl
  | succ f ih =>
    intro p
    rw [quoP, quoP, List.drop_drop]
    cases hd : l.drop (a + p) with
    | nil => rfl
    | cons b r =>
      simp only []
      by_cases hb : b = 34
      · rw [if_pos hb, if_pos hb]; simp; omega
      · rw [if_neg hb, if_neg hb]
        cases rd (b :: r) with
        | none => rfl
        | some x =>
          obtain ⟨c, n⟩ := x
          simp only []
          rw [ih, Nat.add_assoc, Option.map_map, Option.map_map]; rfl
theorem quoP_fuel (l : List UInt8) : ∀ (f g p : Nat), l.length < f + p → l.length < g + p → quoP f l p = quoP g l p := by
  intro f
  induction f with
  | zero =>
    intro g p h1 h2
    cases g with
    | zero => rfl
    | succ g => rw [quoP, quoP, List.drop_of_length_le (by omega)]
  | succ f ih =>
    intro g p h1 h2
    cases g with
    | zero => rw [quoP, quoP, List.drop_of_length_le (by omega)]
    | succ g =>
      rw [quoP, quoP]
      cases hd : l.drop p with
      | nil => rfl
      | cons b r =>
        simp only []
        by_cases hb : b = 34
        · rw [if_pos hb, if_pos hb]
        · rw [if_neg hb, if_neg hb]
          cases hr : rd (b :: r) with
          | none => rfl
          | some x =>
            obtain ⟨c, n⟩ := x
            obtain ⟨r', h3, h4⟩ := rd_some hr
            have hn : 1 ≤ n := by rw [h4]; exact esc_ne c
            simp only []
            rw [ih g (p + n) (by omega) (by omega)]
/-- The quoted form at index p, in the rest of the line. -/
theorem quoS_drop (l : List UInt8) (p : Nat) : quoS l p = (quoS (l.drop p) 0).map fun x => (x.1, x.2 + p) := by
  unfold quoS
  rw [List.drop_zero]
  cases hd : l.drop p with
  | nil => rfl
  | cons b r =>
    simp only []
    by_cases hb : b = 34
    · rw [if_pos hb, if_pos hb]
      have hlen : (b :: r).length = l.length - p := by rw [← hd, List.length_drop]
      have hlt : p < l.length := by simp at hlen; omega
      rw [← hd, quoP_drop, Option.map_map]
      rw [quoP_fuel l (l.length + 1) ((l.drop p).length + 1) (p + (0 + 1)) (by omega) (by rw [List.length_drop]; omega)] 
      cases hq : quoP ((l.drop p).length + 1) l (p + (0 + 1)) with
      | none => rfl
      | some x =>
        have hle := (quoP_pos _ _ _ _ hq).1
        simp only [Option.map_some, Function.comp]
        congr 1
        refine Prod.ext rfl ?_
        show x.2 = x.2 - p + p
        omega
    · rw [if_neg hb, if_neg hb]; rfl
end Go.Proofs.YtnajkkbcfebegaaGreatDoor
