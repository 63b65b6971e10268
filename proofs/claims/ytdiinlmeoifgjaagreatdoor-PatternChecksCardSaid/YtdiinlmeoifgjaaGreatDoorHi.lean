/- Patterns: the iterator over the elements of a list. -/
import Derived.RangeFuncNested
import Derived.RangeFuncBound
import Derived.RangeFuncCalls
import Derived.RangeFuncLeaves
import Derived.Shelf.Abstract
import Derived.Shelf.RegionOpen
import Derived.WalkKit
import Derived.WalkMore
import Derived.BigGuardPart
import Derived.OwnWalkIn
import Derived.TacticsInMore
import Derived.LoopNIn
import Derived.LoopIn
import Derived.BigGuardPartIn
import Derived.Test.YtdiinlmeoifgjaaGreatDoorHh
namespace Go.Proofs.YtdiinlmeoifgjaaGreatDoor
open Go.RowKit Go.Shelf Go.PlainAid

attribute [local go_sem] Oper.semAt_some

theorem grown_noneH {W W' : World} (h : Below W.heap.size W W') : W.grownBy W' none := ⟨h.os, h.tape, h.output, h.size, fun k hk _ => h.block k hk⟩
theorem take_snocH {l : List Nat} {k x : Nat} (h : l[k]? = some x) : l.take k ++ [x] = l.take (k + 1) := by
  rw [List.take_add_one, h]; rfl
/-- The ends in a row of the iterator's. -/
theorem ends_cells {w : World} {r : Value} {p : List Sx} {n : Nat} (hn : p.length = n) (h0 : 0 < n) (h : IntRow w r ((endsL (kidsX p)).map fun q : Nat => (q : Int))) :
    ∃ g off c, r = .slice (some ⟨g, off, none⟩) n c ∧ g < w.heap.size ∧ ∀ j, j < n → w.cell? ⟨g, off + j, none⟩ = some (.int .i64 (endX p j : Int)) := by
  obtain ⟨a, c, e, h⟩ := h
  have hl : ((endsL (kidsX p)).map fun q : Nat => (q : Int)).length = n := by rw [List.length_map, endsL_len, kidsX_len, hn]
  rw [hl] at e
  rcases h with h | ⟨g, off, rfl, hg, hc⟩
  · rw [h] at hl; simp at hl; omega
  · refine ⟨g, off, c, e, hg, fun j hj => hc j _ ?_⟩
    rw [List.getElem?_map, endsL_at (by rw [kidsX_len, hn]; exact hj)]; rfl
/-- What the list's elements are. -/
structure ElOk (p : List Sx) (q : Nat) (S : List Nat) (f e : Nat) : Prop where
  first : S = [] ∧ f = e ∨ S[0]? = some f
  step : ∀ (k x : Nat), S[k]? = some x → x < p.length ∧ x < e ∧ (endX p x ≤ e ∧ x < endX p x) ∧ (S[k + 1]? = some (endX p x) ∨ endX p x = e ∧ S.length = k + 1)
theorem elX_ok {p : List Sx} (h : PatOk p) {q : Nat} (hq : q < p.length) (hs : skp q ≤ cnt (kidsX p) q) : ElOk p q (elX p q) (posK (kidsX p) q (skp q)) (endX p q) := by
  have hk : q < (kidsX p).length := by rw [kidsX_len]; exact hq
  have hat : ∀ k, (elX p q)[k]? = if skp q + k < cnt (kidsX p) q then some (posK (kidsX p) q (skp q + k)) else none := fun k => by
    unfold elX
    rw [List.getElem?_drop]
    split
    · rename_i h1; exact kidsN_at h1
    · rename_i h1; exact List.getElem?_eq_none (by rw [kidsN_len]; omega)
  have hlen : (elX p q).length = cnt (kidsX p) q - skp q := by unfold elX; rw [List.length_drop, kidsN_len]
  refine ⟨?_, fun k x hx => ?_⟩
  · by_cases h0 : skp q < cnt (kidsX p) q
    · right; rw [hat, if_pos (by omega)]; rfl
    · left
      refine ⟨List.length_eq_zero_iff.1 (by rw [hlen]; omega), ?_⟩
      rw [show skp q = cnt (kidsX p) q by omega]; exact h.tr.pos_end hk
  · rw [hat] at hx
    split at hx
    · rename_i h1
      cases hx
      obtain ⟨s1, s2, s3⟩ := h.tr.pos_step hk h1
      have s4 := h.tr.pos_next hk h1
      have s5 := h.tr.pos_le hk (k := skp q + k + 1) (m := cnt (kidsX p) q) (by omega) (Nat.le_refl _)
      rw [h.tr.pos_end hk] at s5
      rw [kidsX_len] at s2
      unfold endX at *
      rw [s3]
      refine ⟨s2, by omega, ⟨s5, s4⟩, ?_⟩
      by_cases h2 : skp q + (k + 1) < cnt (kidsX p) q
      · left; rw [hat, if_pos h2]; rfl
      · right
        refine ⟨?_, by rw [hlen]; omega⟩
        rw [show skp q + k + 1 = cnt (kidsX p) q by omega]; exact h.tr.pos_end hk
    · cases hx
-- MARK9
end Go.Proofs.YtdiinlmeoifgjaaGreatDoor
