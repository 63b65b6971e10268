/- scopes.Print; the law's awake. -/
import Derived.Test.YtbkkmcfpjpbhaaaSof
namespace Go.Proofs.Ytbkkmcfpjpbhaaa
open Go.RowKit Go.PlainAid

theorem ints_own {w : World} {B n : Nat} {v : Value} {l : List Nat} (h : w.ownsRow B 3 1 v n (natC l)) (hn : l.length = n) : IntsAt w v (l.map fun n : Nat => (n : Int)) := by
  rcases own_form h with ⟨rfl, h0⟩ | ⟨g, c, rfl, h1, h2⟩
  · exact .inl ⟨rfl, by rw [List.length_eq_zero_iff.1 (show l.length = 0 by omega)]; rfl⟩
  · refine .inr ⟨g, 0, c, by rw [List.length_map, hn], h2, fun j x hj => ?_⟩
    have := h.cells (g := g) rfl j (.int .i64 x) (by
      unfold natC
      rw [List.getElem?_map] at hj ⊢
      cases hq : l[j]? with
      | none => rw [hq] at hj; cases hj
      | some y => rw [hq] at hj; have := Option.some.inj hj; simp only [Option.map_some]; rw [← this])
    rw [Go.WideShapes.add_plain] at this; exact this
/-- The sets that awake asks about. -/
theorem aw_set : SetOf [1, 5, 258] := ⟨by decide, by decide, by decide⟩
theorem aw_of : ofS [5, 258, 1, 5] = ([0, 1, 0, 5, 1, 2], 0) := by
  have hb : badOf [5, 258, 1, 5] = false := by decide
  have e : ofL [5, 258, 1, 5] = [1, 5, 258] := asc_ext (asc_of _) aw_set.up fun z => by
    rw [mem_of hb]; simp; omega
  unfold ofS; rw [hb, e]; rfl
theorem aw_drop : oneS true false false [0, 1, 0, 5, 1, 2] 5 = ([0, 1, 1, 2], 0) := by
  have := one_set (f := true) (b := false) (s := false) (n := 5) aw_set (by omega)
  have e : mg true false false [1, 5, 258] [5] = [1, 258] := asc_ext (asc_mg' aw_set.up (asc_one 5)) (by decide) fun z => by
    rw [mem_mg' aw_set.up (asc_one 5)]; simp; omega
  rw [e] at this; exact this
theorem aw_flip : oneS true false true [0, 1, 0, 5, 1, 2] 6 = ([0, 1, 0, 5, 0, 6, 1, 2], 0) := by
  have := one_set (f := true) (b := false) (s := true) (n := 6) aw_set (by omega)
  have e : mg true false true [1, 5, 258] [6] = [1, 5, 6, 258] := asc_ext (asc_mg' aw_set.up (asc_one 6)) (by decide) fun z => by
    rw [mem_mg' aw_set.up (asc_one 6)]; simp; omega
  rw [e] at this; exact this
theorem aw_rel : relS [0, 1] [0, 1, 0, 5, 1, 2] = (1, 0) := by decide
theorem aw_add : (oneS true true true [0, 1, 0, 5, 1, 2] 65536) = ([], 7) := by decide
-- MARK1
end Go.Proofs.Ytbkkmcfpjpbhaaa
