/- What sorting and compacting make of numbers (mathematics). -/
import Derived.Test.YtbkkmcfpjpbhaaaSo
import Derived.Lib.SlicesCompact
namespace Go.Proofs.Ytbkkmcfpjpbhaaa

def leI (a b : Int) : Bool := decide (a ≤ b)
theorem sortI_asc (l : List Int) : (l.mergeSort leI).Pairwise (· ≤ ·) := by
  have := List.pairwise_mergeSort (le := leI) (fun a b c h1 h2 => by
    unfold leI at *; simp only [decide_eq_true_eq] at *; omega) (fun a b => by
    unfold leI; simp only [Bool.or_eq_true, decide_eq_true_eq]; omega) l
  exact this.imp fun h => by unfold leI at h; simpa using h
/-- The first m numbers of a row that ascends, each once. -/
theorem upToI {s : List Int} (h : s.Pairwise (· ≤ ·)) : ∀ m, m ≤ s.length → (Lib.compactUpTo s.toArray m).Pairwise (· < ·) ∧ ∀ x, x ∈ Lib.compactUpTo s.toArray m ↔ x ∈ s.take m := by
  intro m
  induction m with
  | zero => intro _; simp [Lib.compactUpTo]
  | succ m ih =>
    intro hm
    obtain ⟨h1, h2⟩ := ih (by omega)
    have hms : m < s.length := hm
    have hget : s.toArray[m]! = s[m] := by rw [getElem!_pos s.toArray m (by simpa using hms)]; simp
    have hle : ∀ j (hj : j < m), s[j] ≤ s[m] := fun j hj => List.pairwise_iff_getElem.1 h j m (by omega) hms hj
    rw [Lib.compactUpTo_succ, hget]
    have htk : s.take (m + 1) = s.take m ++ [s[m]] := List.take_succ_eq_append_getElem hms
    by_cases hk : Lib.keeps s.toArray m = true
    · rw [if_pos hk]
      refine ⟨List.pairwise_append.2 ⟨h1, by simp, fun x hx y hy => ?_⟩, fun x => by rw [List.mem_append, htk, List.mem_append, h2]⟩
      obtain rfl : y = s[m] := by simpa using hy
      obtain ⟨j, hj, rfl⟩ := List.mem_take_iff_getElem.1 ((h2 x).1 hx)
      have hjm : j < m := by omega
      unfold Lib.keeps at hk
      simp only [decide_eq_true_eq] at hk
      have hm0 : m ≠ 0 := by omega
      have hne : s[m] ≠ s[m - 1] := by
        rcases hk with e | e
        · exact absurd e hm0
        · rw [hget, getElem!_pos s.toArray (m - 1) (by simp; omega)] at e
          simpa using e
      have hp := hle (m - 1) (by omega)
      by_cases hjm1 : j = m - 1
      · subst hjm1; omega
      · have := List.pairwise_iff_getElem.1 h j (m - 1) (by omega) (by omega) (by omega)
        omega
    · rw [if_neg hk, List.append_nil]
      refine ⟨h1, fun x => ?_⟩
      rw [h2, htk, List.mem_append]
      refine ⟨.inl, ?_⟩
      rintro (e | e)
      · exact e
      · obtain rfl : x = s[m] := by simpa using e
        unfold Lib.keeps at hk
        simp only [decide_eq_true_eq, not_or, Decidable.not_not] at hk
        obtain ⟨k1, k2⟩ := hk
        rw [hget, getElem!_pos s.toArray (m - 1) (by simp; omega)] at k2
        refine List.mem_take_iff_getElem.2 ⟨m - 1, by omega, ?_⟩
        simpa using k2.symm
/-- Sorted and compacted: the numbers that are in the list, ascending. -/
theorem compact_of {l : List Int} (h : badOf l = false) : Lib.compact (l.mergeSort leI) = (ofL l).map fun n : Nat => (n : Int) := by
  obtain ⟨h1, h2⟩ := upToI (sortI_asc l) (l.mergeSort leI).length (Nat.le_refl _)
  rw [List.take_length] at h2
  have hm : ∀ x, x ∈ Lib.compact (l.mergeSort leI) ↔ x ∈ l := fun x => by
    unfold Lib.compact; rw [h2]; exact List.mem_mergeSort
  have hb : ∀ x ∈ Lib.compact (l.mergeSort leI), 0 ≤ x := fun x hx => (bad_not h x ((hm x).1 hx)).1
  have e1 : (Lib.compact (l.mergeSort leI)).map Int.toNat = ofL l := by
    refine asc_ext ?_ (asc_of l) fun z => ?_
    · unfold asc
      rw [List.pairwise_map]
      have h1' : (Lib.compact (l.mergeSort leI)).Pairwise (· < ·) := h1
      exact h1'.imp_of_mem fun {a b} ha hb' hab => by have := hb a ha; omega
    · rw [List.mem_map, mem_of h]
      constructor
      · rintro ⟨x, hx, rfl⟩
        have := hb x hx
        rw [Int.toNat_of_nonneg this]; exact (hm x).1 hx
      · intro hz; exact ⟨z, (hm z).2 hz, by simp⟩
  rw [← e1, List.map_map]
  conv => lhs; rw [← List.map_id (Lib.compact (l.mergeSort leI))]
  refine List.map_congr_left fun x hx => ?_
  have := hb x hx
  simp only [Function.comp, id]; omega
end Go.Proofs.Ytbkkmcfpjpbhaaa
