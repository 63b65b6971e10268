/- A further literal (mathematics). -/
import Derived.Test.YtdiinlmeoifgjaaGreatDoorHlg
namespace Go.Proofs.YtdiinlmeoifgjaaGreatDoor

def notQ (q : Pid) (x : Pid × Nat) : Bool := decide (x.1 ≠ q)
theorem rdF_more (p : List Sx) (L : List Pid) (q : Pid) : ∀ (t : List Spt) (vs : List (Pid × Nat)), (rdF p L vs t).2.2 = 0 →
    rdF p (L ++ [q]) (vs.filter (notQ q)) t = ((rdF p L vs t).1.filter (notQ q), 0, 0) := by
  intro t
  induction t with
  | nil => intro vs _; rfl
  | cons z t ih =>
    intro vs h
    unfold rdF at h ⊢
    cases hx : p[z.1]? with
    | none => rw [hx] at h
    | some x =>
      rw [hx] at h
      simp only at h ⊢
      by_cases h1 : dotsX x = true ∧ z.2.2 = true
      · rw [if_pos h1] at h; cases h
      rw [if_neg h1] at h
      rw [if_neg h1, if_neg h1]
      by_cases h2 : x.k ≠ 3 ∨ dotsX x = true ∨ blkX x = true ∨ idX x ∈ L
      · rw [if_pos h2] at h
        have h2' : x.k ≠ 3 ∨ dotsX x = true ∨ blkX x = true ∨ idX x ∈ L ++ [q] := h2.imp id (Or.imp id (Or.imp id fun h => List.mem_append_left _ h))
        rw [if_pos h2', if_pos h2]
        exact ih vs h
      · rw [if_neg h2] at h
        by_cases h3 : 3 < z.2.1
        · rw [if_pos h3] at h; cases h
        rw [if_neg h3] at h
        by_cases h4 : idX x ∈ vs.map (·.1)
        · rw [if_pos h4] at h; cases h
        rw [if_neg h4] at h
        simp only [if_neg h2, if_neg h3, if_neg h4]
        have := ih _ h
        rw [List.filter_append] at this
        by_cases hq : idX x = q
        · have h2' : x.k ≠ 3 ∨ dotsX x = true ∨ blkX x = true ∨ idX x ∈ L ++ [q] := .inr (.inr (.inr (by simp [hq])))
          rw [if_pos h2', ← this]
          have e : [(idX x, z.2.1)].filter (notQ q) = [] := by simp [notQ, hq]
          rw [e, List.append_nil]
        · have h2' : ¬ (x.k ≠ 3 ∨ dotsX x = true ∨ blkX x = true ∨ idX x ∈ L ++ [q]) := by
            intro hh
            apply h2
            rcases hh with h | h | h | h
            · exact .inl h
            · exact .inr (.inl h)
            · exact .inr (.inr (.inl h))
            · rcases List.mem_append.1 h with h | h
              · exact .inr (.inr (.inr h))
              · exact absurd (List.mem_singleton.1 h) hq
          have h4' : ¬ idX x ∈ (vs.filter (notQ q)).map (·.1) := by
            intro hh
            obtain ⟨y, hy, e⟩ := List.mem_map.1 hh
            exact h4 (List.mem_map.2 ⟨y, (List.mem_filter.1 hy).1, e⟩)
          rw [if_neg h2', if_neg h4', ← this]
          have e : [(idX x, z.2.1)].filter (notQ q) = [(idX x, z.2.1)] := by simp [notQ, hq]
          rw [e]
theorem rdF_len (p : List Sx) (L : List Pid) : ∀ (t : List Spt) (vs : List (Pid × Nat)), (rdF p L vs t).1.length ≤ vs.length + t.length := by
  intro t
  induction t with
  | nil => intro vs; exact Nat.le_refl _
  | cons z t ih =>
    intro vs
    unfold rdF
    have h0 := ih vs
    rw [List.length_cons]
    split
    · exact Nat.le_add_right _ _
    · rename_i x _
      have h1 := ih (vs ++ [(idX x, z.2.1)])
      rw [List.length_append, List.length_singleton] at h1
      split
      · exact Nat.le_add_right _ _
      · split
        · omega
        · split
          · exact Nat.le_add_right _ _
          · split
            · exact Nat.le_add_right _ _
            · omega
theorem rdP_more {p : List Sx} {L : List Pid} (q : Pid) (h : (rdP p L).2.2 = 0) : rdP p (L ++ [q]) = ((rdP p L).1.filter (notQ q), 0, 0) := by
  unfold rdP at h ⊢
  by_cases h1 : (hdP p).2 ≠ 0
  · rw [if_pos h1] at h; exact absurd h h1
  rw [if_neg h1] at h ⊢
  by_cases h2 : (rdF p L [] (spP p)).2.2 ≠ 0
  · rw [if_pos h2] at h; exact absurd h h2
  rw [if_neg h1, if_neg h2]
  have := rdF_more p L q (spP p) [] (by simpa using h2)
  rw [List.filter_nil] at this
  rw [this]; rfl
-- MARK9
end Go.Proofs.YtdiinlmeoifgjaaGreatDoor
