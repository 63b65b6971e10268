/- Of lists that are chains; of unions; of greatest ones (mathematics). -/
import Derived.Test.YtbkkmcfpjpbhaaaVlc
import Derived.Test.YtbkkmcfpjpbhaaaSrm
namespace Go.Proofs.Ytbkkmcfpjpbhaaa

theorem chain_top {R : Nat → Nat → Bool} : ∀ (l : List Nat), l ≠ [] → (∀ x ∈ l, ∀ y ∈ l, R x y = true ∨ R y x = true) → (∀ x y z, R x y = true → R y z = true → R x z = true) → ∃ i ∈ l, topB R l i = true
  | [], h, _, _ => absurd rfl h
  | x :: l, _, ht, htr => by
    by_cases hl : l = []
    · subst hl
      refine ⟨x, List.mem_cons_self .., ?_⟩
      unfold topB
      have := (ht x (List.mem_cons_self ..) x (List.mem_cons_self ..)).elim id id
      simpa using this
    · obtain ⟨i, hi, hT⟩ := chain_top l hl (fun a ha b hb => ht a (List.mem_cons_of_mem _ ha) b (List.mem_cons_of_mem _ hb)) htr
      unfold topB at hT
      rw [List.all_eq_true] at hT
      rcases ht i (List.mem_cons_of_mem _ hi) x (List.mem_cons_self ..) with h1 | h1
      · refine ⟨x, List.mem_cons_self .., ?_⟩
        unfold topB
        rw [List.all_eq_true]
        intro k hk
        rcases List.mem_cons.1 hk with rfl | hk2
        · exact (ht k hk k hk).elim id id
        · exact htr _ _ _ (hT k hk2) h1
      · refine ⟨i, List.mem_cons_of_mem _ hi, ?_⟩
        unfold topB
        rw [List.all_eq_true]
        intro k hk
        rcases List.mem_cons.1 hk with rfl | hk2
        · exact h1
        · exact hT k hk2
theorem more_top {T : List Bd} {n s : List UInt8} (h : ∀ x ∈ candB T n s, ∀ y ∈ candB T n s, relB T x y = true ∨ relB T y x = true) (hne : candB T n s ≠ []) : (resB T n s).2 = 0 := by
  obtain ⟨i, hi, ht⟩ := chain_top (R := relB T) _ hne h (fun x y z h1 h2 => subB_trans h1 h2)
  rcases res_cases (T := T) n s with ⟨j, e, _⟩ | ⟨_, e⟩ | ⟨_, _, e⟩
  · rw [e]
  · exact absurd e hne
  · rw [e i hi] at ht; cases ht
theorem more_none {T : List Bd} {n s : List UInt8} (h : candB T n s = []) : (resB T n s).2 = 10 := by rw [res_none h]
/-- The pairs that were compared. -/
def ChB (T : List Bd) (l : List Nat) (i k : Nat) : Prop := ∀ (p q x y : Nat), l[p]? = some x → l[q]? = some y → (p < i ∧ q < p ∨ p = i ∧ q < k) → relB T x y = true ∨ relB T y x = true
theorem chB_zero (T : List Bd) (l : List Nat) : ChB T l 0 0 := fun p q x y _ _ h => by omega
theorem chB_next {T : List Bd} {l : List Nat} {i : Nat} (h : ChB T l i i) : ChB T l (i + 1) 0 := fun p q x y hx hy hc => h p q x y hx hy (by omega)
theorem chB_step {T : List Bd} {l : List Nat} {i k x y : Nat} (h : ChB T l i k) (hx : l[i]? = some x) (hy : l[k]? = some y) (hr : relB T x y = true ∨ relB T y x = true) : ChB T l i (k + 1) := fun p q x' y' hx' hy' hc => by
  by_cases e : p = i ∧ q = k
  · obtain ⟨rfl, rfl⟩ := e
    rw [hx] at hx'; rw [hy] at hy'
    obtain rfl := Option.some.inj hx'
    obtain rfl := Option.some.inj hy'
    exact hr
  · exact h p q x' y' hx' hy' (by omega)
theorem cand_refl {T : List Bd} {n s : List UInt8} {x : Nat} (h : x ∈ candB T n s) : relB T x x = true := by
  obtain ⟨b, hb, _, hs⟩ := mem_cand.1 h
  unfold relB
  rw [setAt_at hb]
  exact subB_refl (subB_chk hs).1
theorem chB_all {T : List Bd} {l : List Nat} (h : ChB T l l.length 0) (hr : ∀ x ∈ l, relB T x x = true) : ∀ x ∈ l, ∀ y ∈ l, relB T x y = true ∨ relB T y x = true := fun x hx y hy => by
  obtain ⟨p, hp⟩ := List.mem_iff_getElem?.1 hx
  obtain ⟨q, hq⟩ := List.mem_iff_getElem?.1 hy
  have hp9 := (List.getElem?_eq_some_iff.1 hp).1
  have hq9 := (List.getElem?_eq_some_iff.1 hq).1
  rcases Nat.lt_trichotomy p q with h1 | h1 | h1
  · exact (h q p y x hq hp (by omega)).symm
  · subst h1
    rw [hp] at hq
    obtain rfl := Option.some.inj hq
    exact .inl (hr x hx)
  · exact h p q x y hp hq (by omega)
theorem union_ok {A B U : List UInt8} (h : mrgS true true true A B = (U, 0)) : chkE A = 0 ∧ chkE U = 0 ∧ U.length ≤ 100000 ∧ ∀ S, subB S A = true → subB S U = true := by
  by_cases h2 : twoE A B = 0
  · obtain ⟨ha, hb⟩ := twoE_ok h2
    obtain ⟨l, rfl, hl⟩ := set_of ha
    obtain ⟨m, rfl, hm⟩ := set_of hb
    rw [mrg_set hl hm] at h
    by_cases hf : (mg true true true l m).length ≤ 10000
    · rw [out_ok hf] at h
      obtain ⟨rfl, _⟩ := Prod.mk.inj h
      have hs := SetOf.mg hl hm hf
      refine ⟨ha, hs.chk, by rw [setL_len]; omega, fun S hS => ?_⟩
      obtain ⟨hc, _⟩ := subB_chk hS
      rw [subB_set hc ha, hl.ids] at hS
      rw [subB_set hc hs.chk, hs.ids]
      exact fun z hz => (mem_mg' hl.up hm.up z).2 (by
        have := hS z hz
        by_cases e : z ∈ m
        · exact .inr (.inl ⟨this, e, rfl⟩)
        · exact .inl ⟨this, e, rfl⟩)
    · rw [out_no (by omega)] at h
      cases (Prod.mk.inj h).2
  · rw [mrg_no h2] at h
    exact absurd (Prod.mk.inj h).2 h2
theorem cand_more {T : List Bd} {n A U : List UInt8} (h : ∀ S, subB S A = true → subB S U = true) : ∀ x ∈ candB T n A, x ∈ candB T n U := fun x hx => by
  obtain ⟨b, hb, hn, hs⟩ := mem_cand.1 hx
  exact mem_cand.2 ⟨b, hb, hn, h _ hs⟩
theorem ask_same {T : List Bd} {A U : List UInt8} (h : chkE A = 0) (h2 : chkE U = 0) : askB T A = askB T U := by
  by_cases hc : (chkB T).2 = 0
  · rw [askB_ok hc, askB_ok hc, h, h2]
  · rw [askB_no hc, askB_no hc]
-- MARK9
end Go.Proofs.Ytbkkmcfpjpbhaaa
