/- Of the greatest candidate (mathematics). -/
import Derived.Test.YtbkkmcfpjpbhaaaVmo
namespace Go.Proofs.Ytbkkmcfpjpbhaaa

theorem cand_up {T : List Bd} {n s : List UInt8} {i k x y : Nat} (hk : i < k) (hx : (candB T n s)[i]? = some x) (hy : (candB T n s)[k]? = some y) : x < y := by
  have hp : (candB T n s).Pairwise (· < ·) := List.Pairwise.filter _ List.pairwise_lt_range
  obtain ⟨hi, rfl⟩ := List.getElem?_eq_some_iff.1 hx
  obtain ⟨hk2, rfl⟩ := List.getElem?_eq_some_iff.1 hy
  exact List.pairwise_iff_getElem.1 hp i k hi hk2 hk
/-- With the answer 11 not all pairs compare. -/
theorem apart_of {T : List Bd} {n s : List UInt8} (h : (resB T n s).2 = 11) : ¬ ChB T (candB T n s) (candB T n s).length 0 := fun hc => by
  have h1 := chB_all hc fun x hx => cand_refl hx
  by_cases hn : candB T n s = []
  · rw [more_none hn] at h; cases h
  · rw [more_top h1 hn] at h; cases h
/-- The three answers, as the law reads them. -/
theorem res_three {T : List Bd} {n s : List UInt8} (ho : OkB T) {ri : Nat} {re : Int} (h : resB T n s = (ri, re)) :
    (re = 0 ∧ ri ∈ candB T n s ∧ (∃ b, T[ri]? = some b ∧ b.n = n) ∧ ∀ x ∈ candB T n s, relB T x ri = true ∧ (x ≠ ri → setAt T x ≠ setAt T ri)) ∨ (re = 11 ∧ ri = 0 ∧ ¬ ChB T (candB T n s) (candB T n s).length 0) ∨ (re = 10 ∧ ri = 0 ∧ (candB T n s).length = 0) := by
  rcases res_cases (T := T) n s with ⟨i, e, hi, ht⟩ | ⟨e, hn⟩ | ⟨e, hn, _⟩
  · rw [e] at h
    obtain ⟨rfl, rfl⟩ := Prod.mk.inj h
    obtain ⟨b, hb, hbn, _⟩ := mem_cand.1 hi
    unfold topB at ht
    rw [List.all_eq_true] at ht
    refine .inl ⟨rfl, hi, ⟨b, hb, hbn⟩, fun x hx => ⟨ht x hx, fun hne hs => ?_⟩⟩
    obtain ⟨c, hc, hcn, _⟩ := mem_cand.1 hx
    rw [setAt_at hb, setAt_at hc] at hs
    exact hne (ho.apart x i c b hc hb (hcn.trans hbn.symm) hs)
  · rw [e] at h
    obtain ⟨rfl, rfl⟩ := Prod.mk.inj h
    exact .inr (.inr ⟨rfl, rfl, by rw [hn]; rfl⟩)
  · have h11 : (resB T n s).2 = 11 := by rw [e]
    rw [e] at h
    obtain ⟨rfl, rfl⟩ := Prod.mk.inj h
    exact .inr (.inl ⟨rfl, rfl, apart_of h11⟩)
theorem cand_step {T : List Bd} {n s : List UInt8} {k : Nat} {b : Bd} (h : T[k]? = some b) : (candG T n s (k + 1)).length = (candG T n s k).length + if decide (b.n = n) && subB b.s s then 1 else 0 := by
  rw [candG_succ, List.length_append, hasB_at h]
  split <;> rfl
-- MARK9
end Go.Proofs.Ytbkkmcfpjpbhaaa
