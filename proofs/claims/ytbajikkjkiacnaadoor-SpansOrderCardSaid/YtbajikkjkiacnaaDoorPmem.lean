/- Spans as values and in memory. -/
import Derived.Test.YtbajikkjkiacnaaDoorProg
import Derived.Test.YtbajikkjkiacnaaDoorPm
import Derived.BigGuardPart
import Derived.RangeFuncBound
import Derived.Handy
namespace Go.Proofs.YtbajikkjkiacnaaDoor
open Go.RowKit

def spV (s : Sp) : Value := .agg #[.int .i64 s.1, .int .i64 s.2]
/-- The cells of spans. -/
def scs (l : List Sp) : List Value := l.flatMap fun s => [.int .i64 s.1, .int .i64 s.2]
theorem scs_nil : scs [] = [] := rfl
theorem scs_cons (x : Sp) (l : List Sp) : scs (x :: l) = .int .i64 x.1 :: .int .i64 x.2 :: scs l := rfl
theorem scs_app (a b : List Sp) : scs (a ++ b) = scs a ++ scs b := List.flatMap_append
theorem scs_len (l : List Sp) : (scs l).length = l.length * 2 := by
  induction l with
  | nil => rfl
  | cons x l ih => rw [scs_cons]; simp only [List.length_cons, ih]; omega
theorem scs_at (l : List Sp) : ∀ {k : Nat} {x : Sp}, l[k]? = some x → (scs l)[k * 2]? = some (.int .i64 x.1) ∧ (scs l)[k * 2 + 1]? = some (.int .i64 x.2) := by
  induction l with
  | nil => intro k x h; simp at h
  | cons y l ih =>
    intro k x h
    rw [scs_cons]
    cases k with
    | zero => simp at h; subst h; simp
    | succ k =>
      have := ih (k := k) (x := x) (by simpa using h)
      rw [show (k + 1) * 2 = k * 2 + 1 + 1 by omega]
      simpa using this
theorem one_scs (l : List Sp) : ∀ u ∈ scs l, u.oneCell' = true := by
  intro u hu
  unfold scs at hu
  obtain ⟨s, _, hs⟩ := List.mem_flatMap.1 hu
  rcases List.mem_cons.1 hs with rfl | hs
  · rfl
  · rw [List.mem_singleton.1 hs]; rfl
/-- The slice value v holds the spans l. -/
def SpsAt (w : World) (v : Value) (l : List Sp) : Prop :=
  (∃ a c, v = .slice a 0 c ∧ l = []) ∨ ∃ g off cap, v = .slice (some ⟨g, off, none⟩) l.length cap ∧ g < w.heap.size ∧ ∀ j u, (scs l)[j]? = some u → w.cell? ⟨g, off + j, none⟩ = some u
theorem SpsAt.below {B : Nat} {w w' : World} {v : Value} {l : List Sp} (h : SpsAt w v l) (hb : Below B w w') (hB : w.heap.size ≤ B) : SpsAt w' v l := by
  rcases h with h | ⟨g, off, cap, e, hg, hc⟩
  · exact .inl h
  · exact .inr ⟨g, off, cap, e, Nat.lt_of_lt_of_le hg hb.size, fun j u hj => (hb.cell (p := ⟨g, off + j, none⟩) (by show g < B; omega)).trans (hc j u hj)⟩
theorem SpsAt.own {w : World} {B : Nat} {e : TypeId} {v : Value} {l : List Sp} (h : w.ownsRow B e 2 v l.length (scs l)) : SpsAt w v l := by
  obtain ⟨_, h⟩ := h
  rcases h with ⟨rfl, h⟩ | ⟨g, cap, cur, rfl, _, hg, _, _, _, ht⟩
  · exact .inl ⟨_, _, rfl, List.eq_nil_of_length_eq_zero h⟩
  · refine .inr ⟨g, 0, cap, rfl, (Array.getElem?_eq_some_iff.1 hg).1, fun j u hj => ?_⟩
    rw [← ht] at hj
    have hj' : cur.toList[j]? = some u := by
      rw [List.getElem?_take] at hj
      split at hj
      · exact hj
      · cases hj
    simp only [World.cell?, hg, Nat.zero_add, Option.isSome_none]
    simpa using hj'
theorem SpsAt.slice {w : World} {v : Value} {l : List Sp} (h : SpsAt w v l) : ∃ a cap, v = .slice a l.length cap := by
  rcases h with ⟨a, c, rfl, rfl⟩ | ⟨g, off, cap, e, _⟩
  · exact ⟨a, c, rfl⟩
  · exact ⟨_, cap, e⟩
/-- A new row of spans. -/
theorem sps_new (W : World) (l : List Sp) (a : Array Value) (t : TypeId) (n cap : Nat) (ha : a = (scs l).toArray) (hn : n = l.length) : SpsAt (W.alloc (.cells a t)) (.slice (some ⟨W.heap.size, 0, none⟩) n cap) l := by
  subst ha hn
  refine .inr ⟨_, 0, cap, rfl, by simp, fun j u h => ?_⟩
  rw [Nat.zero_add, World.cell?_alloc_new, List.getElem?_toArray, h]
end Go.Proofs.YtbajikkjkiacnaaDoor
