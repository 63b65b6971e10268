/- Lines of a text: mathematics. -/
import Derived.Test.YtchnmbfeaaialaaGreatDoorList
namespace Go.Proofs.YtchnmbfeaaialaaGreatDoor
open Go.RowKit Go.PlainAid

/-- The lines that end in the list (byte 10), where cur stands before it. -/
def lnF : List UInt8 → List UInt8 → List (List UInt8)
  | _, [] => []
  | cur, c :: t => if c = 10 then cur :: lnF [] t else lnF (cur ++ [c]) t
theorem lnF_len : ∀ (l cur : List UInt8), (lnF cur l).length ≤ l.length := by
  intro l
  induction l with
  | nil => intro cur; exact Nat.le_refl _
  | cons c t ih =>
    intro cur
    rw [lnF]; split
    · have := ih []; simp only [List.length_cons]; omega
    · have := ih (cur ++ [c]); simp only [List.length_cons]; omega
theorem lnF_count : ∀ (l cur : List UInt8), (lnF cur l).length = l.count 10 := by
  intro l
  induction l with
  | nil => intro cur; rfl
  | cons c t ih =>
    intro cur
    rw [lnF, List.count_cons]; split
    · rename_i h; subst h; rw [List.length_cons, ih]; rfl
    · rename_i h; rw [ih, if_neg (by simpa using h)]; rfl
theorem lnF_mem : ∀ (l cur x : List UInt8), x ∈ lnF cur l → x.length ≤ cur.length + l.length := by
  intro l
  induction l with
  | nil => intro cur x h; cases h
  | cons c t ih =>
    intro cur x h
    rw [lnF] at h
    split at h
    · rcases List.mem_cons.1 h with rfl | h
      · omega
      · have := ih [] x h; simp only [List.length_cons, List.length_nil] at *; omega
    · have := ih _ x h; simp only [List.length_cons, List.length_append, List.length_nil] at *; omega
/-- A line that ends at the first byte 10. -/
theorem lnF_first : ∀ (a cur t : List UInt8), (10 : UInt8) ∉ a → lnF cur (a ++ 10 :: t) = (cur ++ a) :: lnF [] t := by
  intro a
  induction a with
  | nil => intro cur t _; rw [List.nil_append, lnF, if_pos rfl, List.append_nil]
  | cons c a ih =>
    intro cur t h
    rw [List.cons_append, lnF, if_neg (fun e => h (by rw [e]; exact List.mem_cons_self ..)), ih _ _ (fun e => h (List.mem_cons_of_mem _ e)), List.append_assoc]; rfl
/-- Whether a text ends as it must. -/
def endsLn (l : List UInt8) : Bool := l.isEmpty || l.getLast? == some 10
/-- What Lines returns. -/
def linesS (l : List UInt8) : List (List UInt8) × Int :=
  if 1048576 < l.length then ([], 3) else if endsLn l = false then ([], 6) else if 5000 < (lnF [] l).length then ([], 3) else (lnF [] l, 0)
theorem linesS_long {l : List UInt8} (h : 1048576 < l.length) : linesS l = ([], 3) := by unfold linesS; rw [if_pos h]
theorem linesS_form {l : List UInt8} (h : ¬ 1048576 < l.length) (he : endsLn l = false) : linesS l = ([], 6) := by unfold linesS; rw [if_neg h, if_pos he]
theorem linesS_many {l : List UInt8} (h : ¬ 1048576 < l.length) (he : endsLn l = true) (hm : 5000 < (lnF [] l).length) : linesS l = ([], 3) := by
  unfold linesS; rw [if_neg h, if_neg (by rw [he]; decide), if_pos hm]
theorem linesS_ok {l : List UInt8} (h : ¬ 1048576 < l.length) (he : endsLn l = true) (hm : ¬ 5000 < (lnF [] l).length) : linesS l = (lnF [] l, 0) := by
  unfold linesS; rw [if_neg h, if_neg (by rw [he]; decide), if_neg hm]
theorem endsLn_nil : endsLn [] = true := rfl
theorem endsLn_cut {a t : List UInt8} (h : endsLn (a ++ 10 :: t) = true) : endsLn t = true := by
  cases t with
  | nil => rfl
  | cons c t =>
    unfold endsLn at *
    rw [Bool.or_eq_true] at *
    refine .inr ?_
    rcases h with h | h
    · simp at h
    · rw [List.getLast?_append] at h
      simpa using h
/-- Strings in cells. -/
def stc (l : List (List UInt8)) : List Value := l.map fun t => .string (str t)
theorem stc_len (l : List (List UInt8)) : (stc l).length = l.length := List.length_map ..
theorem stc_app (a b : List (List UInt8)) : stc (a ++ b) = stc a ++ stc b := List.map_append
theorem stc_at {l : List (List UInt8)} {k : Nat} {x : List UInt8} (h : l[k]? = some x) : (stc l)[k]? = some (.string (str x)) := by
  unfold stc; rw [List.getElem?_map, h]; rfl
/-- The slice value v holds the strings l. -/
def StrsAt (w : World) (v : Value) (l : List (List UInt8)) : Prop :=
  (v = .slice none 0 0 ∧ l = []) ∨ ∃ g off cap, v = .slice (some ⟨g, off, none⟩) l.length cap ∧ g < w.heap.size ∧ ∀ j u, (stc l)[j]? = some u → w.cell? ⟨g, off + j, none⟩ = some u
theorem StrsAt.below {B : Nat} {w w' : World} {v : Value} {l : List (List UInt8)} (h : StrsAt w v l) (hb : Below B w w') (hB : w.heap.size ≤ B) : StrsAt w' v l := by
  rcases h with h | ⟨g, off, cap, e, hg, hc⟩
  · exact .inl h
  · exact .inr ⟨g, off, cap, e, Nat.lt_of_lt_of_le hg hb.size, fun j u hj => (hb.cell (p := ⟨g, off + j, none⟩) (by show g < B; omega)).trans (hc j u hj)⟩
theorem StrsAt.own {w : World} {B : Nat} {e : TypeId} {v : Value} {l : List (List UInt8)} (h : w.ownsRow B e 1 v l.length (stc l)) : StrsAt w v l := by
  obtain ⟨_, h⟩ := h
  rcases h with ⟨rfl, h⟩ | ⟨g, cap, cur, rfl, _, hg, _, _, _, ht⟩
  · exact .inl ⟨rfl, List.eq_nil_of_length_eq_zero h⟩
  · refine .inr ⟨g, 0, cap, rfl, (Array.getElem?_eq_some_iff.1 hg).1, fun j u hj => ?_⟩
    rw [← ht] at hj
    have hj' : cur.toList[j]? = some u := by
      rw [List.getElem?_take] at hj
      split at hj
      · exact hj
      · cases hj
    simp only [World.cell?, hg, Nat.zero_add, Option.isSome_none]
    simpa using hj'
def LnV (l : List UInt8) (w : World) (e : Ending) (w' : World) : Prop :=
  ∃ v, e = .returned (.tuple #[v, .int .i64 (linesS l).2]) ∧ StrsAt w' v (linesS l).1 ∧ Below w.heap.size w w'
end Go.Proofs.YtchnmbfeaaialaaGreatDoor
