/- ParseList: mathematics. -/
import Derived.Test.YtchnmbfeaaialaaGreatDoorLnM
import Derived.Lib.Split
import Derived.Lib.TrimByte
import Derived.Lib.IndexMore
import Derived.Lib.IndexBytes
import Derived.Lib.Repeat
namespace Go.Proofs.YtchnmbfeaaialaaGreatDoor
open Go.RowKit Go.PlainAid

/-- The pieces between the bytes c. -/
def cutF (c : UInt8) : List UInt8 → List UInt8 → List (List UInt8)
  | cur, [] => [cur]
  | cur, x :: t => if x = c then cur :: cutF c [] t else cutF c (cur ++ [x]) t
theorem cutF_no {c : UInt8} : ∀ {l cur : List UInt8}, c ∉ l → cutF c cur l = [cur ++ l] := by
  intro l
  induction l with
  | nil => intro cur _; rw [cutF, List.append_nil]
  | cons x t ih =>
    intro cur h
    rw [cutF, if_neg (fun e => h (by rw [e]; exact List.mem_cons_self ..)), ih (fun e => h (List.mem_cons_of_mem _ e)), List.append_assoc]; rfl
theorem cutF_first {c : UInt8} : ∀ {a cur t : List UInt8}, c ∉ a → cutF c cur (a ++ c :: t) = (cur ++ a) :: cutF c [] t := by
  intro a
  induction a with
  | nil => intro cur t _; rw [List.nil_append, cutF, if_pos rfl, List.append_nil]
  | cons x a ih =>
    intro cur t h
    rw [List.cons_append, cutF, if_neg (fun e => h (by rw [e]; exact List.mem_cons_self ..)), ih (fun e => h (List.mem_cons_of_mem _ e)), List.append_assoc]; rfl
theorem cutF_len {c : UInt8} : ∀ {l cur : List UInt8}, 1 ≤ (cutF c cur l).length ∧ (cutF c cur l).length ≤ l.length + 1 := by
  intro l
  induction l with
  | nil => intro cur; simp [cutF]
  | cons x t ih =>
    intro cur
    rw [cutF]; split
    · have := ih (cur := []); simp only [List.length_cons]; omega
    · have := ih (cur := cur ++ [x]); simp only [List.length_cons]; omega
theorem cutF_mem {c : UInt8} : ∀ {l cur x : List UInt8}, x ∈ cutF c cur l → x.length ≤ cur.length + l.length := by
  intro l
  induction l with
  | nil => intro cur x h; rw [cutF, List.mem_singleton] at h; subst h; simp
  | cons y t ih =>
    intro cur x h
    rw [cutF] at h
    split at h
    · rcases List.mem_cons.1 h with rfl | h
      · simp only [List.length_cons]; omega
      · have := ih h; simp only [List.length_cons, List.length_nil] at *; omega
    · have := ih h; simp only [List.length_cons, List.length_append, List.length_nil] at *; omega
theorem cutF_nomem {c : UInt8} : ∀ {l cur x : List UInt8}, c ∉ cur → x ∈ cutF c cur l → c ∉ x := by
  intro l
  induction l with
  | nil => intro cur x h1 h; rw [cutF, List.mem_singleton] at h; subst h; exact h1
  | cons y t ih =>
    intro cur x h1 h
    rw [cutF] at h
    split at h
    · rcases List.mem_cons.1 h with rfl | h
      · exact h1
      · exact ih (by simp) h
    · rename_i hy
      refine ih (fun e => ?_) h
      rcases List.mem_append.1 e with e | e
      · exact h1 e
      · exact hy (List.mem_singleton.1 e).symm
theorem cut_mem {c : UInt8} : ∀ {l : List UInt8}, c ∈ l → ∃ a t, l = a ++ c :: t ∧ c ∉ a ∧ Lib.indexByte l c = (a.length : Int) := by
  intro l
  induction l with
  | nil => intro h; cases h
  | cons x l ih =>
    intro h
    by_cases hc : x = c
    · subst hc
      exact ⟨[], l, rfl, by simp, by simp [Lib.indexByte]⟩
    · obtain ⟨a, t, h1, h2, h3⟩ := ih (by
        rcases List.mem_cons.1 h with e | e
        · exact absurd e.symm hc
        · exact e)
      refine ⟨x :: a, t, by rw [h1]; rfl, fun e => ?_, ?_⟩
      · rcases List.mem_cons.1 e with e | e
        · exact hc e.symm
        · exact h2 e
      · unfold Lib.indexByte
        rw [if_neg (by simpa using hc), h3, if_neg (by first | (simp; done) | (simp; omega))]
        rfl
theorem idx_no {c : UInt8} : ∀ {l : List UInt8}, c ∉ l → Lib.indexByte l c = -1 := by
  intro l
  induction l with
  | nil => intro _; rfl
  | cons x l ih =>
    intro h
    have h1 : ¬ x = c := fun e => h (by rw [e]; exact List.mem_cons_self ..)
    unfold Lib.indexByte
    rw [if_neg (by simpa using h1), ih (fun e => h (List.mem_cons_of_mem _ e))]; rfl
theorem splitK_cut (c : UInt8) : ∀ (k : Nat) (l : List UInt8), l.count c ≤ k → Lib.splitK [c] 0 k l = cutF c [] l := by
  intro k
  induction k with
  | zero =>
    intro l h
    rw [cutF_no (List.count_eq_zero.1 (by omega))]; rfl
  | succ k ih =>
    intro l h
    by_cases hm : c ∈ l
    · obtain ⟨a, t, rfl, h2, h3⟩ := cut_mem hm
      unfold Lib.splitK
      rw [Lib.index_one, h3, if_neg (by first | (simp; done) | (simp; omega)), cutF_first h2, List.nil_append]
      have e1 : (((a.length : Int).toNat) + 0) = a.length := by omega
      have e2 : (((a.length : Int).toNat) + [c].length) = a.length + 1 := by simp
      rw [e1, e2, List.take_left' rfl, show a ++ c :: t = (a ++ [c]) ++ t by simp, List.drop_left' (by simp)]
      congr 1
      apply ih
      rw [List.count_append, List.count_cons_self] at h
      omega
    · unfold Lib.splitK
      rw [Lib.index_one, idx_no hm, if_pos (by decide), cutF_no hm]; rfl

/-- Whether a decimal form is that of a lesser number than another one. -/
def lessL (a b : List UInt8) : Bool := if a.length = b.length then Op.bytesLess a b else decide (a.length < b.length)
/-- The first and the last number of a run. -/
def runV (T : List UInt8) : Option (List UInt8 × List UInt8) := match cutF 45 [] T with
  | [a] => if natL a then some (a, a) else none
  | [a, b] => if natL a && natL b && lessL a b then some (a, b) else none
  | _ => none
/-- The decimal form of the next number. -/
def succL (s : List UInt8) : List UInt8 :=
  let h := Lib.trimRightB s 57
  let z := List.replicate (s.length - h.length) (48 : UInt8)
  if h = [] then 49 :: z else h.take (h.length - 1) ++ [h.getD (h.length - 1) 0 + 1] ++ z
/-- Whether a run may stand behind the one that ends with p. -/
def behV (p : Option (List UInt8)) (a : List UInt8) : Bool := match p with | none => true | some q => lessL (succL q) a
abbrev Rn := List UInt8 × List UInt8
def runsV : Option (List UInt8) → List (List UInt8) → Option (List Rn)
  | _, [] => some []
  | p, T :: ts => match runV T with
    | none => none
    | some x => if behV p x.1 then (runsV (some x.2) ts).map (x :: ·) else none
def numV (a : List UInt8) : Int := (intS a 0 1000000000).1
def uptoV (x y : Int) : List Int := (List.range (y - x + 1).toNat).map fun (i : Nat) => x + (i : Int)
def expV : List Int → List Rn → Option (List Int)
  | out, [] => some out
  | out, r :: rs => if 500 ≤ (out.length : Int) + numV r.2 - numV r.1 then none else expV (out ++ uptoV (numV r.1) (numV r.2)) rs
def lastVW (rs : List Rn) : List UInt8 := match rs.getLast? with | some r => r.2 | none => []
def parseV (L : List UInt8) : List Int × Int :=
  if L = [45] then ([], 0) else match runsV none (cutF 44 [] L) with
    | none => ([], 6)
    | some rs => if lessL (Lib.itoa 1000000000) (lastVW rs) then ([], 7) else match expV [] rs with
      | none => ([], 3)
      | some l => (l, 0)
theorem numV_range (a : List UInt8) : 0 ≤ numV a ∧ numV a ≤ 1000000000 := by
  unfold numV intS
  by_cases h1 : decL a = true
  · rw [if_pos h1]
    by_cases h2 : fits (valL a) ∧ 0 ≤ valL a ∧ valL a ≤ 1000000000
    · rw [if_pos h2]; exact h2.2
    · rw [if_neg h2]; exact ⟨Int.le_refl _, by decide⟩
  · rw [if_neg h1]; exact ⟨Int.le_refl _, by decide⟩
/-- How far the runs are read: pre was read, ts is left. -/
def RunsAt (L : List (List UInt8)) (pre : List Rn) (ts : List (List UInt8)) : Prop := L.length = pre.length + ts.length ∧ runsV none L = (runsV (pre.getLast?.map (·.2)) ts).map (pre ++ ·)
theorem runsAt_start (L : List (List UInt8)) : RunsAt L [] L := ⟨by simp, by simp⟩
theorem runsAt_bad {L ts : List (List UInt8)} {pre : List Rn} {T : List UInt8} (h : RunsAt L pre (T :: ts)) (hT : runV T = none ∨ ∃ x, runV T = some x ∧ behV (pre.getLast?.map (·.2)) x.1 = false) : runsV none L = none := by
  rw [h.2, runsV]
  rcases hT with hT | ⟨x, hT, hb⟩
  · rw [hT]; rfl
  · rw [hT]; simp only [hb]; rfl
theorem runsAt_step {L ts : List (List UInt8)} {pre : List Rn} {T : List UInt8} {x : Rn} (h : RunsAt L pre (T :: ts)) (hT : runV T = some x) (hb : behV (pre.getLast?.map (·.2)) x.1 = true) : RunsAt L (pre ++ [x]) ts := by
  refine ⟨by rw [h.1]; simp; omega, ?_⟩
  rw [h.2, runsV, hT]
  simp only [hb, if_true, List.getLast?_append, List.getLast?_singleton, Option.some_or, Option.map_some, Option.map_map]
  congr 1
  funext l
  simp
theorem runsAt_end {L : List (List UInt8)} {pre : List Rn} (h : RunsAt L pre []) : runsV none L = some pre := by
  rw [h.2, runsV]; simp
end Go.Proofs.YtchnmbfeaaialaaGreatDoor
