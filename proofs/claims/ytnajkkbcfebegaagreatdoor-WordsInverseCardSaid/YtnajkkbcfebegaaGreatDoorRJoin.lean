/- The reference's Join. -/
import Derived.Test.YtnajkkbcfebegaaGreatDoorRSplit
namespace Go.Proofs.YtnajkkbcfebegaaGreatDoor
open Go.RowKit Go.PlainAid

/-- The form of a field in a line. -/
def formF (x : Fld) : List UInt8 := if x.2 then quoteL x.1 else x.1
def gf (l : List Fld) (i : Nat) : Fld := l.getD i ([], false)
theorem gf_at {l : List Fld} {i : Nat} {x : Fld} (h : l[i]? = some x) : gf l i = x := by unfold gf; rw [List.getD_eq_getElem?_getD, h]; rfl
/-- The line of the first k fields. -/
def jnK (l : List Fld) : Nat → List UInt8
  | 0 => []
  | k + 1 => (if k = 0 then [] else jnK l k ++ [32]) ++ formF (gf l k)
/-- A field that has no form. -/
def noForm (x : Fld) : Bool := !x.2 && !bareL x.1
/-- What Join returns. -/
def joinS (l : List Fld) : List UInt8 × Int :=
  if tooL l then ([], 3) else if l.any noForm then ([], 6) else if 8192 < (jnK l l.length).length then ([], 3) else (jnK l l.length, 0)
def joinV (l : List Fld) : Value := .tuple #[.string (str (joinS l).1), .int .i64 (joinS l).2]
theorem tooL_at {l : List Fld} {k : Nat} {x : Fld} (hk : l[k]? = some x) (h : 2000 < x.1.length) : tooL l = true := by
  unfold tooL
  rw [Bool.or_eq_true, List.any_eq_true]
  exact .inr ⟨x, List.mem_of_getElem? hk, decide_eq_true h⟩
theorem tooL_no {l : List Fld} (h1 : l.length ≤ 64) (h : ∀ (k : Nat) x, l[k]? = some x → x.1.length ≤ 2000) : tooL l = false := by
  unfold tooL
  rw [Bool.or_eq_false_iff, List.any_eq_false]
  refine ⟨decide_eq_false (by omega), fun x hx => ?_⟩
  obtain ⟨j, hj⟩ := List.getElem?_of_mem hx
  have := h j x hj
  simp; omega
theorem noForm_at {l : List Fld} {k : Nat} {x : Fld} (hk : l[k]? = some x) (h : noForm x = true) : l.any noForm = true := List.any_eq_true.2 ⟨x, List.mem_of_getElem? hk, h⟩
theorem noForm_no {l : List Fld} (h : ∀ (k : Nat) x, l[k]? = some x → noForm x = false) : l.any noForm = false := by
  rw [List.any_eq_false]
  intro x hx
  obtain ⟨j, hj⟩ := List.getElem?_of_mem hx
  rw [h j x hj]; simp
theorem str_appF (a b : List UInt8) : str a ++ str b = str (a ++ b) := by apply ByteArray.ext; simp [str]
theorem str_sizeF (l : List UInt8) : (str l).size = l.length := str_size l
theorem long3 {l : List Fld} (h : tooL l = true) : joinV l = .tuple #[.string ⟨#[]⟩, .int .i64 3] := by unfold joinV joinS; rw [if_pos h]; rfl
theorem form6 {l : List Fld} (h : tooL l = false) (h2 : l.any noForm = true) : joinV l = .tuple #[.string ⟨#[]⟩, .int .i64 6] := by unfold joinV joinS; rw [if_neg (by rw [h]; simp), if_pos h2]; rfl
theorem line3 {l : List Fld} (h : tooL l = false) (h2 : l.any noForm = false) (h3 : 8192 < (jnK l l.length).length) : joinV l = .tuple #[.string ⟨#[]⟩, .int .i64 3] := by
  unfold joinV joinS; rw [if_neg (by rw [h]; simp), if_neg (by rw [h2]; simp), if_pos h3]; rfl
theorem line0 {l : List Fld} (h : tooL l = false) (h2 : l.any noForm = false) (h3 : ¬ 8192 < (jnK l l.length).length) : joinV l = .tuple #[.string (str (jnK l l.length)), .int .i64 0] := by
  unfold joinV joinS; rw [if_neg (by rw [h]; simp), if_neg (by rw [h2]; simp), if_neg h3]

theorem quote_size (x : List UInt8) : (quoteL x).length ≤ 4 * x.length + 2 := by
  unfold quoteL; have := escs_len x; simp only [List.length_cons, List.length_append, List.length_nil]; omega
theorem form_size (x : Fld) : (formF x).length ≤ 4 * x.1.length + 2 := by
  unfold formF; split
  · exact quote_size _
  · omega
theorem jnK_size {l : List Fld} (h : ∀ (j : Nat) x, l[j]? = some x → x.1.length ≤ 2000) : ∀ k, k ≤ l.length → (jnK l k).length ≤ 8003 * k := by
  intro k
  induction k with
  | zero => intro _; simp [jnK]
  | succ k ih =>
    intro hk
    have h1 := ih (by omega)
    have h2 := form_size (gf l k)
    have h3 := h k _ (List.getElem?_eq_getElem (by omega))
    rw [gf_at (List.getElem?_eq_getElem (by omega))] at h2
    unfold jnK
    rw [List.length_append, gf_at (List.getElem?_eq_getElem (by omega))]
    split
    · simp only [List.length_nil]; omega
    · simp only [List.length_append, List.length_cons, List.length_nil]; omega
theorem eqZ (f : List UInt8) : str [] ++ str f = str ([] ++ f) := str_appF [] f
theorem eqS (J f : List UInt8) : (str J ++ ⟨#[32]⟩) ++ str f = str ((J ++ [32]) ++ f) := by
  rw [show (⟨#[32]⟩ : ByteArray) = str [32] from rfl, str_appF, str_appF]

end Go.Proofs.YtnajkkbcfebegaaGreatDoor
