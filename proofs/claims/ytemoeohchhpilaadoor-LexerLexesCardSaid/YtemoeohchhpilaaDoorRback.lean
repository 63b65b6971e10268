/- runes.Back, runes.On. -/
import Derived.Test.YtemoeohchhpilaaDoorRstarts
namespace Go.Proofs.YtemoeohchhpilaaDoor
open Go.RowKit Go.PlainAid

/-- Going back over later bytes. -/
def bkGo (l : List UInt8) : Nat → Nat
  | 0 => 0
  | k + 1 => if (match l[k + 1]? with | some c => latB (ub c) | none => false) then bkGo l k else k + 1
/-- What Back returns. -/
def backS (l : List UInt8) (i : Int) : Int × Int := if (chkS l).2 ≠ 0 then (0, (chkS l).2) else if i < 0 ∨ (l.length : Int) < i then (0, 7) else ((bkGo l i.toNat : Int), 0)
def backV (l : List UInt8) (i : Int) : Value := .tuple #[.int .i64 (backS l i).1, .int .i64 (backS l i).2]
/-- What On returns. -/
def onS (l : List UInt8) (i : Int) : Bool × Int := (decide ((backS l i).2 = 0 ∧ (backS l i).1 = i), (backS l i).2)
def onV (l : List UInt8) (i : Int) : Value := .tuple #[.bool (onS l i).1, .int .i64 (onS l i).2]

/-- The first byte of a text is no later byte. -/
theorem first_no {l : List UInt8} {c : UInt8} (h : (runs l).2 = 0) (hc : l[0]? = some c) : latB (ub c) = false := by
  cases l with
  | nil => simp at hc
  | cons d t =>
    obtain rfl : d = c := by simpa using hc
    by_cases hd : (dec (d :: t)).2.2 = 0
    · have hne : wA (ub d) ≠ 0 := by
        intro h0; rw [dec_c0 h0] at hd; exact absurd hd (by decide)
      unfold latB; rw [decide_eq_false_iff_not]
      rintro ⟨h1, h2⟩
      by_cases h3 : ub d < 194
      · exact hne (wA_0 (.inl ⟨h1, h3⟩))
      · omega
    · obtain ⟨x, hx⟩ : ∃ x, (dec (d :: t)).2.2 = x := ⟨_, rfl⟩
      rw [hx] at hd
      rw [runs_err (by simp) hd hx] at h
      exact absurd h hd

end Go.Proofs.YtemoeohchhpilaaDoor
