/- scopes.merge: two sets, scope by scope. (Written by tools/gen_sk.py.) -/
import Derived.Test.YtdiinlmeoifgjaaGreatDoorZt
import Derived.ScopeJumps
import Derived.BigQuiet
import Derived.Deep.RegionHeld3
import Derived.Deep.RegionWith
import Derived.Deep.DeepCutAuto
import Derived.Lib.Strings
import Derived.Laws.Cover1
namespace Go.Proofs.YtdiinlmeoifgjaaGreatDoor
open Go.RowKit Go.PlainAid

def choV (f b s : Bool) : Value := .agg #[.bool f, .bool b, .bool s]
def szV : Value → Nat
  | .string s => s.size
  | _ => 0
theorem ext_str (s : ByteArray) (f k : Nat) : s.extract f k = str ((s.data.toList.drop f).take (k - f)) := by
  rw [← str_data (s.extract f k), Lib.extract_data]
theorem cut_head (x : Nat) (l : List Nat) : (str (setL (x :: l))).extract 0 2 = str [hiB x, loB x] ∧ (str (setL (x :: l))).extract 2 (str (setL (x :: l))).size = str (setL l) := by
  constructor
  · rw [ext_str, str_list]; rfl
  · rw [ext_str, str_list, str_size]
    congr 1
    show List.take _ (setL l) = setL l
    rw [List.take_of_length_le]
    show (setL l).length ≤ (setL (x :: l)).length - 2
    rw [setL]; simp
/-- A scope whose label stands before its body: the body is walked once. -/
theorem wp_scope_once {P : Program} {Q : Exit → Act → World → Prop} {a : Act} {w : World} {c body : Code} (l : Nat) (J : Act → World → Prop) (μ : Act → World → Nat) (hf : findLabel c l = some (Code.seq .skip body))
    (first : (∀ a w, J a w → body.wp P (Exit.jump l J Q) a w) → c.wp P (Exit.jump l J Q) a w)
    (pass : ∀ a w, J a w → body.wp P (Exit.jump l (fun a' w' => J a' w' ∧ μ a' w' < μ a w) Q) a w) : (Code.scope c).wp P Q a w := by
  refine wp_scope_jumps l J μ hf (first fun a w h => Code.wp_mono ?_ (pass a w h)) fun a w h => wp_seq (wp_skip (pass a w h))
  rintro e a1 w1 h
  cases e with
  | goto t => exact ⟨h.1, h.2.1⟩
  | _ => exact h
/-- What merge has made, and what is left. -/
structure MgOk (f b s : Bool) (l m lc mc X : List Nat) : Prop where
  sum : mg f b s l m = X ++ mg f b s lc mc
  l64 : ∀ x ∈ lc, x < 65536
  m64 : ∀ x ∈ mc, x < 65536
  len : X.length + lc.length + mc.length ≤ 200000
theorem set_apS (X : List Nat) (c : Bool) (x : Nat) : setL (X ++ (if c then [x] else [])) = setL X ++ apS c [hiB x, loB x] := by
  rw [setL_app]; cases c <;> rfl
theorem if_len (c : Bool) (x : Nat) : (if c then [x] else [] : List Nat).length ≤ 1 := by cases c <;> simp
def MgM (a' : Act) (_ : World) : Nat := szV (a'.tmps.getD 0 undef) + szV (a'.tmps.getD 1 undef)
-- MARK9
end Go.Proofs.YtdiinlmeoifgjaaGreatDoor
