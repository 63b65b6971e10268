/- The iterator over the fields of a line: what it yields. -/
import Derived.RangeFuncNested
import Derived.RangeFuncBound
import Derived.RangeFuncCalls
import Derived.RangeFuncLeaves
import Derived.Shelf.Abstract
import Derived.Shelf.RegionOpen
import Derived.WalkKit
import Derived.WalkMore
import Derived.BigGuardPart
import Derived.OwnWalkIn
import Derived.TacticsInMore
import Derived.LoopNIn
import Derived.LoopIn
import Derived.BigGuardPartIn
import Derived.Test.YtnajkkbcfebegaaGreatDoorRange
namespace Go.Proofs.YtnajkkbcfebegaaGreatDoor
open Go.RowKit Go.Shelf Go.PlainAid

attribute [local go_sem] Oper.semAt_some

/-- What the iterator yields: a field's string, whether it is quoted, and whether there is one. -/
abbrev Yld := List UInt8 × Bool × Bool
def bad : Yld := ([], false, false)
/-- The field that begins at p, and where it ends. -/
def fieldAt (l : List UInt8) (p : Nat) : Option (List UInt8 × Bool × Nat) :=
  if l[p]? = some 34 then (quoS l p).map fun x => (x.1, true, x.2)
  else if bareE l p = p then none else some ((l.drop p).takeWhile bareC, false, bareE l p)
/-- What is yielded from p on. -/
def flds : Nat → List UInt8 → Nat → List Yld
  | 0, _, _ => []
  | f + 1, l, p =>
    match fieldAt l p with
    | none => [bad]
    | some x => if x.2.2 < l.length ∧ l[x.2.2]? ≠ some 32 then [bad]
      else (x.1, x.2.1, true) :: (if l.length ≤ x.2.2 then [] else flds f l (x.2.2 + 1))
def fldsOf (l : List UInt8) : List Yld := if l = [] then [] else flds (l.length + 2) l 0
def encY (x : Yld) : Array Value := #[.agg #[.string (str x.1), .bool x.2.1], .bool x.2.2]

theorem arr63 (t : Array Value) (h : t.size = 63) : t = #[t.getD 0 undef, t.getD 1 undef, t.getD 2 undef, t.getD 3 undef, t.getD 4 undef, t.getD 5 undef, t.getD 6 undef, t.getD 7 undef, t.getD 8 undef, t.getD 9 undef, t.getD 10 undef, t.getD 11 undef, t.getD 12 undef, t.getD 13 undef, t.getD 14 undef, t.getD 15 undef, t.getD 16 undef, t.getD 17 undef, t.getD 18 undef, t.getD 19 undef, t.getD 20 undef, t.getD 21 undef, t.getD 22 undef, t.getD 23 undef, t.getD 24 undef, t.getD 25 undef, t.getD 26 undef, t.getD 27 undef, t.getD 28 undef, t.getD 29 undef, t.getD 30 undef, t.getD 31 undef, t.getD 32 undef, t.getD 33 undef, t.getD 34 undef, t.getD 35 undef, t.getD 36 undef, t.getD 37 undef, t.getD 38 undef, t.getD 39 undef, t.getD 40 undef, t.getD 41 undef, t.getD 42 undef, t.getD 43 undef, t.getD 44 undef, t.getD 45 undef, t.getD 46 undef, t.getD 47 undef, t.getD 48 undef, t.getD 49 undef, t.getD 50 undef, t.getD 51 undef, t.getD 52 undef, t.getD 53 undef, t.getD 54 undef, t.getD 55 undef, t.getD 56 undef, t.getD 57 undef, t.getD 58 undef, t.getD 59 undef, t.getD 60 undef, t.getD 61 undef, t.getD 62 undef] := by
  have e : t = ((List.range 63).map fun i => t.getD i undef).toArray := by
    apply Array.ext
    · simp [h]
    · intro i h1 h2
      simp [Array.getD, h1]
  exact e

set_option maxHeartbeats 400000 in
theorem fields_any (s : ByteArray) (w : World) :
    Calls Tryz.prog 33 #[.string s] w fun e w' => e = .returned (.func (.func 53) #[] #[.pointer (some ⟨w.heap.size, 0, none⟩)]) ∧ w' = w.alloc (.cells #[.string s] 9) := by
  have hmf : ∀ (fn : Fn) (first cap : Array Value) (w : World), (Instr.makeFunc fn first cap).run Tryz.prog w = .ok (.func fn first cap) w := fun _ _ _ _ => rfl
  go_enter Tryz.func33, Tryz.ntmps33
  go_wp2
  go_ret
  exact ⟨rfl, rfl⟩

/-- The frame of the iterator between two labels. -/
def FrameIs (l Bs Bf : Nat) (v4 v5 : Value) (a : Act) : Prop :=
  ∃ x2 x6 x7 x8 x9 x10 x11 x12 x13 x14 x15 x16 x17 x18 x19 x20 x21 x22 x23 x24 x25 x26 x27 x28 x29 x30 x31 x32 x33 x34 x35 x36 x37 x38 x39 x40 x41 x42 x43 x44 x45 x46 x47 x48 x49 x50 x51 x52 x53 x54 x55 x56 x57 x58 x59 x60 x61 x62, a = { tmps := #[.func (.yield l) #[] #[], .pointer (some ⟨Bs, 0, none⟩), x2, .pointer (some ⟨Bf, 0, none⟩), v4, v5, x6, x7, x8, x9, x10, x11, x12, x13, x14, x15, x16, x17, x18, x19, x20, x21, x22, x23, x24, x25, x26, x27, x28, x29, x30, x31, x32, x33, x34, x35, x36, x37, x38, x39, x40, x41, x42, x43, x44, x45, x46, x47, x48, x49, x50, x51, x52, x53, x54, x55, x56, x57, x58, x59, x60, x61, x62], defers := [] }

/-- The code of the iterator, and behind each of its labels. -/
noncomputable def cB : Code := match Tryz.f53.body with | some (.scope c) => c | _ => .skip
def sL : Code → Code | .seq c _ => c | c => c
def sR : Code → Code | .seq _ c => c | c => c
noncomputable def cN : Code := sR (sR (sR (sR (sR cB))))
noncomputable def cQ : Code := sR (sR (sR (sR cN)))
noncomputable def cE : Code := sR (sR (sR cQ))
noncomputable def restC (k : Nat) : Code := .seq .skip (match k with | 0 => cQ | 1 => cN | _ => cE)
theorem body_is : Tryz.f53.body = some (.scope ((sL cB).seq ((sL (sR cB)).seq ((sL (sR (sR cB))).seq ((sL (sR (sR (sR cB)))).seq ((Code.label 1).seq cN)))))) := rfl
theorem cN_is : cN = (sL cN).seq ((sL (sR cN)).seq ((Code.goto 2).seq ((Code.label 0).seq cQ))) := rfl
theorem cQ_is : cQ = (sL cQ).seq ((sL (sR cQ)).seq ((Code.label 2).seq cE)) := rfl
theorem lab_0 : findLabel ((sL cB).seq ((sL (sR cB)).seq ((sL (sR (sR cB))).seq ((sL (sR (sR (sR cB)))).seq ((Code.label 1).seq cN))))) 0 = some (restC 0) := rfl
theorem lab_1 : findLabel ((sL cB).seq ((sL (sR cB)).seq ((sL (sR (sR cB))).seq ((sL (sR (sR (sR cB)))).seq ((Code.label 1).seq cN))))) 1 = some (restC 1) := rfl
theorem lab_2 : findLabel ((sL cB).seq ((sL (sR cB)).seq ((sL (sR (sR cB))).seq ((sL (sR (sR (sR cB)))).seq ((Code.label 1).seq cN))))) 2 = some (restC 2) := rfl

/-- How far the iterator has come: pre was yielded; what is left begins at p. -/
def Left (L : List UInt8) (pre : List Yld) (p : Nat) : Prop := ∃ f, L.length + 1 < f + p ∧ fldsOf L = pre ++ flds f L p
theorem left_start {L : List UInt8} (h : L ≠ []) : Left L [] 0 := ⟨L.length + 2, by omega, by unfold fldsOf; rw [if_neg h]; rfl⟩
theorem left_bad {L : List UInt8} {pre : List Yld} {p : Nat} (h : Left L pre p) (hp : p ≤ L.length)
    (hb : fieldAt L p = none ∨ ∃ x, fieldAt L p = some x ∧ x.2.2 < L.length ∧ L[x.2.2]? ≠ some 32) : fldsOf L = pre ++ [bad] := by
  obtain ⟨f, hf, he⟩ := h
  obtain ⟨f, rfl⟩ : ∃ g, f = g + 1 := ⟨f - 1, by omega⟩
  rw [he, flds]
  rcases hb with hb | ⟨x, hb, h1, h2⟩
  · rw [hb]
  · rw [hb]; simp only []; rw [if_pos ⟨h1, h2⟩]
theorem left_good {L : List UInt8} {pre : List Yld} {p q : Nat} {S : List UInt8} {Q : Bool} (h : Left L pre p) (hp : p ≤ L.length) (hx : fieldAt L p = some (S, Q, q)) (hq : p ≤ q)
    (hs : L.length ≤ q ∨ L[q]? = some 32) : ∃ rest, fldsOf L = pre ++ (S, Q, true) :: rest ∧ (L.length ≤ q → rest = []) ∧ (q < L.length → Left L (pre ++ [(S, Q, true)]) (q + 1)) := by
  obtain ⟨f, hf, he⟩ := h
  obtain ⟨f, rfl⟩ : ∃ g, f = g + 1 := ⟨f - 1, by omega⟩
  have e : flds (f + 1) L p = (S, Q, true) :: (if L.length ≤ q then [] else flds f L (q + 1)) := by
    rw [flds, hx]; simp only []
    rw [if_neg]
    rintro ⟨h1, h2⟩
    rcases hs with hs | hs
    · omega
    · exact h2 hs
  refine ⟨_, by rw [he, e], fun hl => by rw [if_pos hl], fun hl => ⟨f, by omega, ?_⟩⟩
  rw [he, e, if_neg (by omega), List.append_assoc]; rfl

theorem grown_trans {W W1 W2 : World} {r : Option Nat} (h : W.grownBy W1 r) (k : W1.grownBy W2 r) : W.grownBy W2 r :=
  ⟨k.os.trans h.os, k.tape.trans h.tape, k.output.trans h.output, Nat.le_trans h.size k.size, fun j hj hr => (k.block j (Nat.lt_of_lt_of_le hj h.size) hr).trans (h.block j hj hr)⟩
theorem grown_below {W W1 : World} (r : Option Nat) (h : Below W.heap.size W W1) : W.grownBy W1 r :=
  ⟨h.os, h.tape, h.output, h.size, fun j hj _ => h.block j hj⟩
theorem grown_set (W : World) (b i : Nat) (v : Value) : W.grownBy (W.setCell ⟨b, i, none⟩ v) (some b) :=
  ⟨rfl, rfl, rfl, (KeepsWalks.setCell W _ v).size, fun k _ hk => Below.heap_setCell _ _ _ k (fun e => hk (by rw [e]))⟩
theorem bears_own {β : Type} {a : Nat} {I : β → World → Prop} (h : Bears a (a + 1) I) {x : β} {W W1 : World} (hI : I x W) (hg : W.grownBy W1 (some a)) : I x W1 :=
  h x W W1 (some a) hI hg (fun r e => by cases e; omega)

/-- What lies in memory between two labels. -/
def Mem (P₀ : Nat → Prop) (Bf : Nat) (W : World) (v0 v1 : Value) (W1 : World) : Prop :=
  (∀ k, P₀ k → k < W1.heap.size) ∧ (∀ k, P₀ k → W1.heap[k]? = W.heap[k]?) ∧ ∃ t, W1.heap[Bf]? = some (.cells #[v0, v1] t (0, 0))
theorem cell_b {W W1 : World} {b o : Nat} (h : W1.heap[b]? = W.heap[b]?) : W1.cell? ⟨b, o, none⟩ = W.cell? ⟨b, o, none⟩ := by simp [World.cell?, h]

theorem set_block {W : World} {b i : Nat} {c : Array Value} {t : TypeId} {fr : Nat × Nat} (v : Value) (h : W.heap[b]? = some (.cells c t fr)) :
    (W.setCell ⟨b, i, none⟩ v).heap[b]? = some (.cells (c.setIfInBounds i v) t fr) := by
  simp [World.setCell, Array.getElem?_modify, h]
theorem set_other {W : World} {b i k : Nat} (v : Value) (h : k ≠ b) : (W.setCell ⟨b, i, none⟩ v).heap[k]? = W.heap[k]? := Below.heap_setCell _ _ _ k h
theorem mem_set0 {P₀ : Nat → Prop} {Bf : Nat} {W W1 : World} {v0 v1 : Value} (u : Value) (hBf : ∀ k, P₀ k → k < Bf) (h : Mem P₀ Bf W v0 v1 W1) : Mem P₀ Bf W u v1 (W1.setCell ⟨Bf, 0, none⟩ u) := by
  obtain ⟨h1, h2, t, h3⟩ := h
  exact ⟨fun k hk => Nat.lt_of_lt_of_le (h1 k hk) (KeepsWalks.setCell W1 _ u).size, fun k hk => (set_other u (by have := hBf k hk; omega)).trans (h2 k hk), t, set_block u h3⟩
theorem mem_set1 {P₀ : Nat → Prop} {Bf : Nat} {W W1 : World} {v0 v1 : Value} (u : Value) (hBf : ∀ k, P₀ k → k < Bf) (h : Mem P₀ Bf W v0 v1 W1) : Mem P₀ Bf W v0 u (W1.setCell ⟨Bf, 1, none⟩ u) := by
  obtain ⟨h1, h2, t, h3⟩ := h
  exact ⟨fun k hk => Nat.lt_of_lt_of_le (h1 k hk) (KeepsWalks.setCell W1 _ u).size, fun k hk => (set_other u (by have := hBf k hk; omega)).trans (h2 k hk), t, set_block u h3⟩
theorem mem_below {P₀ : Nat → Prop} {Bf : Nat} {W W1 W2 : World} {v0 v1 : Value} (hb : Below W1.heap.size W1 W2) (h : Mem P₀ Bf W v0 v1 W1) : Mem P₀ Bf W v0 v1 W2 := by
  obtain ⟨h1, h2, t, h3⟩ := h
  exact ⟨fun k hk => Nat.lt_of_lt_of_le (h1 k hk) hb.size, fun k hk => (hb.block k (h1 k hk)).trans (h2 k hk), t, (hb.block Bf (Array.getElem?_eq_some_iff.1 h3).1).trans h3⟩

variable (l Bs Bf : Nat) (P₀ : Nat → Prop) (s : ByteArray) (J : List Yld → World → Prop) (W : World)
def AtN (a : Act) (W1 : World) (p : Nat) : Prop := ∃ pre v4 v0 v1, J pre W1 ∧ Left s.data.toList pre p ∧ p ≤ s.size ∧ FrameIs l Bs Bf v4 (.int .i64 (p : Int)) a ∧ Mem P₀ Bf W v0 v1 W1
def AtQ (a : Act) (W1 : World) (p : Nat) : Prop := AtN l Bs Bf P₀ s J W a W1 p ∧ s.data.toList[p]? = some 34
def AtE (a : Act) (W1 : World) (p q : Nat) : Prop := ∃ pre S Q ok, J pre W1 ∧ Left s.data.toList pre p ∧ p ≤ s.size ∧ (ok = true → p ≤ q) ∧ q ≤ s.size ∧ FrameIs l Bs Bf (.bool ok) (.int .i64 (q : Int)) a ∧ Mem P₀ Bf W (.string (str S)) (.bool Q) W1 ∧
  fieldAt s.data.toList p = (if ok then some (S, Q, q) else none)
/-- The byte that slot 5 names. -/
def at5 (a : Act) : Nat := (intOf (a.tmps.getD 5 undef)).toNat
def JL (k : Nat) (a : Act) (W1 : World) : Prop := match k with
  | 0 => AtQ l Bs Bf P₀ s J W a W1 (at5 a)
  | 1 => AtN l Bs Bf P₀ s J W a W1 (at5 a)
  | 2 => ∃ p, AtE l Bs Bf P₀ s J W a W1 p (at5 a)
  | _ => False
def μL (k : Nat) (a : Act) (_ : World) : Nat := 3 * (s.size + 1 - at5 a) + (match k with | 0 => 1 | 1 => 2 | _ => 0)

set_option maxRecDepth 100000 in
set_option maxHeartbeats 4000000 in
theorem next_wp (n : Nat) (hs : s.size ≤ 1000000000) (hBf : ∀ k, P₀ k → k < Bf) (hB0 : P₀ Bs) (hJ : Bears Bf (Bf + 1) J) (hcW : W.cell? ⟨Bs, 0, none⟩ = some (.string s))
    (Q0 : Exit → Act → World → Prop) (a : Act) (W1 : World) (p : Nat) (h : AtN l Bs Bf P₀ s J W a W1 p) :
    cN.wpIn Fence.wide n Tryz.prog (jumps (fun k' a' w' => JL l Bs Bf P₀ s J W k' a' w' ∧ μL s k' a' w' < 3 * (s.size + 1 - p) + 2) Q0) a W1 := by
  obtain ⟨pre, v4, v0, v1, hJ1, hL, hp, ⟨x2, x6, x7, x8, x9, x10, x11, x12, x13, x14, x15, x16, x17, x18, x19, x20, x21, x22, x23, x24, x25, x26, x27, x28, x29, x30, x31, x32, x33, x34, x35, x36, x37, x38, x39, x40, x41, x42, x43, x44, x45, x46, x47, x48, x49, x50, x51, x52, x53, x54, x55, x56, x57, x58, x59, x60, x61, x62, rfl⟩, hn1, hk1, t, hb1⟩ := h
  have hc := (cell_b (o := 0) (hk1 Bs hB0)).trans hcW
  have hlt : Bf < W1.heap.size := (Array.getElem?_eq_some_iff.1 hb1).1
  have hf0 : W1.cell? ⟨Bf, 0, none⟩ = some v0 := by simp [World.cell?, hb1]
  have hf1 : W1.cell? ⟨Bf, 1, none⟩ = some v1 := by simp [World.cell?, hb1]
  have hz0 : W1.frozen? ⟨Bf, 0, none⟩ = false := by simp [World.frozen?, hb1]
  have hz1 : W1.frozen? ⟨Bf, 1, none⟩ = false := by simp [World.frozen?, hb1]
  have hb := get_bt s
  refine wpIn_wide.2 ?_
  rw [cN_is]
  simp only [sL, sR, cN, cB, Tryz.f53]
  by_cases hq : s.data.toList[p]? = some 34
  · have hlt1 : p < s.size := by
      have := (List.getElem?_eq_some_iff.1 hq).1; simpa using this
    have hq1 : bt s p = 34 := by
      obtain ⟨h1, h2⟩ := List.getElem?_eq_some_iff.1 hq
      rw [bt_get s p hlt1]; show ((s.data.toList[p].toNat : Nat) : Int) = 34; rw [h2]; rfl
    clear hf0 hf1 hz0 hz1
    go_wp2_with go_step3
    refine ⟨⟨⟨pre, v4, v0, v1, hJ1, hL, hp, ⟨_, _, _, _, _, _, _, _, _, _, _, _, _, _, _, _, _, _, _, _, _, _, _, _, _, _, _, _, _, _, _, _, _, _, _, _, _, _, _, _, _, _, _, _, _, _, _, _, _, _, _, _, _, _, _, _, _, _, rfl⟩, hn1, hk1, t, hb1⟩, hq⟩, ?_⟩
    show 3 * (s.size + 1 - p) + 1 < _
    omega
  · have hq1 : p < s.size → ((bt s p) == 34) = false := by
      intro hlt1
      rw [beq_eq_false_iff_ne]; intro e; apply hq
      rw [List.getElem?_eq_getElem (by simpa using hlt1)]
      congr 1
      apply UInt8.toNat_inj.1
      rw [bt_get s p hlt1] at e
      have e' : ((s.data.toList[p].toNat : Nat) : Int) = 34 := e
      have h34 : (34 : UInt8).toNat = 34 := rfl
      omega
    have C := bareField_any s p
    unfold fldV at C
    have hbl := bareE_le (l := s.data.toList) (p := p) (by rw [len_list]; exact hp)
    rw [len_list] at hbl
    have hfa : fieldAt s.data.toList p = (if decide (p < bareE s.data.toList p) then some ((s.data.toList.drop p).takeWhile bareC, false, bareE s.data.toList p) else none) := by
      unfold fieldAt
      rw [if_neg hq]
      by_cases he : bareE s.data.toList p = p
      · rw [if_pos he, he, if_neg (by simp)]
      · rw [if_neg he, if_pos (by simp; omega)]
    obtain ⟨S, hS⟩ : ∃ S, S = (s.data.toList.drop p).takeWhile bareC := ⟨_, rfl⟩
    obtain ⟨q, hqq⟩ : ∃ q, q = bareE s.data.toList p := ⟨_, rfl⟩
    rw [← hS, ← hqq] at C hfa
    rw [← hqq] at hbl
    have C := Lib.hid C
    have hfa := Lib.hid hfa
    clear hS hqq hq
    by_cases hlt1 : p < s.size
    · have hq2 := hq1 hlt1
      clear hq1
      go_wp2_with (first | go_step3 | (go_at_call 54; refine (C.out _ hp hs).mono ?_; rintro e w1 ⟨rfl, hb2⟩; have hf0' := (hb2.cell (p := ⟨Bf, 0, none⟩) hlt).trans hf0; have hf1' := (hb2.cell (p := ⟨Bf, 1, none⟩) hlt).trans hf1; have hz0' := (hb2.frozen (p := ⟨Bf, 0, none⟩) hlt).trans hz0; have hz1' := (hb2.frozen (p := ⟨Bf, 1, none⟩) hlt).trans hz1))
      have M := mem_below hb2 ⟨hn1, hk1, t, hb1⟩
      refine ⟨⟨p, pre, S, false, _, bears_own hJ hJ1 (grown_trans (grown_trans (grown_below _ hb2) (grown_set _ _ _ _)) (grown_set _ _ _ _)), hL, hp, fun _ => hbl.1, hbl.2, ⟨_, _, _, _, _, _, _, _, _, _, _, _, _, _, _, _, _, _, _, _, _, _, _, _, _, _, _, _, _, _, _, _, _, _, _, _, _, _, _, _, _, _, _, _, _, _, _, _, _, _, _, _, _, _, _, _, _, _, rfl⟩, mem_set1 _ hBf (mem_set0 _ hBf M), hfa.out⟩, ?_⟩
      show 3 * (s.size + 1 - q) + 0 < _
      omega
    · clear hq1
      go_wp2_with (first | go_step3 | (go_at_call 54; refine (C.out _ hp hs).mono ?_; rintro e w1 ⟨rfl, hb2⟩; have hf0' := (hb2.cell (p := ⟨Bf, 0, none⟩) hlt).trans hf0; have hf1' := (hb2.cell (p := ⟨Bf, 1, none⟩) hlt).trans hf1; have hz0' := (hb2.frozen (p := ⟨Bf, 0, none⟩) hlt).trans hz0; have hz1' := (hb2.frozen (p := ⟨Bf, 1, none⟩) hlt).trans hz1))
      have M := mem_below hb2 ⟨hn1, hk1, t, hb1⟩
      refine ⟨⟨p, pre, S, false, _, bears_own hJ hJ1 (grown_trans (grown_trans (grown_below _ hb2) (grown_set _ _ _ _)) (grown_set _ _ _ _)), hL, hp, fun _ => hbl.1, hbl.2, ⟨_, _, _, _, _, _, _, _, _, _, _, _, _, _, _, _, _, _, _, _, _, _, _, _, _, _, _, _, _, _, _, _, _, _, _, _, _, _, _, _, _, _, _, _, _, _, _, _, _, _, _, _, _, _, _, _, _, _, rfl⟩, mem_set1 _ hBf (mem_set0 _ hBf M), hfa.out⟩, ?_⟩
      show 3 * (s.size + 1 - q) + 0 < _
      omega

set_option maxRecDepth 100000 in
set_option maxHeartbeats 4000000 in
theorem quoted_wp (n : Nat) (hs : s.size ≤ 1000000000) (hBf : ∀ k, P₀ k → k < Bf) (hB0 : P₀ Bs) (hJ : Bears Bf (Bf + 1) J) (hcW : W.cell? ⟨Bs, 0, none⟩ = some (.string s)) (htab : EscTab W) (hw : P₀ 0)
    (Q0 : Exit → Act → World → Prop) (a : Act) (W1 : World) (p : Nat) (h : AtQ l Bs Bf P₀ s J W a W1 p)
    (behind : ∀ a' W2 q, AtE l Bs Bf P₀ s J W a' W2 p q → cE.wpIn Fence.wide n Tryz.prog Q0 a' W2) :
    cQ.wpIn Fence.wide n Tryz.prog Q0 a W1 := by
  obtain ⟨⟨pre, v4, v0, v1, hJ1, hL, hp, ⟨x2, x6, x7, x8, x9, x10, x11, x12, x13, x14, x15, x16, x17, x18, x19, x20, x21, x22, x23, x24, x25, x26, x27, x28, x29, x30, x31, x32, x33, x34, x35, x36, x37, x38, x39, x40, x41, x42, x43, x44, x45, x46, x47, x48, x49, x50, x51, x52, x53, x54, x55, x56, x57, x58, x59, x60, x61, x62, rfl⟩, hn1, hk1, t, hb1⟩, hq⟩ := h
  have hc := (cell_b (o := 0) (hk1 Bs hB0)).trans hcW
  have hlt : Bf < W1.heap.size := (Array.getElem?_eq_some_iff.1 hb1).1
  have hf0 : W1.cell? ⟨Bf, 0, none⟩ = some v0 := by simp [World.cell?, hb1]
  have hf1 : W1.cell? ⟨Bf, 1, none⟩ = some v1 := by simp [World.cell?, hb1]
  have hz0 : W1.frozen? ⟨Bf, 0, none⟩ = false := by simp [World.frozen?, hb1]
  have hz1 : W1.frozen? ⟨Bf, 1, none⟩ = false := by simp [World.frozen?, hb1]
  have hfa : fieldAt s.data.toList p = (quoS s.data.toList p).map fun x => (x.1, true, x.2) := by unfold fieldAt; rw [if_pos hq]
  have hM : Mem P₀ Bf W v0 v1 W1 := ⟨hn1, hk1, t, hb1⟩
  obtain ⟨Wa, hWa⟩ : ∃ Wa, Wa = W1.setCell ⟨Bf, 1, none⟩ (.bool true) := ⟨_, rfl⟩
  have hMa : Mem P₀ Bf W v0 (.bool true) Wa := by rw [hWa]; exact mem_set1 _ hBf hM
  have hJa : J pre Wa := by rw [hWa]; exact bears_own hJ hJ1 (grown_set _ _ _ _)
  have hta : EscTab Wa := by
    obtain ⟨tt, fr, h⟩ := htab; exact ⟨tt, fr, (hMa.2.1 _ hw).trans h⟩
  have hwa : 0 < Wa.heap.size := hMa.1 _ hw
  have hca := (cell_b (o := 0) (hMa.2.1 Bs hB0)).trans hcW
  have hza : Bf < Wa.heap.size := by obtain ⟨_, _, _, h3⟩ := hMa; exact (Array.getElem?_eq_some_iff.1 h3).1
  have ha0 : Wa.cell? ⟨Bf, 0, none⟩ = some v0 := by obtain ⟨_, _, _, h3⟩ := hMa; simp [World.cell?, h3]
  have hy0 : Wa.frozen? ⟨Bf, 0, none⟩ = false := by obtain ⟨_, _, _, h3⟩ := hMa; simp [World.frozen?, h3]
  refine wpIn_wide.2 ?_
  rw [cQ_is]
  simp only [sL, sR, cQ, cN, cB, Tryz.f53]
  have C : Hid (Calls Tryz.prog 40 #[.string s, .int .i64 (p : Int)] Wa fun e w' => ∃ (S : List UInt8) (q : Nat) (ok : Bool), e = .returned (.tuple #[.string (str S), .int .i64 (q : Int), .bool ok]) ∧ q ≤ s.size ∧ (ok = true → p ≤ q) ∧
      fieldAt s.data.toList p = (if ok then some (S, true, q) else none) ∧ Below Wa.heap.size Wa w') := Lib.hid (by
    refine (quotedAt_any s p Wa hp hs hta hwa).mono ?_
    rintro e w' ⟨h1, h2⟩
    cases hx : quoS s.data.toList p with
    | none =>
      rw [hx] at h1 hfa
      obtain ⟨k, hk, rfl⟩ := h1
      exact ⟨[], k, false, rfl, hk, by simp, hfa, h2⟩
    | some x =>
      have hl := quoS_le hx
      rw [hx] at h1 hfa
      obtain rfl := h1
      exact ⟨x.1, x.2, true, rfl, by simpa using hl.2, fun _ => by omega, hfa, h2⟩)
  go_wp2_with (first | go_step3 | (go_at_call 40; rw [← hWa]; refine C.out.mono ?_; rintro e w1 ⟨S, q, ok, rfl, hq1, hq2, hfb, hb2⟩; have hf0' := (hb2.cell (p := ⟨Bf, 0, none⟩) hza).trans ha0; have hz0' := (hb2.frozen (p := ⟨Bf, 0, none⟩) hza).trans hy0; have M2 := mem_below hb2 hMa))
  refine wpIn_wide.1 (behind _ _ q ⟨pre, S, true, ok, bears_own hJ hJa (grown_trans (grown_below _ hb2) (grown_set _ _ _ _)), hL, hp, hq2, hq1, ⟨_, _, _, _, _, _, _, _, _, _, _, _, _, _, _, _, _, _, _, _, _, _, _, _, _, _, _, _, _, _, _, _, _, _, _, _, _, _, _, _, _, _, _, _, _, _, _, _, _, _, _, _, _, _, _, _, _, _, rfl⟩, mem_set0 _ hBf M2, hfb⟩)
end Go.Proofs.YtnajkkbcfebegaaGreatDoor
