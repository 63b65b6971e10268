/- A range over a function whose iterator keeps variables of its own in memory, in the m blocks that it makes first: one law for the caller. -/
import Derived.Test.YtbkkmcfpjpbhaaaNames
import Derived.RangeFuncNested
namespace Go.Proofs.Ytbkkmcfpjpbhaaa
open Go Go.RowKit

/-- The blocks of P₀, and those from a on before b, are as they were. -/
def KeepsB (P₀ : Nat → Prop) (a b : Nat) (W W' : World) : Prop := W.heap.size ≤ W'.heap.size ∧ ∀ k, (P₀ k ∨ (a ≤ k ∧ k < b)) → W'.heap[k]? = W.heap[k]?
theorem KeepsB.refl (P₀ : Nat → Prop) (a b : Nat) (W : World) : KeepsB P₀ a b W W := ⟨Nat.le_refl _, fun _ _ => rfl⟩
theorem KeepsB.trans {P₀ : Nat → Prop} {a b : Nat} {W W' W'' : World} (h : KeepsB P₀ a b W W') (k : KeepsB P₀ a b W' W'') : KeepsB P₀ a b W W'' :=
  ⟨Nat.le_trans h.1 k.1, fun j hj => (k.2 j hj).trans (h.2 j hj)⟩
theorem KeepsB.narrow {P₀ : Nat → Prop} {a b a' b' : Nat} {W W' : World} (h : KeepsB P₀ a b W W') (ha : a ≤ a') (hb : b' ≤ b) : KeepsB P₀ a' b' W W' :=
  ⟨h.1, fun j hj => h.2 j (hj.elim .inl fun h => .inr (by omega))⟩
theorem KeepsB.grown {P₀ : Nat → Prop} {a b : Nat} {W W' : World} {row : Option Nat} (hg : W.grownBy W' row) (hn : ∀ k, P₀ k → k < W.heap.size) (hb : b ≤ W.heap.size) (hr : ∀ r, row = some r → ¬ P₀ r ∧ (r < a ∨ b ≤ r)) : KeepsB P₀ a b W W' :=
  ⟨hg.size, fun k hk => hg.block k (hk.elim (hn k) fun h => by omega) (fun e => by
    have := hr k e.symm
    rcases hk with hk | hk
    · exact this.1 hk
    · omega)⟩
theorem KeepsB.below {P₀ : Nat → Prop} {a b : Nat} {W W' : World} (h : Below W.heap.size W W') (hn : ∀ k, P₀ k → k < W.heap.size) (hb : b ≤ W.heap.size) : KeepsB P₀ a b W W' :=
  ⟨h.size, fun k hk => h.block k (hk.elim (hn k) fun h => by omega)⟩

/-- What is said stands wherever new blocks have come, and of the others only those from a on before b have turned. -/
def Bears {β : Type} (a b : Nat) (I : β → World → Prop) : Prop :=
  ∀ s W W' row, I s W → W.grownBy W' row → (∀ r, row = some r → a ≤ r ∧ r < b) → I s W'

/-- The iterator's contract. -/
def SeqB {α : Type} (n : Nat) (P : Program) (g : Nat) (lb : Array Value) (encs : α → Array Value) (P₀ : Nat → Prop) (m : Nat) (S Sp : List α → Prop) (N : Nat) (w : World) : Prop :=
  ∀ (l : Nat) (J Jx : List α → World → Prop) (W : World), Below w.heap.size w W → Bears W.heap.size (W.heap.size + m) J → Bears W.heap.size (W.heap.size + m) Jx →
    (∀ pre x W1, J pre W1 → W.heap.size + m ≤ W1.heap.size → pre.length < N → YieldAt Fence.wide (n - 1) P l (encs x) W1 fun e W' =>
      (e = .returned (.bool true) ∧ J (pre ++ [x]) W' ∧ KeepsB P₀ W.heap.size (W.heap.size + m) W1 W') ∨ (e = .returned (.bool false) ∧ Jx (pre ++ [x]) W')) →
    J [] W →
    CallsIn Fence.wide n P g (#[.func (.yield l) #[] #[]] ++ lb) W fun e W' => (∃ v, e = .returned v) ∧ ((∃ xs, S xs ∧ J xs W') ∨ (∃ pre, Sp pre ∧ Jx pre W'))

/-- How the body of a round may be left. -/
def postB {α : Type} (P₀ : Nat → Prop) (a b : Nat) (I : List α → World → Prop) (Ix : Code → List α → World → Prop) (xs : List α) (W : World) : Exit → Act → World → Prop
  | .normal, _, W' => KeepsB P₀ a b W W' ∧ I xs W'
  | .ret, _, W' => KeepsB P₀ a b W W' ∧ Ix .ret xs W'
  | .exit id, _, W' => KeepsB P₀ a b W W' ∧ Ix (.exit id) xs W'
  | .goto t, _, W' => KeepsB P₀ a b W W' ∧ Ix (.goto t) xs W'
  | .panic _, _, _ => False
  | .outgrown, _, _ => False

theorem wpIn_rangeB {α : Type} {P : Program} {n : Nat} {g : Operand} {ps : Array Tmp} {assign body : Code} {Q : Exit → Act → World → Prop} {a : Act} {w : World} (h1 : 1 ≤ n)
    {gf : Nat} {lb : Array Value} (hg : a.eval g = .func (.func gf) #[] lb) (eg : ∀ args w, (callFunc gf args).run P w = .ok (.enter gf args) w)
    {encs : α → Array Value} {P₀ : Nat → Prop} {m : Nat} {S Sp : List α → Prop} {N : Nat} {w0 : World} (hseq : SeqB (n - 1) P gf lb encs P₀ m S Sp N w0) (hb0 : Below w0.heap.size w0 w) (hn₀ : ∀ k, P₀ k → k < w.heap.size) (hps : ∀ x, (encs x).size = ps.size)
    (I : List α → World → Prop) (Ix : Code → List α → World → Prop) (hI : Bears w.heap.size (w.heap.size + 2 + m) I) (hIx : ∀ c, Bears w.heap.size (w.heap.size + 2 + m) (Ix c)) (h0 : I [] w)
    (Ax : List α → α → Act → World → Prop) (hAx : ∀ pre x, Bears w.heap.size (w.heap.size + 2 + m) (Ax pre x))
    (hassign : ∀ (l : Nat) (pre : List α) (x : α) (W : World) (K : Act → World → Prop), I pre W → w.heap.size + 2 + m ≤ W.heap.size →
      (∀ a' W', KeepsB P₀ w.heap.size (w.heap.size + 2 + m) W W' → Ax pre x a' W' → K a' W') →
      assign.wpIn (Fence.wide.inRound l) (n - 1 - 1) P (Exit.then K (fun _ _ _ => False)) { tmps := (ps.zip (encs x)).foldl (fun t (p, v) => t.setIfInBounds p v) a.tmps, defers := [] } W)
    (hbody : ∀ (l : Nat) (pre : List α) (x : α) (a' : Act) (W : World), Ax pre x a' W → w.heap.size + 2 + m ≤ W.heap.size → pre.length < N →
      body.wpIn (Fence.wide.inRound l) (n - 1 - 1) P (postB P₀ w.heap.size (w.heap.size + 2 + m) I Ix (pre ++ [x]) W) a' W)
    (hdone : ∀ (xs : List α) (W : World), S xs → I xs W → W.heap[w.heap.size]? = some (.deferred (some [])) → Q .normal { a with defers := { target := .collected w.heap.size, args := #[] } :: a.defers } W)
    (hstop : ∀ (c : Code) (pre : List α) (W : World), Sp pre → Ix c pre W → W.heap[w.heap.size]? = some (.deferred (some [])) →
      c.wpIn Fence.wide n P Q { a with defers := { target := .collected w.heap.size, args := #[] } :: a.defers } W) :
    (Code.rangeFunc g ps assign body).wpIn Fence.wide n P Q a w := by
  refine wpIn_rangeFunc fun fn _ => ?_
  obtain ⟨D, hD⟩ : ∃ D, D = w.heap.size := ⟨_, rfl⟩
  simp only [← hD] at hI hIx hAx hassign hbody hdone hstop hn₀
  -- the loop's record
  let R : LoopState → Option Code → Obj := fun st pe => .loop { state := st, pending := pe, fn, tmps := a.tmps, params := ps, assign, body, defers := D }
  obtain ⟨W1, hW1⟩ : ∃ W1, W1 = (w.alloc (.deferred (some []))).alloc (R .ready none) := ⟨_, rfl⟩
  have hsz1 : W1.heap.size = D + 2 := by rw [hW1, hD]; simp
  have hrec1 : W1.heap[D + 1]? = some (R .ready none) := by
    have := World.alloc_heap_new (w.alloc (.deferred (some []))) (R .ready none)
    rw [World.size_alloc, ← hD] at this; rw [hW1]; exact this
  have hdef1 : W1.heap[D]? = some (.deferred (some [])) := by
    rw [hW1, hD]; exact (Below.heap_alloc _ _ _ (by simp)).trans (World.alloc_heap_new w _)
  have hin1 : I [] W1 := by
    rw [hW1]
    exact hI _ _ _ none (hI _ _ _ none h0 (World.grownBy_alloc w _ none) (fun r e => by cases e)) (World.grownBy_alloc _ _ none) (fun r e => by cases e)
  have hbel1 : Below w0.heap.size w0 W1 := by
    rw [hW1]; exact hb0.trans ((((Below.refl _ w).alloc (Nat.le_refl _) _).alloc (by simp) _).mono hb0.size)
  refine ⟨D + 1, [{ target := .collected D, args := #[] }], W1, { target := .fn (.func gf) lb, args := #[.func (.yield (D + 1)) #[] #[]] }, W1, gf, #[.func (.yield (D + 1)) #[] #[]] ++ lb, W1, ?_, ?_, fun _ _ => trivial, ?_, fun _ => h1, ?_⟩
  · have := run_enterLoop_outer (P := P) (w := w) fn a.tmps ps assign body
    rw [hW1]; simp only [R, hD]; exact this
  · simp only [resolve, hg]; simp [go_sem]
  · simp [invoke, go_sem, eg]
  -- the iterator runs over the caller's invariant, with the two blocks of the loop beside it
  refine (hseq (D + 1) (fun pre W => I pre W ∧ W.heap[D + 1]? = some (R .ready none) ∧ W.heap[D]? = some (.deferred (some [])))
    (fun pre W => ∃ c, Ix c pre W ∧ W.heap[D + 1]? = some (R .done (some c)) ∧ W.heap[D]? = some (.deferred (some []))) W1 hbel1 ?_ ?_ ?_ ⟨hin1, hrec1, hdef1⟩).mono ?_
  · rintro s A B row ⟨hi, hl, hk⟩ hg' hr
    rw [hsz1] at hr
    refine ⟨hI _ _ _ row hi hg' (fun r e => by have := hr r e; omega), ?_, ?_⟩
    · rw [hg'.block (D + 1) (Array.getElem?_eq_some_iff.1 hl).1 (fun e => by have := hr _ e.symm; omega)]; exact hl
    · rw [hg'.block D (Array.getElem?_eq_some_iff.1 hk).1 (fun e => by have := hr _ e.symm; omega)]; exact hk
  · rintro s A B row ⟨c, hi, hl, hk⟩ hg' hr
    rw [hsz1] at hr
    refine ⟨c, hIx c _ _ _ row hi hg' (fun r e => by have := hr r e; omega), ?_, ?_⟩
    · rw [hg'.block (D + 1) (Array.getElem?_eq_some_iff.1 hl).1 (fun e => by have := hr _ e.symm; omega)]; exact hl
    · rw [hg'.block D (Array.getElem?_eq_some_iff.1 hk).1 (fun e => by have := hr _ e.symm; omega)]; exact hk
  · -- one round
    rintro pre x W ⟨hi, hl, hk⟩ hsz hlen
    rw [hsz1] at hsz
    have hy := run_yield (P := P) (args := encs x) hl (hps x)
    refine ⟨fn, _, assign, body, hy, roundIn_of_wpIn trivial (hassign _ pre x W _ hi hsz ?_)⟩
    intro a' Wa hka hax
    have hla : Wa.heap[D + 1]? = some (R .ready none) := (hka.2 _ (.inr (by omega))).trans hl
    have hka' : Wa.heap[D]? = some (.deferred (some [])) := (hka.2 _ (.inr (by omega))).trans hk
    have hlt : D + 1 < Wa.heap.size := (Array.getElem?_eq_some_iff.1 hla).1
    refine ⟨_, run_beginRound hla rfl, ?_⟩
    obtain ⟨Wb, hWb⟩ : ∃ Wb, Wb = Wa.putObj (D + 1) (R .busy none) := ⟨_, rfl⟩
    show body.wpIn _ _ P _ a' (Wa.putObj (D + 1) (R .busy none))
    rw [← hWb]
    have hlb : Wb.heap[D + 1]? = some (R .busy none) := by rw [hWb]; exact World.putObj_heap_same hlt
    have hkb : Wb.heap[D]? = some (.deferred (some [])) := by rw [hWb]; exact (World.putObj_heap_other (by omega)).trans hka'
    have hsb : Wb.heap.size = Wa.heap.size := by rw [hWb]; simp
    have haxb : Ax pre x a' Wb := by rw [hWb]; exact hAx pre x a' Wa _ (some (D + 1)) hax (grownBy_putObj' _ _ _) (fun r e => by cases e; omega)
    have hput : ∀ (A : World) (o : Obj), KeepsB P₀ (D + 2) (D + 2 + m) A (A.putObj (D + 1) o) := fun A o =>
      ⟨by simp, fun k hk => World.putObj_heap_other (hk.elim (fun h => by have := hn₀ k h; omega) fun h => by omega)⟩
    have keep0 : KeepsB P₀ (D + 2) (D + 2 + m) W Wb := (hka.narrow (by omega) (Nat.le_refl _)).trans (by rw [hWb]; exact hput _ _)
    refine wpIn_mono (hbody _ pre x a' Wb haxb (by have := hka.1; omega) hlen) ?_
    have fin : ∀ (jump : Option Code) (W3 : World), KeepsB P₀ D (D + 2 + m) Wb W3 →
        (Instr.endRound (D + 1) jump).run P W3 = .ok (.bool jump.isNone) (W3.putObj (D + 1) (R (if jump.isNone then .ready else .done) jump)) ∧
        (W3.putObj (D + 1) (R (if jump.isNone then .ready else .done) jump)).heap[D + 1]? = some (R (if jump.isNone then .ready else .done) jump) ∧
        (W3.putObj (D + 1) (R (if jump.isNone then .ready else .done) jump)).heap[D]? = some (.deferred (some [])) := by
      intro jump W3 hk3
      have hl3 : W3.heap[D + 1]? = some (R .busy none) := (hk3.2 _ (.inr (by omega))).trans hlb
      exact ⟨run_endRound jump hl3, World.putObj_heap_same (Array.getElem?_eq_some_iff.1 hl3).1, (World.putObj_heap_other (by omega)).trans ((hk3.2 _ (.inr (by omega))).trans hkb)⟩
    rintro e a3 W3 hp
    cases e with
    | normal =>
      obtain ⟨hk3, hi3⟩ := hp
      obtain ⟨hr, hl4, hk4⟩ := fin none W3 hk3
      refine ⟨_, _, hr, .inl ⟨rfl, ⟨hI _ _ _ (some (D + 1)) hi3 (grownBy_putObj' _ _ _) (fun r e => by cases e; omega), hl4, hk4⟩, ?_⟩⟩
      rw [hsz1]
      exact (keep0.trans (hk3.narrow (by omega) (Nat.le_refl _))).trans (hput _ _)
    | ret =>
      obtain ⟨hk3, hi3⟩ := hp
      obtain ⟨hr, hl4, hk4⟩ := fin (some .ret) W3 hk3
      exact ⟨_, _, hr, .inr ⟨rfl, .ret, hIx _ _ _ _ (some (D + 1)) hi3 (grownBy_putObj' _ _ _) (fun r e => by cases e; omega), hl4, hk4⟩⟩
    | exit id =>
      obtain ⟨hk3, hi3⟩ := hp
      obtain ⟨hr, hl4, hk4⟩ := fin (some (.exit id)) W3 hk3
      exact ⟨_, _, hr, .inr ⟨rfl, .exit id, hIx _ _ _ _ (some (D + 1)) hi3 (grownBy_putObj' _ _ _) (fun r e => by cases e; omega), hl4, hk4⟩⟩
    | goto t =>
      obtain ⟨hk3, hi3⟩ := hp
      obtain ⟨hr, hl4, hk4⟩ := fin (some (.goto t)) W3 hk3
      exact ⟨_, _, hr, .inr ⟨rfl, .goto t, hIx _ _ _ _ (some (D + 1)) hi3 (grownBy_putObj' _ _ _) (fun r e => by cases e; omega), hl4, hk4⟩⟩
    | panic ch => exact hp.elim
    | outgrown => exact hp.elim
  · -- behind the iterator
    rintro e W2 ⟨⟨v, rfl⟩, (⟨xs, hS, hi, hl, hk⟩ | ⟨pre, hSp, c, hi, hl, hk⟩)⟩
    · refine ⟨none, _, run_endLoop hl (by simp), hdone xs _ hS (hI _ _ _ (some (D + 1)) hi (grownBy_putObj' _ _ _) (fun r e => by cases e; omega)) ((World.putObj_heap_other (by omega)).trans hk)⟩
    · refine ⟨some c, _, run_endLoop hl (by simp), hstop c pre _ hSp (hIx c _ _ _ (some (D + 1)) hi (grownBy_putObj' _ _ _) (fun r e => by cases e; omega)) ((World.putObj_heap_other (by omega)).trans hk)⟩
end Go.Proofs.Ytbkkmcfpjpbhaaa
