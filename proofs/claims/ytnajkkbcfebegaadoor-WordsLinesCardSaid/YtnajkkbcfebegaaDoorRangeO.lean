/- A range over a function whose iterator writes into blocks of its own that lay before the loop (those of O): one law for the caller. -/
import Derived.RangeFuncNested
import Derived.Test.YtnajkkbcfebegaaDoorRange
namespace Go.Proofs.YtnajkkbcfebegaaDoor
open Go Go.RowKit

/-- The blocks of P are as they were. -/
def KeepsP (P : Nat → Prop) (W W' : World) : Prop := W.heap.size ≤ W'.heap.size ∧ ∀ k, P k → W'.heap[k]? = W.heap[k]?
theorem KeepsP.refl (P : Nat → Prop) (W : World) : KeepsP P W W := ⟨Nat.le_refl _, fun _ _ => rfl⟩
theorem KeepsP.trans {P : Nat → Prop} {W W' W'' : World} (h : KeepsP P W W') (k : KeepsP P W' W'') : KeepsP P W W'' :=
  ⟨Nat.le_trans h.1 k.1, fun j hj => (k.2 j hj).trans (h.2 j hj)⟩
theorem KeepsP.mono {P Q : Nat → Prop} {W W' : World} (h : KeepsP P W W') (hq : ∀ k, Q k → P k) : KeepsP Q W W' := ⟨h.1, fun k hk => h.2 k (hq k hk)⟩
theorem KeepsP.grown {P : Nat → Prop} {W W' : World} {row : Option Nat} (hg : W.grownBy W' row) (hn : ∀ k, P k → k < W.heap.size) (hr : ∀ r, row = some r → ¬ P r) : KeepsP P W W' :=
  ⟨hg.size, fun k hk => hg.block k (hn k hk) (fun e => hr k e.symm hk)⟩
theorem KeepsP.below {P : Nat → Prop} {W W' : World} (h : Below W.heap.size W W') (hn : ∀ k, P k → k < W.heap.size) : KeepsP P W W' :=
  ⟨h.size, fun k hk => h.block k (hn k hk)⟩

/-- What is said stands wherever new blocks have come, and of the others only those of O have turned. -/
def BearsO {β : Type} (O : Nat → Prop) (I : β → World → Prop) : Prop :=
  ∀ s W W' row, I s W → W.grownBy W' row → (∀ r, row = some r → O r) → I s W'

/-- The iterator's contract: the body keeps P₀; the iterator writes into O, and into what is new. -/
def SeqO {α : Type} (n : Nat) (P : Program) (g : Nat) (lb : Array Value) (encs : α → Array Value) (P₀ O : Nat → Prop) (S Sp : List α → Prop) (G : List α → α → Prop) (w : World) : Prop :=
  ∀ (l : Nat) (J Jx : List α → World → Prop) (W : World), Below w.heap.size w W → BearsO O J → BearsO O Jx →
    (∀ pre x W1, J pre W1 → W.heap.size ≤ W1.heap.size → G pre x → YieldAt Fence.wide (n - 1) P l (encs x) W1 fun e W' =>
      (e = .returned (.bool true) ∧ J (pre ++ [x]) W' ∧ KeepsP P₀ W1 W') ∨ (e = .returned (.bool false) ∧ Jx (pre ++ [x]) W')) →
    J [] W →
    CallsIn Fence.wide n P g (#[.func (.yield l) #[] #[]] ++ lb) W fun e W' => (∃ v, e = .returned v) ∧ ((∃ xs, S xs ∧ J xs W') ∨ (∃ pre, Sp pre ∧ Jx pre W'))

/-- How the body of a round may be left. -/
def postO {α : Type} (P₁ : Nat → Prop) (I : List α → World → Prop) (Ix : Code → List α → World → Prop) (xs : List α) (W : World) : Exit → Act → World → Prop
  | .normal, _, W' => KeepsP P₁ W W' ∧ I xs W'
  | .ret, _, W' => KeepsP P₁ W W' ∧ Ix .ret xs W'
  | .exit id, _, W' => KeepsP P₁ W W' ∧ Ix (.exit id) xs W'
  | .goto t, _, W' => KeepsP P₁ W W' ∧ Ix (.goto t) xs W'
  | .panic _, _, _ => False
  | .outgrown, _, _ => False

theorem wpIn_rangeO {α : Type} {P : Program} {n : Nat} {g : Operand} {ps : Array Tmp} {assign body : Code} {Q : Exit → Act → World → Prop} {a : Act} {w : World} (h1 : 1 ≤ n)
    {gf : Nat} {lb : Array Value} (hg : a.eval g = .func (.func gf) #[] lb) (eg : ∀ args w, (callFunc gf args).run P w = .ok (.enter gf args) w)
    {encs : α → Array Value} {P₀ O : Nat → Prop} {S Sp : List α → Prop} {G : List α → α → Prop} {w0 : World} (hseq : SeqO (n - 1) P gf lb encs P₀ O S Sp G w0) (hb0 : Below w0.heap.size w0 w) (hn₀ : ∀ k, P₀ k → k < w.heap.size) (hO : ∀ k, O k → k < w.heap.size) (hps : ∀ x, (encs x).size = ps.size)
    (I : List α → World → Prop) (Ix : Code → List α → World → Prop) (hI : BearsO (fun k => O k ∨ k = w.heap.size ∨ k = w.heap.size + 1) I) (hIx : ∀ c, BearsO (fun k => O k ∨ k = w.heap.size ∨ k = w.heap.size + 1) (Ix c)) (h0 : I [] w)
    (Ax : List α → α → Act → World → Prop) (hAx : ∀ pre x, BearsO (fun k => O k ∨ k = w.heap.size ∨ k = w.heap.size + 1) (Ax pre x))
    (hassign : ∀ (l : Nat) (pre : List α) (x : α) (W : World) (K : Act → World → Prop), I pre W → w.heap.size + 2 ≤ W.heap.size →
      (∀ a' W', KeepsP (fun k => P₀ k ∨ k = w.heap.size ∨ k = w.heap.size + 1) W W' → Ax pre x a' W' → K a' W') →
      assign.wpIn (Fence.wide.inRound l) (n - 1 - 1) P (Exit.then K (fun _ _ _ => False)) { tmps := (ps.zip (encs x)).foldl (fun t (p, v) => t.setIfInBounds p v) a.tmps, defers := [] } W)
    (hbody : ∀ (l : Nat) (pre : List α) (x : α) (a' : Act) (W : World), Ax pre x a' W → w.heap.size + 2 ≤ W.heap.size → G pre x →
      body.wpIn (Fence.wide.inRound l) (n - 1 - 1) P (postO (fun k => P₀ k ∨ k = w.heap.size ∨ k = w.heap.size + 1) I Ix (pre ++ [x]) W) a' W)
    (hdone : ∀ (xs : List α) (W : World), S xs → I xs W → W.heap[w.heap.size]? = some (.deferred (some [])) → Q .normal { a with defers := { target := .collected w.heap.size, args := #[] } :: a.defers } W)
    (hstop : ∀ (c : Code) (pre : List α) (W : World), Sp pre → Ix c pre W → W.heap[w.heap.size]? = some (.deferred (some [])) →
      c.wpIn Fence.wide n P Q { a with defers := { target := .collected w.heap.size, args := #[] } :: a.defers } W) :
    (Code.rangeFunc g ps assign body).wpIn Fence.wide n P Q a w := by
  refine wpIn_rangeFunc fun fn _ => ?_
  obtain ⟨D, hD⟩ : ∃ D, D = w.heap.size := ⟨_, rfl⟩
  simp only [← hD] at hI hIx hAx hassign hbody hdone hstop hn₀ hO
  -- the loop's record
  let R : LoopState → Option Code → Obj := fun st pe => .loop { state := st, pending := pe, fn, tmps := a.tmps, params := ps, assign, body, defers := D }
  obtain ⟨W1, hW1⟩ : ∃ W1, W1 = (w.alloc (.deferred (some []))).alloc (R .ready none) := ⟨_, rfl⟩
  have hsz1 : W1.heap.size = D + 2 := by rw [hW1, hD]; simp
  have hrec1 : W1.heap[D + 1]? = some (R .ready none) := by
    have := World.alloc_heap_new (w.alloc (.deferred (some []))) (R .ready none)
    rw [World.size_alloc, ← hD] at this; rw [hW1]; exact this
  have hdef1 : W1.heap[D]? = some (.deferred (some [])) := by
    rw [hW1, hD]; exact (Below.heap_alloc _ _ _ (by simp)).trans (World.alloc_heap_new w _)
  have hin1 : I [] W1 := by
    rw [hW1]
    exact hI _ _ _ none (hI _ _ _ none h0 (World.grownBy_alloc w _ none) (fun r e => by cases e)) (World.grownBy_alloc _ _ none) (fun r e => by cases e)
  have hbel1 : Below w0.heap.size w0 W1 := by
    rw [hW1]; exact hb0.trans ((((Below.refl _ w).alloc (Nat.le_refl _) _).alloc (by simp) _).mono hb0.size)
  refine ⟨D + 1, [{ target := .collected D, args := #[] }], W1, { target := .fn (.func gf) lb, args := #[.func (.yield (D + 1)) #[] #[]] }, W1, gf, #[.func (.yield (D + 1)) #[] #[]] ++ lb, W1, ?_, ?_, fun _ _ => trivial, ?_, fun _ => h1, ?_⟩
  · have := run_enterLoop_outer (P := P) (w := w) fn a.tmps ps assign body
    rw [hW1]; simp only [R, hD]; exact this
  · simp only [resolve, hg]; simp [go_sem]
  · simp [invoke, go_sem, eg]
  -- the iterator runs over the caller's invariant, with the two blocks of the loop beside it
  refine (hseq (D + 1) (fun pre W => I pre W ∧ W.heap[D + 1]? = some (R .ready none) ∧ W.heap[D]? = some (.deferred (some [])))
    (fun pre W => ∃ c, Ix c pre W ∧ W.heap[D + 1]? = some (R .done (some c)) ∧ W.heap[D]? = some (.deferred (some []))) W1 hbel1 ?_ ?_ ?_ ⟨hin1, hrec1, hdef1⟩).mono ?_
  · rintro s A B row ⟨hi, hl, hk⟩ hg' hr
    refine ⟨hI _ _ _ row hi hg' (fun r e => .inl (hr r e)), ?_, ?_⟩
    · rw [hg'.block (D + 1) (Array.getElem?_eq_some_iff.1 hl).1 (fun e => by have := hO _ (hr _ e.symm); omega)]; exact hl
    · rw [hg'.block D (Array.getElem?_eq_some_iff.1 hk).1 (fun e => by have := hO _ (hr _ e.symm); omega)]; exact hk
  · rintro s A B row ⟨c, hi, hl, hk⟩ hg' hr
    refine ⟨c, hIx c _ _ _ row hi hg' (fun r e => .inl (hr r e)), ?_, ?_⟩
    · rw [hg'.block (D + 1) (Array.getElem?_eq_some_iff.1 hl).1 (fun e => by have := hO _ (hr _ e.symm); omega)]; exact hl
    · rw [hg'.block D (Array.getElem?_eq_some_iff.1 hk).1 (fun e => by have := hO _ (hr _ e.symm); omega)]; exact hk
  · -- one round
    rintro pre x W ⟨hi, hl, hk⟩ hsz hlen
    rw [hsz1] at hsz
    have hy := run_yield (P := P) (args := encs x) hl (hps x)
    refine ⟨fn, _, assign, body, hy, roundIn_of_wpIn trivial (hassign _ pre x W _ hi hsz ?_)⟩
    intro a' Wa hka hax
    have hla : Wa.heap[D + 1]? = some (R .ready none) := (hka.2 _ (.inr (.inr rfl))).trans hl
    have hka' : Wa.heap[D]? = some (.deferred (some [])) := (hka.2 _ (.inr (.inl rfl))).trans hk
    have hlt : D + 1 < Wa.heap.size := (Array.getElem?_eq_some_iff.1 hla).1
    refine ⟨_, run_beginRound hla rfl, ?_⟩
    obtain ⟨Wb, hWb⟩ : ∃ Wb, Wb = Wa.putObj (D + 1) (R .busy none) := ⟨_, rfl⟩
    show body.wpIn _ _ P _ a' (Wa.putObj (D + 1) (R .busy none))
    rw [← hWb]
    have hlb : Wb.heap[D + 1]? = some (R .busy none) := by rw [hWb]; exact World.putObj_heap_same hlt
    have hkb : Wb.heap[D]? = some (.deferred (some [])) := by rw [hWb]; exact (World.putObj_heap_other (by omega)).trans hka'
    have hsb : Wb.heap.size = Wa.heap.size := by rw [hWb]; simp
    have haxb : Ax pre x a' Wb := by rw [hWb]; exact hAx pre x a' Wa _ (some (D + 1)) hax (grownBy_putObj' _ _ _) (fun r e => by cases e; exact .inr (.inr rfl))
    have hput : ∀ (A : World) (o : Obj), KeepsP P₀ A (A.putObj (D + 1) o) := fun A o =>
      ⟨by simp, fun k hk => World.putObj_heap_other (by have := hn₀ k hk; omega)⟩
    have keep0 : KeepsP P₀ W Wb := (hka.mono fun k hk => .inl hk).trans (by rw [hWb]; exact hput _ _)
    refine wpIn_mono (hbody _ pre x a' Wb haxb (by have := hka.1; omega) hlen) ?_
    have fin : ∀ (jump : Option Code) (W3 : World), KeepsP (fun k => P₀ k ∨ k = D ∨ k = D + 1) Wb W3 →
        (Instr.endRound (D + 1) jump).run P W3 = .ok (.bool jump.isNone) (W3.putObj (D + 1) (R (if jump.isNone then .ready else .done) jump)) ∧
        (W3.putObj (D + 1) (R (if jump.isNone then .ready else .done) jump)).heap[D + 1]? = some (R (if jump.isNone then .ready else .done) jump) ∧
        (W3.putObj (D + 1) (R (if jump.isNone then .ready else .done) jump)).heap[D]? = some (.deferred (some [])) := by
      intro jump W3 hk3
      have hl3 : W3.heap[D + 1]? = some (R .busy none) := (hk3.2 _ (.inr (.inr rfl))).trans hlb
      exact ⟨run_endRound jump hl3, World.putObj_heap_same (Array.getElem?_eq_some_iff.1 hl3).1, (World.putObj_heap_other (by omega)).trans ((hk3.2 _ (.inr (.inl rfl))).trans hkb)⟩
    rintro e a3 W3 hp
    cases e with
    | normal =>
      obtain ⟨hk3, hi3⟩ := hp
      obtain ⟨hr, hl4, hk4⟩ := fin none W3 hk3
      refine ⟨_, _, hr, .inl ⟨rfl, ⟨hI _ _ _ (some (D + 1)) hi3 (grownBy_putObj' _ _ _) (fun r e => by cases e; exact .inr (.inr rfl)), hl4, hk4⟩, ?_⟩⟩
      exact (keep0.trans (hk3.mono fun k hk => .inl hk)).trans (hput _ _)
    | ret =>
      obtain ⟨hk3, hi3⟩ := hp
      obtain ⟨hr, hl4, hk4⟩ := fin (some .ret) W3 hk3
      exact ⟨_, _, hr, .inr ⟨rfl, .ret, hIx _ _ _ _ (some (D + 1)) hi3 (grownBy_putObj' _ _ _) (fun r e => by cases e; exact .inr (.inr rfl)), hl4, hk4⟩⟩
    | exit id =>
      obtain ⟨hk3, hi3⟩ := hp
      obtain ⟨hr, hl4, hk4⟩ := fin (some (.exit id)) W3 hk3
      exact ⟨_, _, hr, .inr ⟨rfl, .exit id, hIx _ _ _ _ (some (D + 1)) hi3 (grownBy_putObj' _ _ _) (fun r e => by cases e; exact .inr (.inr rfl)), hl4, hk4⟩⟩
    | goto t =>
      obtain ⟨hk3, hi3⟩ := hp
      obtain ⟨hr, hl4, hk4⟩ := fin (some (.goto t)) W3 hk3
      exact ⟨_, _, hr, .inr ⟨rfl, .goto t, hIx _ _ _ _ (some (D + 1)) hi3 (grownBy_putObj' _ _ _) (fun r e => by cases e; exact .inr (.inr rfl)), hl4, hk4⟩⟩
    | panic ch => exact hp.elim
    | outgrown => exact hp.elim
  · -- behind the iterator
    rintro e W2 ⟨⟨v, rfl⟩, (⟨xs, hS, hi, hl, hk⟩ | ⟨pre, hSp, c, hi, hl, hk⟩)⟩
    · refine ⟨none, _, run_endLoop hl (by simp), hdone xs _ hS (hI _ _ _ (some (D + 1)) hi (grownBy_putObj' _ _ _) (fun r e => by cases e; exact .inr (.inr rfl))) ((World.putObj_heap_other (by omega)).trans hk)⟩
    · refine ⟨some c, _, run_endLoop hl (by simp), hstop c pre _ hSp (hIx c _ _ _ (some (D + 1)) hi (grownBy_putObj' _ _ _) (fun r e => by cases e; exact .inr (.inr rfl))) ((World.putObj_heap_other (by omega)).trans hk)⟩
end Go.Proofs.YtnajkkbcfebegaaDoor
