/- A range over a function whose iterator keeps rows of its own and whose body keeps blocks of its own (those of C, which may grow): one law for the caller. -/
import Derived.RangeFuncNested
import Derived.Test.YtdiinlmeoifgjaaGreatDoorHta
namespace Go.Proofs.YtdiinlmeoifgjaaGreatDoor
open Go Go.RowKit

/-- What is said stands wherever new blocks have come, and of those from B on only such have turned as are not of C. -/
def BearsC {β : Type} (B : Nat) (I : β → (Nat → Prop) → World → Prop) : Prop :=
  ∀ s C W W' row, I s C W → W.grownBy W' row → (∀ r, row = some r → B ≤ r ∧ ¬ C r) → I s C W'
/-- The blocks of P₀, and those from B on that are not of C, are as they were, and C has got new ones alone. -/
def KeepsC (P₀ : Nat → Prop) (B : Nat) (C C' : Nat → Prop) (W W' : World) : Prop :=
  W.heap.size ≤ W'.heap.size ∧ (∀ r, (P₀ r ∨ (B ≤ r ∧ r < W.heap.size ∧ ¬ C r)) → W'.heap[r]? = W.heap[r]?) ∧ ∀ r, r < W.heap.size → ¬ C r → ¬ C' r
theorem KeepsC.refl (P₀ : Nat → Prop) (B : Nat) (C : Nat → Prop) (W : World) : KeepsC P₀ B C C W W := ⟨Nat.le_refl _, fun _ _ => rfl, fun _ _ h => h⟩
theorem KeepsC.trans {P₀ : Nat → Prop} {B : Nat} {C C' C'' : Nat → Prop} {W W' W'' : World} (h : KeepsC P₀ B C C' W W') (k : KeepsC P₀ B C' C'' W' W'') : KeepsC P₀ B C C'' W W'' :=
  ⟨Nat.le_trans h.1 k.1, fun r hr => (k.2.1 r (hr.imp id fun ⟨a, b, c⟩ => ⟨a, Nat.lt_of_lt_of_le b h.1, h.2.2 r b c⟩)).trans (h.2.1 r hr), fun r hr hc => k.2.2 r (Nat.lt_of_lt_of_le hr h.1) (h.2.2 r hr hc)⟩
theorem KeepsC.grown {P₀ : Nat → Prop} {B : Nat} {C : Nat → Prop} {W W' : World} {row : Option Nat} (hg : W.grownBy W' row) (hn : ∀ k, P₀ k → k < W.heap.size) (hr : ∀ r, row = some r → ¬ P₀ r ∧ (B ≤ r → C r ∨ W.heap.size ≤ r)) : KeepsC P₀ B C C W W' :=
  ⟨hg.size, fun k hk => hg.block k (hk.elim (hn k) fun h => h.2.1) (fun e => by
    have := hr k e.symm
    rcases hk with hk | ⟨h1, h2, h3⟩
    · exact this.1 hk
    · rcases this.2 h1 with h4 | h4
      · exact h3 h4
      · omega), fun _ _ h => h⟩
theorem KeepsC.below {P₀ : Nat → Prop} {B : Nat} {C : Nat → Prop} {W W' : World} (h : Below W.heap.size W W') (hn : ∀ k, P₀ k → k < W.heap.size) : KeepsC P₀ B C C W W' :=
  ⟨h.size, fun k hk => h.block k (hk.elim (hn k) fun h => h.2.1), fun _ _ h => h⟩

/-- The iterator's contract. -/
def SeqC {α : Type} (n : Nat) (P : Program) (g : Nat) (lb : Array Value) (encs : α → Array Value) (P₀ : Nat → Prop) (S Sp : List α → Prop) (G : List α → α → Prop) (w : World) : Prop :=
  ∀ (l : Nat) (J Jx : List α → (Nat → Prop) → World → Prop) (W : World) (C0 : Nat → Prop), Below w.heap.size w W → BearsC W.heap.size J → BearsC W.heap.size Jx →
    (∀ s C W', J s C W' → ∀ r, C r → r < W'.heap.size) →
    (∀ pre x C W1, J pre C W1 → W.heap.size ≤ W1.heap.size → G pre x → YieldAt Fence.wide (n - 1) P l (encs x) W1 fun e W' => ∃ C',
      (e = .returned (.bool true) ∧ J (pre ++ [x]) C' W' ∧ KeepsC P₀ W.heap.size C C' W1 W') ∨ (e = .returned (.bool false) ∧ Jx (pre ++ [x]) C' W')) →
    J [] C0 W →
    CallsIn Fence.wide n P g (#[.func (.yield l) #[] #[]] ++ lb) W fun e W' => (∃ v, e = .returned v) ∧ ((∃ xs C, S xs ∧ J xs C W') ∨ (∃ pre C, Sp pre ∧ Jx pre C W'))

/-- How the body of a round may be left. -/
def postC {α : Type} (P₀ : Nat → Prop) (B : Nat) (I : List α → (Nat → Prop) → World → Prop) (Ix : Code → List α → (Nat → Prop) → World → Prop) (C : Nat → Prop) (xs : List α) (W : World) : Exit → Act → World → Prop
  | .normal, _, W' => ∃ C', KeepsC P₀ B C C' W W' ∧ I xs C' W'
  | .ret, _, W' => ∃ C', KeepsC P₀ B C C' W W' ∧ Ix .ret xs C' W'
  | .exit id, _, W' => ∃ C', KeepsC P₀ B C C' W W' ∧ Ix (.exit id) xs C' W'
  | .goto t, _, W' => ∃ C', KeepsC P₀ B C C' W W' ∧ Ix (.goto t) xs C' W'
  | .panic _, _, _ => False
  | .outgrown, _, _ => False

theorem wpIn_rangeC {α : Type} {P : Program} {n : Nat} {g : Operand} {ps : Array Tmp} {assign body : Code} {Q : Exit → Act → World → Prop} {a : Act} {w : World} (h1 : 1 ≤ n)
    {gf : Nat} {lb : Array Value} (hg : a.eval g = .func (.func gf) #[] lb) (eg : ∀ args w, (callFunc gf args).run P w = .ok (.enter gf args) w)
    {encs : α → Array Value} {P₀ : Nat → Prop} {S Sp : List α → Prop} {G : List α → α → Prop} {w0 : World} (hseq : SeqC (n - 1) P gf lb encs P₀ S Sp G w0) (hb0 : Below w0.heap.size w0 w) (hn₀ : ∀ k, P₀ k → k < w.heap.size) (hps : ∀ x, (encs x).size = ps.size)
    (I : List α → (Nat → Prop) → World → Prop) (Ix : Code → List α → (Nat → Prop) → World → Prop) (hI : BearsC w.heap.size I) (hIx : ∀ c, BearsC w.heap.size (Ix c))
    (hC : ∀ s C W, I s C W → ∀ r, C r → r < W.heap.size ∧ r ≠ w.heap.size ∧ r ≠ w.heap.size + 1) (hCx : ∀ c s C W, Ix c s C W → ∀ r, C r → r < W.heap.size ∧ r ≠ w.heap.size ∧ r ≠ w.heap.size + 1)
    (C0 : Nat → Prop) (h0 : I [] C0 w)
    (Ax : List α → α → (Nat → Prop) → Act → World → Prop) (hAx : ∀ pre x C a W W', Ax pre x C a W → W.grownBy W' (some (w.heap.size + 1)) → Ax pre x C a W')
    (hassign : ∀ (l : Nat) (pre : List α) (x : α) (C : Nat → Prop) (W : World) (K : Act → World → Prop), I pre C W → w.heap.size + 2 ≤ W.heap.size →
      (∀ a' W' C', KeepsC P₀ w.heap.size C C' W W' → Ax pre x C' a' W' → K a' W') →
      assign.wpIn (Fence.wide.inRound l) (n - 1 - 1) P (Exit.then K (fun _ _ _ => False)) { tmps := (ps.zip (encs x)).foldl (fun t (p, v) => t.setIfInBounds p v) a.tmps, defers := [] } W)
    (hbody : ∀ (l : Nat) (pre : List α) (x : α) (C : Nat → Prop) (a' : Act) (W : World), Ax pre x C a' W → w.heap.size + 2 ≤ W.heap.size → G pre x →
      body.wpIn (Fence.wide.inRound l) (n - 1 - 1) P (postC P₀ w.heap.size I Ix C (pre ++ [x]) W) a' W)
    (hdone : ∀ (xs : List α) (C : Nat → Prop) (W : World), S xs → I xs C W → W.heap[w.heap.size]? = some (.deferred (some [])) → Q .normal { a with defers := { target := .collected w.heap.size, args := #[] } :: a.defers } W)
    (hstop : ∀ (c : Code) (pre : List α) (C : Nat → Prop) (W : World), Sp pre → Ix c pre C W → W.heap[w.heap.size]? = some (.deferred (some [])) →
      c.wpIn Fence.wide n P Q { a with defers := { target := .collected w.heap.size, args := #[] } :: a.defers } W) :
    (Code.rangeFunc g ps assign body).wpIn Fence.wide n P Q a w := by
  refine wpIn_rangeFunc fun fn _ => ?_
  obtain ⟨D, hD⟩ : ∃ D, D = w.heap.size := ⟨_, rfl⟩
  simp only [← hD] at hI hIx hC hCx hAx hassign hbody hdone hstop hn₀
  -- the loop's record
  let R : LoopState → Option Code → Obj := fun st pe => .loop { state := st, pending := pe, fn, tmps := a.tmps, params := ps, assign, body, defers := D }
  obtain ⟨W1, hW1⟩ : ∃ W1, W1 = (w.alloc (.deferred (some []))).alloc (R .ready none) := ⟨_, rfl⟩
  have hsz1 : W1.heap.size = D + 2 := by rw [hW1, hD]; simp
  have hrec1 : W1.heap[D + 1]? = some (R .ready none) := by
    have := World.alloc_heap_new (w.alloc (.deferred (some []))) (R .ready none)
    rw [World.size_alloc, ← hD] at this; rw [hW1]; exact this
  have hdef1 : W1.heap[D]? = some (.deferred (some [])) := by
    rw [hW1, hD]; exact (Below.heap_alloc _ _ _ (by simp)).trans (World.alloc_heap_new w _)
  have hin1 : I [] C0 W1 := by
    rw [hW1]
    exact hI _ _ _ _ none (hI _ _ _ _ none h0 (World.grownBy_alloc w _ none) (fun r e => by cases e)) (World.grownBy_alloc _ _ none) (fun r e => by cases e)
  have hbel1 : Below w0.heap.size w0 W1 := by
    rw [hW1]; exact hb0.trans ((((Below.refl _ w).alloc (Nat.le_refl _) _).alloc (by simp) _).mono hb0.size)
  refine ⟨D + 1, [{ target := .collected D, args := #[] }], W1, { target := .fn (.func gf) lb, args := #[.func (.yield (D + 1)) #[] #[]] }, W1, gf, #[.func (.yield (D + 1)) #[] #[]] ++ lb, W1, ?_, ?_, fun _ _ => trivial, ?_, fun _ => h1, ?_⟩
  · have := run_enterLoop_outer (P := P) (w := w) fn a.tmps ps assign body
    rw [hW1]; simp only [R, hD]; exact this
  · simp only [resolve, hg]; simp [go_sem]
  · simp [invoke, go_sem, eg]
  -- the iterator runs over the caller's invariant, with the two blocks of the loop beside it
  refine (hseq (D + 1) (fun pre C' W => ∃ C, C' = (fun r => C r ∨ r = D ∨ r = D + 1) ∧ I pre C W ∧ W.heap[D + 1]? = some (R .ready none) ∧ W.heap[D]? = some (.deferred (some [])))
    (fun pre C' W => ∃ C, C' = (fun r => C r ∨ r = D ∨ r = D + 1) ∧ ∃ c, Ix c pre C W ∧ W.heap[D + 1]? = some (R .done (some c)) ∧ W.heap[D]? = some (.deferred (some []))) W1 (fun r => C0 r ∨ r = D ∨ r = D + 1) hbel1 ?_ ?_ ?_ ?_ ⟨C0, rfl, hin1, hrec1, hdef1⟩).mono ?_
  · rintro s C' A B row ⟨C, rfl, hi, hl, hk⟩ hg' hr
    rw [hsz1] at hr
    refine ⟨C, rfl, hI _ _ _ _ row hi hg' (fun r e => by have := hr r e; exact ⟨by omega, fun h => this.2 (.inl h)⟩), ?_, ?_⟩
    · rw [hg'.block (D + 1) (Array.getElem?_eq_some_iff.1 hl).1 (fun e => by have := (hr _ e.symm).1; omega)]; exact hl
    · rw [hg'.block D (Array.getElem?_eq_some_iff.1 hk).1 (fun e => by have := (hr _ e.symm).1; omega)]; exact hk
  · rintro s C' A B row ⟨C, rfl, c, hi, hl, hk⟩ hg' hr
    rw [hsz1] at hr
    refine ⟨C, rfl, c, hIx c _ _ _ _ row hi hg' (fun r e => by have := hr r e; exact ⟨by omega, fun h => this.2 (.inl h)⟩), ?_, ?_⟩
    · rw [hg'.block (D + 1) (Array.getElem?_eq_some_iff.1 hl).1 (fun e => by have := (hr _ e.symm).1; omega)]; exact hl
    · rw [hg'.block D (Array.getElem?_eq_some_iff.1 hk).1 (fun e => by have := (hr _ e.symm).1; omega)]; exact hk
  · rintro s C' W' ⟨C, rfl, hi, hl, hk⟩ r hr
    have h3 := (Array.getElem?_eq_some_iff.1 hl).1
    rcases hr with hr | rfl | rfl
    · exact (hC _ _ _ hi r hr).1
    · omega
    · exact h3
  · -- one round
    rintro pre x C' W ⟨C, rfl, hi, hl, hk⟩ hsz hlen
    rw [hsz1] at hsz
    have hy := run_yield (P := P) (args := encs x) hl (hps x)
    refine ⟨fn, _, assign, body, hy, roundIn_of_wpIn trivial (hassign _ pre x C W _ hi hsz ?_)⟩
    intro a' Wa Ca hka hax
    have hnC : ¬ C D ∧ ¬ C (D + 1) := ⟨fun h => (hC _ _ _ hi _ h).2.1 rfl, fun h => (hC _ _ _ hi _ h).2.2 rfl⟩
    have hla : Wa.heap[D + 1]? = some (R .ready none) := (hka.2.1 _ (.inr ⟨by omega, by omega, hnC.2⟩)).trans hl
    have hka' : Wa.heap[D]? = some (.deferred (some [])) := (hka.2.1 _ (.inr ⟨Nat.le_refl _, by omega, hnC.1⟩)).trans hk
    have hnCa : ¬ Ca D ∧ ¬ Ca (D + 1) := ⟨hka.2.2 _ (by omega) hnC.1, hka.2.2 _ (by omega) hnC.2⟩
    have hlt : D + 1 < Wa.heap.size := (Array.getElem?_eq_some_iff.1 hla).1
    refine ⟨_, run_beginRound hla rfl, ?_⟩
    obtain ⟨Wb, hWb⟩ : ∃ Wb, Wb = Wa.putObj (D + 1) (R .busy none) := ⟨_, rfl⟩
    show body.wpIn _ _ P _ a' (Wa.putObj (D + 1) (R .busy none))
    rw [← hWb]
    have hlb : Wb.heap[D + 1]? = some (R .busy none) := by rw [hWb]; exact World.putObj_heap_same hlt
    have hkb : Wb.heap[D]? = some (.deferred (some [])) := by rw [hWb]; exact (World.putObj_heap_other (by omega)).trans hka'
    have hsb : Wb.heap.size = Wa.heap.size := by rw [hWb]; simp
    have haxb : Ax pre x Ca a' Wb := by rw [hWb]; exact hAx pre x Ca a' Wa _ hax (grownBy_putObj' _ _ _)
    have hput : ∀ (A : World) (o : Obj) (E : Nat → Prop), KeepsC P₀ (D + 2) E E A (A.putObj (D + 1) o) := fun A o E =>
      ⟨by simp, fun k hk => World.putObj_heap_other (hk.elim (fun h => by have := hn₀ k h; omega) fun h => by omega), fun _ _ h => h⟩
    have hwide : ∀ {E E' : Nat → Prop} {U U' : World}, KeepsC P₀ D E E' U U' → D + 2 ≤ U.heap.size → KeepsC P₀ (D + 2) (fun r => E r ∨ r = D ∨ r = D + 1) (fun r => E' r ∨ r = D ∨ r = D + 1) U U' := fun h hU =>
      ⟨h.1, fun r hr => h.2.1 r (hr.imp id fun ⟨a1, a2, a3⟩ => ⟨by omega, a2, fun e => a3 (.inl e)⟩), fun r hr hc => by
        rintro (e | e | e)
        · exact h.2.2 r hr (fun e => hc (.inl e)) e
        · exact hc (.inr (.inl e))
        · exact hc (.inr (.inr e))⟩
    have keep0 : KeepsC P₀ (D + 2) (fun r => C r ∨ r = D ∨ r = D + 1) (fun r => Ca r ∨ r = D ∨ r = D + 1) W Wb := (hwide hka (by omega)).trans (by rw [hWb]; exact hput _ _ _)
    refine wpIn_mono (hbody _ pre x Ca a' Wb haxb (by have := hka.1; omega) hlen) ?_
    have fin : ∀ (jump : Option Code) (E : Nat → Prop) (W3 : World), KeepsC P₀ D Ca E Wb W3 →
        (Instr.endRound (D + 1) jump).run P W3 = .ok (.bool jump.isNone) (W3.putObj (D + 1) (R (if jump.isNone then .ready else .done) jump)) ∧
        (W3.putObj (D + 1) (R (if jump.isNone then .ready else .done) jump)).heap[D + 1]? = some (R (if jump.isNone then .ready else .done) jump) ∧
        (W3.putObj (D + 1) (R (if jump.isNone then .ready else .done) jump)).heap[D]? = some (.deferred (some [])) ∧ ¬ E (D + 1) := by
      intro jump E W3 hk3
      have hl3 : W3.heap[D + 1]? = some (R .busy none) := (hk3.2.1 _ (.inr ⟨by omega, by omega, hnCa.2⟩)).trans hlb
      exact ⟨run_endRound jump hl3, World.putObj_heap_same (Array.getElem?_eq_some_iff.1 hl3).1, (World.putObj_heap_other (by omega)).trans ((hk3.2.1 _ (.inr ⟨Nat.le_refl _, by omega, hnCa.1⟩)).trans hkb), hk3.2.2 _ (by omega) hnCa.2⟩
    rintro e a3 W3 hp
    cases e with
    | normal =>
      obtain ⟨E, hk3, hi3⟩ := hp
      obtain ⟨hr, hl4, hk4, hnE⟩ := fin none E W3 hk3
      refine ⟨_, _, hr, fun r => E r ∨ r = D ∨ r = D + 1, .inl ⟨rfl, ⟨E, rfl, hI _ _ _ _ (some (D + 1)) hi3 (grownBy_putObj' _ _ _) (fun r e => by cases e; exact ⟨by omega, hnE⟩), hl4, hk4⟩, ?_⟩⟩
      rw [hsz1]
      exact (keep0.trans (hwide hk3 (by omega))).trans (hput _ _ _)
    | ret =>
      obtain ⟨E, hk3, hi3⟩ := hp
      obtain ⟨hr, hl4, hk4, hnE⟩ := fin (some .ret) E W3 hk3
      exact ⟨_, _, hr, fun r => E r ∨ r = D ∨ r = D + 1, .inr ⟨rfl, E, rfl, .ret, hIx _ _ _ _ _ (some (D + 1)) hi3 (grownBy_putObj' _ _ _) (fun r e => by cases e; exact ⟨by omega, hnE⟩), hl4, hk4⟩⟩
    | exit id =>
      obtain ⟨E, hk3, hi3⟩ := hp
      obtain ⟨hr, hl4, hk4, hnE⟩ := fin (some (.exit id)) E W3 hk3
      exact ⟨_, _, hr, fun r => E r ∨ r = D ∨ r = D + 1, .inr ⟨rfl, E, rfl, .exit id, hIx _ _ _ _ _ (some (D + 1)) hi3 (grownBy_putObj' _ _ _) (fun r e => by cases e; exact ⟨by omega, hnE⟩), hl4, hk4⟩⟩
    | goto t =>
      obtain ⟨E, hk3, hi3⟩ := hp
      obtain ⟨hr, hl4, hk4, hnE⟩ := fin (some (.goto t)) E W3 hk3
      exact ⟨_, _, hr, fun r => E r ∨ r = D ∨ r = D + 1, .inr ⟨rfl, E, rfl, .goto t, hIx _ _ _ _ _ (some (D + 1)) hi3 (grownBy_putObj' _ _ _) (fun r e => by cases e; exact ⟨by omega, hnE⟩), hl4, hk4⟩⟩
    | panic ch => exact hp.elim
    | outgrown => exact hp.elim
  · -- behind the iterator
    rintro e W2 ⟨⟨v, rfl⟩, (⟨xs, C', hS, C, rfl, hi, hl, hk⟩ | ⟨pre, C', hSp, C, rfl, c, hi, hl, hk⟩)⟩
    · have hnC : ¬ C (D + 1) := fun h => (hC _ _ _ hi _ h).2.2 rfl
      refine ⟨none, _, run_endLoop hl (by simp), hdone xs C _ hS (hI _ _ _ _ (some (D + 1)) hi (grownBy_putObj' _ _ _) (fun r e => by cases e; exact ⟨by omega, hnC⟩)) ((World.putObj_heap_other (by omega)).trans hk)⟩
    · have hnC : ¬ C (D + 1) := fun h => (hCx _ _ _ _ hi _ h).2.2 rfl
      refine ⟨some c, _, run_endLoop hl (by simp), hstop c pre C _ hSp (hIx c _ _ _ _ (some (D + 1)) hi (grownBy_putObj' _ _ _) (fun r e => by cases e; exact ⟨by omega, hnC⟩)) ((World.putObj_heap_other (by omega)).trans hk)⟩
end Go.Proofs.YtdiinlmeoifgjaaGreatDoor
