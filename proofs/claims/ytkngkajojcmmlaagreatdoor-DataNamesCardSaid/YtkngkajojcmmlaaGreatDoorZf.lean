import Derived.RangeFuncNested
import Derived.Test.YtkngkajojcmmlaaGreatDoorZe
import Derived.RangeFuncBound
import Derived.RangeFuncCalls
import Derived.RangeFuncLeaves
import Derived.Shelf.Abstract
import Derived.Shelf.RegionOpen
import Derived.WalkKit
import Derived.WalkMore
import Derived.BigGuardPart
import Derived.OwnWalkIn
import Derived.TacticsInMore
import Derived.LoopNIn
import Derived.LoopIn
import Derived.BigGuardPartIn
import Derived.Maps.AppendAt
import Derived.Sort.OwnSortedInts
import Derived.Test.YtkngkajojcmmlaaGreatDoorShelfT
/- A range over a function whose iterator writes into blocks of its own that lay before the loop (those of O): one law for the caller. -/
namespace Go.Proofs.YtkngkajojcmmlaaGreatDoor
open Go Go.RowKit

/-- The blocks of P are as they were. -/
def KeepsP (P : Nat → Prop) (W W' : World) : Prop := W.heap.size ≤ W'.heap.size ∧ ∀ k, P k → W'.heap[k]? = W.heap[k]?
theorem KeepsP.refl (P : Nat → Prop) (W : World) : KeepsP P W W := ⟨Nat.le_refl _, fun _ _ => rfl⟩
theorem KeepsP.trans {P : Nat → Prop} {W W' W'' : World} (h : KeepsP P W W') (k : KeepsP P W' W'') : KeepsP P W W'' :=
  ⟨Nat.le_trans h.1 k.1, fun j hj => (k.2 j hj).trans (h.2 j hj)⟩
theorem KeepsP.mono {P Q : Nat → Prop} {W W' : World} (h : KeepsP P W W') (hq : ∀ k, Q k → P k) : KeepsP Q W W' := ⟨h.1, fun k hk => h.2 k (hq k hk)⟩
theorem KeepsP.grown {P : Nat → Prop} {W W' : World} {row : Option Nat} (hg : W.grownBy W' row) (hn : ∀ k, P k → k < W.heap.size) (hr : ∀ r, row = some r → ¬ P r) : KeepsP P W W' :=
  ⟨hg.size, fun k hk => hg.block k (hn k hk) (fun e => hr k e.symm hk)⟩
theorem KeepsP.below {P : Nat → Prop} {W W' : World} (h : Below W.heap.size W W') (hn : ∀ k, P k → k < W.heap.size) : KeepsP P W W' :=
  ⟨h.size, fun k hk => h.block k (hn k hk)⟩

/-- What is said stands wherever new blocks have come, and of the others only those of O have turned. -/
def BearsO {β : Type} (O : Nat → Prop) (I : β → World → Prop) : Prop :=
  ∀ s W W' row, I s W → W.grownBy W' row → (∀ r, row = some r → O r) → I s W'

/-- The iterator's contract: the body keeps P₀; the iterator writes into O, and into what is new. -/
def SeqO {α : Type} (n : Nat) (P : Program) (g : Nat) (lb : Array Value) (encs : α → Array Value) (P₀ O : Nat → Prop) (S Sp : List α → Prop) (G : List α → α → Prop) (w : World) : Prop :=
  ∀ (l : Nat) (J Jx : List α → World → Prop) (W : World), Below w.heap.size w W → BearsO O J → BearsO O Jx →
    (∀ pre x W1, J pre W1 → W.heap.size ≤ W1.heap.size → G pre x → YieldAt Fence.wide (n - 1) P l (encs x) W1 fun e W' =>
      (e = .returned (.bool true) ∧ J (pre ++ [x]) W' ∧ KeepsP P₀ W1 W') ∨ (e = .returned (.bool false) ∧ Jx (pre ++ [x]) W')) →
    J [] W →
    CallsIn Fence.wide n P g (#[.func (.yield l) #[] #[]] ++ lb) W fun e W' => (∃ v, e = .returned v) ∧ ((∃ xs, S xs ∧ J xs W') ∨ (∃ pre, Sp pre ∧ Jx pre W'))

/-- How the body of a round may be left. -/
def postO {α : Type} (P₁ : Nat → Prop) (I : List α → World → Prop) (Ix : Code → List α → World → Prop) (xs : List α) (W : World) : Exit → Act → World → Prop
  | .normal, _, W' => KeepsP P₁ W W' ∧ I xs W'
  | .ret, _, W' => KeepsP P₁ W W' ∧ Ix .ret xs W'
  | .exit id, _, W' => KeepsP P₁ W W' ∧ Ix (.exit id) xs W'
  | .goto t, _, W' => KeepsP P₁ W W' ∧ Ix (.goto t) xs W'
  | .panic _, _, _ => False
  | .outgrown, _, _ => False

theorem wpIn_rangeO {α : Type} {P : Program} {n : Nat} {g : Operand} {ps : Array Tmp} {assign body : Code} {Q : Exit → Act → World → Prop} {a : Act} {w : World} (h1 : 1 ≤ n)
    {gf : Nat} {lb : Array Value} (hg : a.eval g = .func (.func gf) #[] lb) (eg : ∀ args w, (callFunc gf args).run P w = .ok (.enter gf args) w)
    {encs : α → Array Value} {P₀ O : Nat → Prop} {S Sp : List α → Prop} {G : List α → α → Prop} {w0 : World} (hseq : SeqO (n - 1) P gf lb encs P₀ O S Sp G w0) (hb0 : Below w0.heap.size w0 w) (hn₀ : ∀ k, P₀ k → k < w.heap.size) (hO : ∀ k, O k → k < w.heap.size) (hps : ∀ x, (encs x).size = ps.size)
    (I : List α → World → Prop) (Ix : Code → List α → World → Prop) (hI : BearsO (fun k => O k ∨ k = w.heap.size ∨ k = w.heap.size + 1) I) (hIx : ∀ c, BearsO (fun k => O k ∨ k = w.heap.size ∨ k = w.heap.size + 1) (Ix c)) (h0 : I [] w)
    (Ax : List α → α → Act → World → Prop) (hAx : ∀ pre x, BearsO (fun k => O k ∨ k = w.heap.size ∨ k = w.heap.size + 1) (Ax pre x))
    (hassign : ∀ (l : Nat) (pre : List α) (x : α) (W : World) (K : Act → World → Prop), I pre W → w.heap.size + 2 ≤ W.heap.size →
      (∀ a' W', KeepsP (fun k => P₀ k ∨ k = w.heap.size ∨ k = w.heap.size + 1) W W' → Ax pre x a' W' → K a' W') →
      assign.wpIn (Fence.wide.inRound l) (n - 1 - 1) P (Exit.then K (fun _ _ _ => False)) { tmps := (ps.zip (encs x)).foldl (fun t (p, v) => t.setIfInBounds p v) a.tmps, defers := [] } W)
    (hbody : ∀ (l : Nat) (pre : List α) (x : α) (a' : Act) (W : World), Ax pre x a' W → w.heap.size + 2 ≤ W.heap.size → G pre x →
      body.wpIn (Fence.wide.inRound l) (n - 1 - 1) P (postO (fun k => P₀ k ∨ k = w.heap.size ∨ k = w.heap.size + 1) I Ix (pre ++ [x]) W) a' W)
    (hdone : ∀ (xs : List α) (W : World), S xs → I xs W → W.heap[w.heap.size]? = some (.deferred (some [])) → Q .normal { a with defers := { target := .collected w.heap.size, args := #[] } :: a.defers } W)
    (hstop : ∀ (c : Code) (pre : List α) (W : World), Sp pre → Ix c pre W → W.heap[w.heap.size]? = some (.deferred (some [])) →
      c.wpIn Fence.wide n P Q { a with defers := { target := .collected w.heap.size, args := #[] } :: a.defers } W) :
    (Code.rangeFunc g ps assign body).wpIn Fence.wide n P Q a w := by
  refine wpIn_rangeFunc fun fn _ => ?_
  obtain ⟨D, hD⟩ : ∃ D, D = w.heap.size := ⟨_, rfl⟩
  simp only [← hD] at hI hIx hAx hassign hbody hdone hstop hn₀ hO
  -- the loop's record
  let R : LoopState → Option Code → Obj := fun st pe => .loop { state := st, pending := pe, fn, tmps := a.tmps, params := ps, assign, body, defers := D }
  obtain ⟨W1, hW1⟩ : ∃ W1, W1 = (w.alloc (.deferred (some []))).alloc (R .ready none) := ⟨_, rfl⟩
  have hsz1 : W1.heap.size = D + 2 := by rw [hW1, hD]; simp
  have hrec1 : W1.heap[D + 1]? = some (R .ready none) := by
    have := World.alloc_heap_new (w.alloc (.deferred (some []))) (R .ready none)
    rw [World.size_alloc, ← hD] at this; rw [hW1]; exact this
  have hdef1 : W1.heap[D]? = some (.deferred (some [])) := by
    rw [hW1, hD]; exact (Below.heap_alloc _ _ _ (by simp)).trans (World.alloc_heap_new w _)
  have hin1 : I [] W1 := by
    rw [hW1]
    exact hI _ _ _ none (hI _ _ _ none h0 (World.grownBy_alloc w _ none) (fun r e => by cases e)) (World.grownBy_alloc _ _ none) (fun r e => by cases e)
  have hbel1 : Below w0.heap.size w0 W1 := by
    rw [hW1]; exact hb0.trans ((((Below.refl _ w).alloc (Nat.le_refl _) _).alloc (by simp) _).mono hb0.size)
  refine ⟨D + 1, [{ target := .collected D, args := #[] }], W1, { target := .fn (.func gf) lb, args := #[.func (.yield (D + 1)) #[] #[]] }, W1, gf, #[.func (.yield (D + 1)) #[] #[]] ++ lb, W1, ?_, ?_, fun _ _ => trivial, ?_, fun _ => h1, ?_⟩
  · have := run_enterLoop_outer (P := P) (w := w) fn a.tmps ps assign body
    rw [hW1]; simp only [R, hD]; exact this
  · simp only [resolve, hg]; simp [go_sem]
  · simp [invoke, go_sem, eg]
  -- the iterator runs over the caller's invariant, with the two blocks of the loop beside it
  refine (hseq (D + 1) (fun pre W => I pre W ∧ W.heap[D + 1]? = some (R .ready none) ∧ W.heap[D]? = some (.deferred (some [])))
    (fun pre W => ∃ c, Ix c pre W ∧ W.heap[D + 1]? = some (R .done (some c)) ∧ W.heap[D]? = some (.deferred (some []))) W1 hbel1 ?_ ?_ ?_ ⟨hin1, hrec1, hdef1⟩).mono ?_
  · rintro s A B row ⟨hi, hl, hk⟩ hg' hr
    refine ⟨hI _ _ _ row hi hg' (fun r e => .inl (hr r e)), ?_, ?_⟩
    · rw [hg'.block (D + 1) (Array.getElem?_eq_some_iff.1 hl).1 (fun e => by have := hO _ (hr _ e.symm); omega)]; exact hl
    · rw [hg'.block D (Array.getElem?_eq_some_iff.1 hk).1 (fun e => by have := hO _ (hr _ e.symm); omega)]; exact hk
  · rintro s A B row ⟨c, hi, hl, hk⟩ hg' hr
    refine ⟨c, hIx c _ _ _ row hi hg' (fun r e => .inl (hr r e)), ?_, ?_⟩
    · rw [hg'.block (D + 1) (Array.getElem?_eq_some_iff.1 hl).1 (fun e => by have := hO _ (hr _ e.symm); omega)]; exact hl
    · rw [hg'.block D (Array.getElem?_eq_some_iff.1 hk).1 (fun e => by have := hO _ (hr _ e.symm); omega)]; exact hk
  · -- one round
    rintro pre x W ⟨hi, hl, hk⟩ hsz hlen
    rw [hsz1] at hsz
    have hy := run_yield (P := P) (args := encs x) hl (hps x)
    refine ⟨fn, _, assign, body, hy, roundIn_of_wpIn trivial (hassign _ pre x W _ hi hsz ?_)⟩
    intro a' Wa hka hax
    have hla : Wa.heap[D + 1]? = some (R .ready none) := (hka.2 _ (.inr (.inr rfl))).trans hl
    have hka' : Wa.heap[D]? = some (.deferred (some [])) := (hka.2 _ (.inr (.inl rfl))).trans hk
    have hlt : D + 1 < Wa.heap.size := (Array.getElem?_eq_some_iff.1 hla).1
    refine ⟨_, run_beginRound hla rfl, ?_⟩
    obtain ⟨Wb, hWb⟩ : ∃ Wb, Wb = Wa.putObj (D + 1) (R .busy none) := ⟨_, rfl⟩
    show body.wpIn _ _ P _ a' (Wa.putObj (D + 1) (R .busy none))
    rw [← hWb]
    have hlb : Wb.heap[D + 1]? = some (R .busy none) := by rw [hWb]; exact World.putObj_heap_same hlt
    have hkb : Wb.heap[D]? = some (.deferred (some [])) := by rw [hWb]; exact (World.putObj_heap_other (by omega)).trans hka'
    have hsb : Wb.heap.size = Wa.heap.size := by rw [hWb]; simp
    have haxb : Ax pre x a' Wb := by rw [hWb]; exact hAx pre x a' Wa _ (some (D + 1)) hax (grownBy_putObj' _ _ _) (fun r e => by cases e; exact .inr (.inr rfl))
    have hput : ∀ (A : World) (o : Obj), KeepsP P₀ A (A.putObj (D + 1) o) := fun A o =>
      ⟨by simp, fun k hk => World.putObj_heap_other (by have := hn₀ k hk; omega)⟩
    have keep0 : KeepsP P₀ W Wb := (hka.mono fun k hk => .inl hk).trans (by rw [hWb]; exact hput _ _)
    refine wpIn_mono (hbody _ pre x a' Wb haxb (by have := hka.1; omega) hlen) ?_
    have fin : ∀ (jump : Option Code) (W3 : World), KeepsP (fun k => P₀ k ∨ k = D ∨ k = D + 1) Wb W3 →
        (Instr.endRound (D + 1) jump).run P W3 = .ok (.bool jump.isNone) (W3.putObj (D + 1) (R (if jump.isNone then .ready else .done) jump)) ∧
        (W3.putObj (D + 1) (R (if jump.isNone then .ready else .done) jump)).heap[D + 1]? = some (R (if jump.isNone then .ready else .done) jump) ∧
        (W3.putObj (D + 1) (R (if jump.isNone then .ready else .done) jump)).heap[D]? = some (.deferred (some [])) := by
      intro jump W3 hk3
      have hl3 : W3.heap[D + 1]? = some (R .busy none) := (hk3.2 _ (.inr (.inr rfl))).trans hlb
      exact ⟨run_endRound jump hl3, World.putObj_heap_same (Array.getElem?_eq_some_iff.1 hl3).1, (World.putObj_heap_other (by omega)).trans ((hk3.2 _ (.inr (.inl rfl))).trans hkb)⟩
    rintro e a3 W3 hp
    cases e with
    | normal =>
      obtain ⟨hk3, hi3⟩ := hp
      obtain ⟨hr, hl4, hk4⟩ := fin none W3 hk3
      refine ⟨_, _, hr, .inl ⟨rfl, ⟨hI _ _ _ (some (D + 1)) hi3 (grownBy_putObj' _ _ _) (fun r e => by cases e; exact .inr (.inr rfl)), hl4, hk4⟩, ?_⟩⟩
      exact (keep0.trans (hk3.mono fun k hk => .inl hk)).trans (hput _ _)
    | ret =>
      obtain ⟨hk3, hi3⟩ := hp
      obtain ⟨hr, hl4, hk4⟩ := fin (some .ret) W3 hk3
      exact ⟨_, _, hr, .inr ⟨rfl, .ret, hIx _ _ _ _ (some (D + 1)) hi3 (grownBy_putObj' _ _ _) (fun r e => by cases e; exact .inr (.inr rfl)), hl4, hk4⟩⟩
    | exit id =>
      obtain ⟨hk3, hi3⟩ := hp
      obtain ⟨hr, hl4, hk4⟩ := fin (some (.exit id)) W3 hk3
      exact ⟨_, _, hr, .inr ⟨rfl, .exit id, hIx _ _ _ _ (some (D + 1)) hi3 (grownBy_putObj' _ _ _) (fun r e => by cases e; exact .inr (.inr rfl)), hl4, hk4⟩⟩
    | goto t =>
      obtain ⟨hk3, hi3⟩ := hp
      obtain ⟨hr, hl4, hk4⟩ := fin (some (.goto t)) W3 hk3
      exact ⟨_, _, hr, .inr ⟨rfl, .goto t, hIx _ _ _ _ (some (D + 1)) hi3 (grownBy_putObj' _ _ _) (fun r e => by cases e; exact .inr (.inr rfl)), hl4, hk4⟩⟩
    | panic ch => exact hp.elim
    | outgrown => exact hp.elim
  · -- behind the iterator
    rintro e W2 ⟨⟨v, rfl⟩, (⟨xs, hS, hi, hl, hk⟩ | ⟨pre, hSp, c, hi, hl, hk⟩)⟩
    · refine ⟨none, _, run_endLoop hl (by simp), hdone xs _ hS (hI _ _ _ (some (D + 1)) hi (grownBy_putObj' _ _ _) (fun r e => by cases e; exact .inr (.inr rfl))) ((World.putObj_heap_other (by omega)).trans hk)⟩
    · refine ⟨some c, _, run_endLoop hl (by simp), hstop c pre _ hSp (hIx c _ _ _ (some (D + 1)) hi (grownBy_putObj' _ _ _) (fun r e => by cases e; exact .inr (.inr rfl))) ((World.putObj_heap_other (by omega)).trans hk)⟩
end Go.Proofs.YtkngkajojcmmlaaGreatDoor

/- Trees: the iterator over the children of a node. -/
namespace Go.Proofs.YtkngkajojcmmlaaGreatDoor
open Go.RowKit Go.Shelf Go.PlainAid

attribute [local go_sem] Oper.semAt_some

set_option maxHeartbeats 400000 in
theorem kids_mk (a b : Option Addr) (n c m d : Nat) (i : Int) (w : World) :
    Calls Tryz.prog 40 #[.agg #[.slice a n c, .slice b m d], .int .i64 i] w fun e w' => e = .returned (.func (.func 67) #[] #[.pointer (some ⟨w.heap.size + 1, 0, none⟩), .pointer (some ⟨w.heap.size, 0, none⟩)]) ∧
      w' = (w.alloc (.cells #[.slice a n c, .slice b m d] 52)).alloc (.cells #[.int .i64 i] 3) := by
  have hmf : ∀ (fn : Fn) (first cap : Array Value) (w : World), (Instr.makeFunc fn first cap).run Tryz.prog w = .ok (.func fn first cap) w := fun _ _ _ _ => rfl
  go_enter Tryz.func40, Tryz.ntmps40
  go_wp2
  go_ret
  exact ⟨rfl, rfl⟩

theorem take_snocN {l : List Nat} {k x : Nat} (h : l[k]? = some x) : l.take k ++ [x] = l.take (k + 1) := by
  rw [List.take_add_one, h]; rfl

set_option maxRecDepth 100000 in
set_option maxHeartbeats 4000000 in
/-- The iterator's contract. -/
theorem kids_seq (Bd Bi ge n i : Nat) (v : Value) (t : List Nd) (P₀ : Nat → Prop) (N : Nat) (hN : 1 ≤ N) (w : World) (hP : P₀ Bd ∧ P₀ Bi ∧ P₀ ge) (hn₀ : ∀ k, P₀ k → k < w.heap.size)
    (hd : w.heap[Bd]? = some (.cells #[v, .slice (some ⟨ge, 0, none⟩) n n] 52 (0, 0))) (hb : w.heap[Bi]? = some (.cells #[.int .i64 (i : Int)] 3 (0, 0)))
    (hn : t.length = n) (hT : Tr (kidsL t)) (hi : i < n) (hl : n ≤ 400)
    (hc : ∀ (j q : Nat), (endsL (kidsL t))[j]? = some q → w.cell? ⟨ge, j, none⟩ = some (.int .i64 (q : Int))) :
    SeqO N Tryz.prog 67 #[.pointer (some ⟨Bi, 0, none⟩), .pointer (some ⟨Bd, 0, none⟩)] (fun x : Nat => #[.int .i64 (x : Int)]) P₀ (fun _ => False) (fun ys => ys = kidsN (kidsL t) i) (fun pre => pre <+: kidsN (kidsL t) i) (fun pre x => pre ++ [x] <+: kidsN (kidsL t) i) w := by
  intro l J Jx W hW hJ hJx hY h0
  have hkl : (kidsL t).length = n := by rw [kidsL_len, hn]
  have hil : i < (kidsL t).length := by rw [hkl]; exact hi
  have HF : Hid (∀ wr : World, (∀ k, P₀ k → wr.heap[k]? = W.heap[k]?) → wr.heap[Bd]? = some (.cells #[v, .slice (some ⟨ge, 0, none⟩) n n] 52 (0, 0)) ∧ wr.cell? ⟨Bi, 0, none⟩ = some (.int .i64 (i : Int)) ∧ ∀ p, p < n → wr.cell? ⟨ge, p, none⟩ = some (.int .i64 (endN (kidsL t) p : Int))) := Lib.hid fun wr hwr => by
    refine ⟨(hwr _ hP.1).trans ((hW.block _ (hn₀ _ hP.1)).trans hd), ?_, fun p hp => ?_⟩
    · have := (hwr _ hP.2.1).trans ((hW.block _ (hn₀ _ hP.2.1)).trans hb)
      simp [World.cell?, this]
    · have h1 := (hwr _ hP.2.2).trans (hW.block _ (hn₀ _ hP.2.2))
      have h2 : wr.cell? ⟨ge, p, none⟩ = w.cell? ⟨ge, p, none⟩ := by simp [World.cell?, h1]
      rw [h2]; exact hc p _ (endsL_at (by rw [hkl]; exact hp))
  obtain ⟨c, hcE⟩ : ∃ c, cnt (kidsL t) i = c := ⟨_, rfl⟩
  have HK : Hid (∀ k, k < c → posK (kidsL t) i k < n ∧ posK (kidsL t) i k < endN (kidsL t) i ∧ endN (kidsL t) (posK (kidsL t) i k) = posK (kidsL t) i (k + 1) ∧ posK (kidsL t) i k < posK (kidsL t) i (k + 1)) := Lib.hid fun k hk => by
    obtain ⟨s1, s2, s3⟩ := hT.pos_step hil (k := k) (by omega)
    have s4 := hT.pos_next hil (k := k) (by omega)
    refine ⟨by rw [← hkl]; exact s2, ?_, s3, s4⟩
    have h3 := hT.pos_le hil (k := k + 1) (m := cnt (kidsL t) i) (by omega) (Nat.le_refl _)
    rw [hT.pos_end hil] at h3; omega
  have HS : Hid (posK (kidsL t) i 0 = i + 1) := Lib.hid (posK_start hil)
  have HE : Hid (posK (kidsL t) i c = endN (kidsL t) i) := Lib.hid (by rw [← hcE]; exact hT.pos_end hil)
  have HEB : Hid (endN (kidsL t) i ≤ n) := Lib.hid (by rw [← hkl]; exact (hT.end_bd hil).2)
  have HLen : Hid ((kidsN (kidsL t) i).length = c) := Lib.hid (by rw [kidsN_len, hcE])
  have HAt : Hid (∀ k, k < c → (kidsN (kidsL t) i)[k]? = some (posK (kidsL t) i k)) := Lib.hid fun k hk => kidsN_at (by omega)
  clear hcE hkl hil hT hc hd hb hn
  obtain ⟨d0, c0, e0⟩ := HF.out W (fun _ _ => rfl)
  refine callsIn_of_wp Tryz.func67 rfl trivial ?_ rfl
  simp only [Tryz.ntmps67, List.size_toArray, List.length_cons, List.length_nil, Nat.reduceAdd, Nat.reduceSub, Array.replicate_succ, Array.replicate_zero, List.push_toArray, List.append_toArray, List.nil_append, List.cons_append]
  clear e0
  gi_wp2
  -- MARK1
  gi_loopw [4] (fun x4 wr => ∃ k p : Nat, x4 = .int .i64 (p : Int) ∧ k ≤ c ∧ p ≤ n ∧ Hid (posK (kidsL t) i k = p) ∧ J ((kidsN (kidsL t) i).take k) wr ∧ Hid (∀ b, P₀ b → wr.heap[b]? = W.heap[b]?) ∧ W.heap.size ≤ wr.heap.size) (fun x4 _ => n - (intOf x4).toNat)
  case atStart => exact ⟨0, i + 1, by go_num, Nat.zero_le _, by omega, Lib.hid HS.out, h0, Lib.hid (fun _ _ => rfl), Nat.le_refl _⟩
  case round =>
    obtain ⟨k, p, rfl, hk, hpn, HP, hJ1, HB, hz⟩ := hrel
    obtain ⟨d1, c1, e1⟩ := HF.out wr HB.out
    obtain ⟨_, d2, _, _⟩ := box_facts d1
    have e2 := e1 i hi
    obtain ⟨q, hq⟩ : ∃ q, endN (kidsL t) i = q := ⟨_, rfl⟩
    rw [hq] at e2
    have hqn := HEB.out
    rw [hq] at hqn
    have HQ := Lib.hid hq
    have E1 := Lib.hid e1
    have hi0 : (0 : Int) ≤ (i : Int) := Int.natCast_nonneg _
    have hi1 : (i : Int) < (n : Int) := by omega
    clear hq e1 d1 d0 c0
    by_cases hlt : k < c
    · obtain ⟨s1, s2, s3, s4⟩ := HK.out k hlt
      rw [HP.out] at s1 s2 s3 s4
      obtain ⟨p2, hp2⟩ : ∃ p2, posK (kidsL t) i (k + 1) = p2 := ⟨_, rfl⟩
      rw [hp2] at s3 s4
      have HP2 := Lib.hid hp2
      rw [HQ.out] at s2
      have hlp : decide ((p : Int) < (q : Int)) = true := decide_eq_true (by omega)
      have hpre : (kidsN (kidsL t) i).take k ++ [p] = (kidsN (kidsL t) i).take (k + 1) := take_snocN (by rw [HAt.out k hlt, HP.out])
      have HPre := Lib.hid hpre
      have hG : (kidsN (kidsL t) i).take k ++ [p] <+: kidsN (kidsL t) i := by rw [hpre]; exact List.take_prefix _ _
      have hp2n : p2 ≤ n := by
        by_cases e : k + 1 < c
        · have := (HK.out (k + 1) e).1; rw [HP2.out] at this; omega
        · have e' : k + 1 = c := by omega
          have h1 := HE.out; rw [← e', HP2.out, HQ.out] at h1; omega
      have S3 := Lib.hid s3
      have hp0 : (0 : Int) ≤ (p : Int) := Int.natCast_nonneg _
      have hp1 : (p : Int) < (n : Int) := by omega
      have hdec : ¬ (n ≤ p) := by omega
      clear hp2 hpre s3
      obtain ⟨fn, tmps, assign, body, hy, hR⟩ := hY _ p wr hJ1 hz hG
      clear hG
      gi_wp2
      -- MARK2
      refine hR.mono ?_
      rintro e W3 (⟨rfl, hJ3, hk3⟩ | ⟨rfl, hJx3⟩)
      · have HB3 := Lib.hid (fun b (hb : P₀ b) => (hk3.2 b hb).trans (HB.out b hb))
        obtain ⟨f1, f3, f4⟩ := HF.out W3 HB3.out
        obtain ⟨_, f2, _, _⟩ := box_facts f1
        have f5 := f4 p s1
        rw [S3.out] at f5
        rw [HPre.out] at hJ3
        have hz3 := Nat.le_trans hz hk3.1
        clear f4 f1
        gi_wp2
        -- MARK3
        go_roundw
        case rel => exact ⟨k + 1, p2, rfl, by omega, hp2n, HP2, hJ3, HB3, hz3⟩
        case measure => simp [intOf]; omega
      · rw [HPre.out] at hJx3
        gi_wp2
        -- MARK4
        refine bodyPost_ret (results_none rfl _ _ _) rfl ?_
        exact ⟨⟨_, rfl⟩, .inr ⟨_, List.take_prefix _ _, hJx3⟩⟩
    · obtain rfl : k = c := by omega
      have hpq : p = q := by rw [← HP.out, HE.out, HQ.out]
      have hlp : decide ((p : Int) < (q : Int)) = false := decide_eq_false (by omega)
      have hnl : ¬ p < q := by omega
      clear hpq
      gi_wp2
      -- MARK5
      go_end0
      refine ⟨⟨_, rfl⟩, .inl ⟨_, rfl, ?_⟩⟩
      rw [List.take_of_length_le (Nat.le_of_eq HLen.out)] at hJ1
      exact hJ1
end Go.Proofs.YtkngkajojcmmlaaGreatDoor

/- slices.Collect of an iterator over numbers. -/
namespace Go.Proofs.YtkngkajojcmmlaaGreatDoor
open Go.RowKit Go.Shelf Go.PlainAid

attribute [local go_sem] Oper.semAt_some

theorem natV_app (a b : List Nat) : natV (a ++ b) = natV a ++ natV b := by unfold natV; rw [List.map_append]
/-- The list's cell, and all below, in the loop. -/
def ColI (A : Nat) (w : World) (pre : List Nat) (W : World) : Prop :=
  Below A w W ∧ ∃ v, W.heap[A]? = some (.cells #[v] 44 (0, 0)) ∧ W.ownsRow (A + 3) 3 1 v pre.length (natV pre)
theorem colI_bears (A : Nat) (w : World) : BearsO (fun k => k = A + 1 ∨ k = A + 2) (ColI A w) := by
  intro pre W W' row h hg hr
  obtain ⟨h1, v, h2, h3⟩ := h
  have hr' : ∀ r, row = some r → A < r ∧ r < A + 3 := fun r e => by rcases hr r e with h | h <;> omega
  refine ⟨h1.grown hg (Nat.le_of_lt (Array.getElem?_eq_some_iff.1 h2).1) (fun k e => by have := hr' _ e; omega), v, (hg.block A (Array.getElem?_eq_some_iff.1 h2).1 fun e => by have := hr' _ e.symm; omega).trans h2, h3.kept hg ?_⟩
  cases hv : v.ownBlock with
  | none => exact .inl rfl
  | some r => exact .inr fun e => by have h4 := hr' _ e.symm; have h5 := (h3.lt r hv).1; omega
/-- Within a round. -/
def ColA (A : Nat) (w : World) (pre : List Nat) (x : Nat) (a : Act) (W : World) : Prop :=
  ColI A w pre W ∧ ∃ (u0 u1 u3 u4 u6 u7 u8 u9 u10 u11 u12 : Value), a = { tmps := #[u0, u1, .pointer (some ⟨A, 0, none⟩), u3, u4, .int .i64 (x : Int), u6, u7, u8, u9, u10, u11, u12], defers := [] }
theorem colA_bears (A : Nat) (w : World) (pre : List Nat) (x : Nat) : BearsO (fun k => k = A + 1 ∨ k = A + 2) (ColA A w pre x) := by
  intro a W W' row h hg hr
  exact ⟨colI_bears A w pre W W' row h.1 hg hr, h.2⟩
theorem collect_form {w : World} {B n : Nat} {e : TypeId} {v : Value} {l : List Nat} (h : w.ownsRow B e 1 v n (natV l)) (hn : l.length = n) : ∃ a c, v = .slice a n c ∧ (l = [] ∨ ∃ g, a = some ⟨g, 0, none⟩ ∧ B ≤ g ∧ g < w.heap.size ∧ ∀ (j q : Nat), l[j]? = some q → w.cell? ⟨g, j, none⟩ = some (.int .i64 (q : Int))) := by
  rcases own_form h with ⟨rfl, h0⟩ | ⟨g, c, rfl, h1, h2⟩
  · exact ⟨none, 0, by rw [h0], .inl (List.length_eq_zero_iff.1 (by omega))⟩
  · exact ⟨_, c, rfl, .inr ⟨g, rfl, h1, h2, fun j q hj => own_cell h (natV_at hj)⟩⟩

set_option maxRecDepth 50000 in
set_option maxHeartbeats 1600000 in
theorem append_seq (gf : Nat) (lb : Array Value) (P₀ : Nat → Prop) (ys : List Nat) (w : World) (hn₀ : ∀ k, P₀ k → k < w.heap.size) (hys : ys.length ≤ 1000) (eg : ∀ args w, (callFunc gf args).run Tryz.prog w = .ok (.enter gf args) w)
    (hseq : ∀ W, Below w.heap.size w W → SeqO 3 Tryz.prog gf lb (fun x : Nat => #[.int .i64 (x : Int)]) P₀ (fun _ => False) (fun l => l = ys) (fun pre => pre <+: ys) (fun pre x => pre ++ [x] <+: ys) W) :
    CallsIn Fence.wide 4 Tryz.prog 66 #[.slice none 0 0, .func (.func gf) #[] lb] w fun e w' => ∃ v, e = .returned v ∧ w'.ownsRow w.heap.size 3 1 v ys.length (natV ys) ∧ Below w.heap.size w w' := by
  have HSeq := Lib.hid hseq
  have HY := Lib.hid hys
  clear hseq hys
  refine callsIn_of_wp_marks Tryz.func66 rfl trivial ?_ rfl
  simp only [Tryz.ntmps66, List.size_toArray, List.length_cons, List.length_nil, Nat.reduceAdd, Nat.reduceSub, Array.replicate_succ, Array.replicate_zero, List.push_toArray, List.append_toArray, List.nil_append, List.cons_append]
  gi_wp2
  -- MARK1
  obtain ⟨W0, hW0⟩ : ∃ W0, W0 = w.alloc (.cells #[.slice none 0 0] 44) := ⟨_, rfl⟩
  rw [← hW0]
  have hsz : W0.heap.size = w.heap.size + 1 := by rw [hW0]; simp
  have hbel : Below w.heap.size w W0 := by rw [hW0]; exact below_b1 _ _
  have ha0 : W0.heap[w.heap.size]? = some (.cells #[.slice none 0 0] 44 (0, 0)) := by rw [hW0]; exact World.alloc_heap_new _ _
  clear hW0
  obtain ⟨A, hA⟩ : ∃ A, w.heap.size = A := ⟨_, rfl⟩
  have hseq0 := HSeq.out W0 hbel
  rw [hA] at hsz hbel ha0 hn₀
  rw [hA]
  refine wpIn_rangeO (by omega) rfl eg hseq0 (Below.refl _ _) (fun k hk => by have := hn₀ k hk; omega) (fun k hk => hk.elim) (fun _ => rfl) (ColI A w) (fun _ _ _ => False)
    (fun pre W W' row h hg hr => colI_bears A w pre W W' row h hg (fun r e => by rcases hr r e with h | h | h; exact h.elim; exact .inl (by omega); exact .inr (by omega))) (fun c pre W W' row h _ _ => h) ?_ (ColA A w)
    (fun pre x a W W' row h hg hr => colA_bears A w pre x a W W' row h hg (fun r e => by rcases hr r e with h | h | h; exact h.elim; exact .inl (by omega); exact .inr (by omega))) ?_ ?_ ?_ ?_
  · exact ⟨hbel, _, ha0, rfl, .inl ⟨rfl, rfl⟩⟩
  · intro l pre x W K hI hW hK
    gi_wp2
    exact hK _ _ (KeepsP.refl _ _) ⟨hI, _, _, _, _, _, _, _, _, _, _, _, rfl⟩
  · obtain ⟨i0, hi, hj0, hj1, hj2⟩ := info_parts2 infoSk
    intro l pre x a' W hColA hW hG
    have hlen : pre.length < ys.length := by
      have := hG.length_le
      rw [List.length_append] at this
      exact this
    have hyb := HY.out
    have hpl : pre.length < 1000 := by omega
    clear hG
    obtain ⟨⟨hbW, v, hv, hown⟩, u0, u1, u3, u4, u6, u7, u8, u9, u10, u11, u12, rfl⟩ := hColA
    rw [hsz] at hW
    have hc0 : W.cell? ⟨A, 0, none⟩ = some v := by simp [World.cell?, hv]
    have hltA : A < W.heap.size := (Array.getElem?_eq_some_iff.1 hv).1
    gi_wp2_with (gi_at_builtin; refine wpListIn_append_own _ rfl _ _ 44 rfl (A + 3) 3 i0 (.int .i64 0) 1 8 Tryz.underlying44 hi hj0 hj1 hj2 rfl (by decide) v pre.length (natV pre) rfl (hown.alloc _) ⟨W.heap.size, 0, none⟩ 1 1 [.int .i64 (x : Int)] rfl rfl (new_cells W [.int .i64 (x : Int)] _) (by simp [Value.oneCell']) (by unfold maxLen; omega) (by omega) (by rw [World.size_alloc]; omega) ?_; intro v' w7 hown7 hgrow7 _; obtain ⟨sa, sm, sc, rfl⟩ := own_slice hown7; have hv7 := (hgrow7.block A (by rw [World.size_alloc]; omega) (fun e => by have := (hown.lt A e.symm).1; omega)).trans ((Below.heap_alloc _ _ _ hltA).trans hv); have hc7 : w7.cell? ⟨A, 0, none⟩ = some v := (by simp [World.cell?, hv7]); have hz7 : w7.frozen? ⟨A, 0, none⟩ = false := (by simp [World.frozen?, hv7]))
    -- MARK2
    have hkk : ∀ k, k < A + 3 → w7.heap[k]? = W.heap[k]? := fun k hk =>
      (hgrow7.block k (by rw [World.size_alloc]; omega) (fun e => by have := (hown.lt k e.symm).1; omega)).trans (Below.heap_alloc _ _ _ (by omega))
    have hne : ∀ g, (Value.slice sa sm sc).ownBlock = some g → A + 3 ≤ g := fun g hg => (hown7.lt g hg).1
    refine ⟨⟨?_, fun k hk => ?_⟩, ?_, _, set_block _ hv7, ?_⟩
    · rw [World.size_setCell]; have := hgrow7.size; rw [World.size_alloc] at this; omega
    · rw [hsz] at hk
      have hk' : k ≠ A ∧ k < A + 3 := by
        rcases hk with hk | hk
        · have := hn₀ k hk; omega
        · omega
      exact (set_other _ hk'.1).trans (hkk k hk'.2)
    · exact ((hbW.alloc (by omega) _).grown hgrow7 (by rw [World.size_alloc]; omega) (fun k hk => by have := (hown.lt k hk).1; omega)).setCell (Nat.le_refl A) _
    · have hw3 := hown7.kept (grown_set w7 A 0 (.slice sa sm sc)) (.inr fun e => by have := hne _ e; omega)
      rw [List.length_append, natV_app]
      exact hw3
  · intro xs W hS hI hD
    rw [hsz] at hD
    subst hS
    obtain ⟨hbW, v, hv, hown⟩ := hI
    have hc0 : W.cell? ⟨A, 0, none⟩ = some v := by simp [World.cell?, hv]
    obtain ⟨sa, sm, sc, rfl⟩ := own_slice hown
    rw [hsz]
    gi_wp2
    -- MARK3
    refine ⟨by simp, .inl ⟨_, _, rfl, run_takeDeferred hD, ?_⟩⟩
    refine ⟨.slice sa sm sc, by simp [results, Tryz.results66, go_sem], .slice sa sm sc, rfl, ?_, ?_⟩
    · have hne : ∀ g, (Value.slice sa sm sc).ownBlock = some g → A + 3 ≤ g := fun g hg => (hown.lt g hg).1
      rw [hA]
      exact own_mono (B := A + 3) (hown.kept (grownBy_putObj' _ (A + 1) _) (.inr fun e => by have := hne _ e; omega)) (by omega)
    · rw [hA]
      exact hbW.grown (grownBy_putObj' _ _ _) (Nat.le_of_lt (Array.getElem?_eq_some_iff.1 hv).1) (fun k e => by cases e; omega)
  · intro c pre W _ h _
    exact h.elim

set_option maxRecDepth 50000 in
set_option maxHeartbeats 400000 in
theorem collect_any (gf : Nat) (lb : Array Value) (P₀ : Nat → Prop) (ys : List Nat) (w : World) (hn₀ : ∀ k, P₀ k → k < w.heap.size) (hys : ys.length ≤ 1000) (eg : ∀ args w, (callFunc gf args).run Tryz.prog w = .ok (.enter gf args) w)
    (hseq : ∀ W, Below w.heap.size w W → SeqO 3 Tryz.prog gf lb (fun x : Nat => #[.int .i64 (x : Int)]) P₀ (fun _ => False) (fun l => l = ys) (fun pre => pre <+: ys) (fun pre x => pre ++ [x] <+: ys) W) :
    Calls Tryz.prog 39 #[.func (.func gf) #[] lb] w fun e w' => ∃ v, e = .returned v ∧ w'.ownsRow w.heap.size 3 1 v ys.length (natV ys) ∧ Below w.heap.size w w' := by
  have C := Lib.hid (callsIn_wide.1 (append_seq gf lb P₀ ys w hn₀ hys eg hseq))
  clear hseq eg hys hn₀
  go_enter Tryz.func39, Tryz.ntmps39
  go_wp2_with fail
  -- MARK4
  refine C.out.mono ?_
  rintro e w1 ⟨v, rfl, ho, hb⟩
  obtain ⟨sa, sm, sc, rfl⟩ := own_slice ho
  go_wp2_with fail
  go_ret
  exact ⟨_, rfl, ho, hb⟩
end Go.Proofs.YtkngkajojcmmlaaGreatDoor

/- Trees: Path. -/
namespace Go.Proofs.YtkngkajojcmmlaaGreatDoor
open Go.RowKit Go.Shelf Go.PlainAid

theorem rev_any (B : Nat) (v : Value) (l : List Int) (w : World) (h : w.ownsRow B 3 1 v l.length (l.map (Value.int .i64))) (hB : B ≤ w.heap.size) (hl : l.length ≤ 1000000) :
    Calls Tryz.prog 41 #[v] w fun e w' => e = .returned (.tuple #[]) ∧ IntRow w' v l.reverse ∧ Below B w w' := by
  rcases own_form h with ⟨rfl, h0⟩ | ⟨g, c, rfl, h1, h2⟩
  · refine (Tryz.slices_Reverse_int_empty none 0 w).mono ?_
    rintro e w' ⟨rfl, rfl⟩
    have : l = [] := List.length_eq_zero_iff.1 h0
    subst this
    exact ⟨rfl, ⟨none, 0, rfl, .inl rfl⟩, Below.refl _ _⟩
  · have hH : Go.Sort.Holds (Value.int .i64) w g 0 l.toArray := fun j hj => by
      have hj' : j < l.length := by simpa using hj
      refine ⟨?_, h.frozenAt _⟩
      rw [Nat.zero_add]
      refine own_cell h ?_
      rw [List.getElem?_map, List.getElem?_eq_getElem hj']
      simp [getElem!_pos, hj']
    refine (Tryz.slices_Reverse_int g 0 c l w hH (by omega)).mono ?_
    rintro e w' ⟨rfl, n, rfl⟩
    have hH' : Go.Sort.Holds (Value.int .i64) (Go.Sort.ahead w n) g 0 l.toArray := hH
    have hR := Go.Sort.holds_putRow (Value.int .i64) (Go.Sort.ahead w n) g 0 l.toArray l.reverse.toArray hH' (by simp)
    have hgr := grownBy_sortedI (w := w) (g := g) (n := n) (os := #[]) l.reverse.toArray
    rw [Go.Sort.grow_empty] at hgr
    refine ⟨rfl, ⟨_, c, by rw [List.length_reverse], .inr ⟨g, 0, rfl, ?_, fun j x hj => ?_⟩⟩, (Below.refl B w).grown hgr hB (fun k e => by cases e; exact h1)⟩
    · rw [Go.Sort.size_putRow]; exact h2
    · have hjl := (List.getElem?_eq_some_iff.1 hj)
      have := (hR j (by simpa using hjl.1)).1
      rw [this]
      have e : (l.reverse.toArray)[j]! = x := by
        rw [show (l.reverse.toArray)[j]! = l.reverse[j]?.getD 0 by simp, hj]; rfl
      rw [e]

theorem kidsN_le {ks : List Nat} (h : Tr ks) {i : Nat} (hi : i < ks.length) : (kidsN ks i).length ≤ ks.length := by
  rw [kidsN_len]
  have h1 := h.pos_mono hi (d := cnt ks i) (k := 0) (by omega)
  rw [Nat.zero_add, h.pos_end hi] at h1
  have := (h.end_bd hi).2
  omega
set_option maxRecDepth 50000 in
/-- The children of a node, collected. -/
theorem coll_kids (a : Option Addr) (c ge n p : Nat) (t : List Nd) (W : World) (hn : t.length = n) (hT : Tr (kidsL t)) (hp : p < n) (hl : n ≤ 400) (hg : ge < W.heap.size)
    (hc : ∀ (j q : Nat), (endsL (kidsL t))[j]? = some q → W.cell? ⟨ge, j, none⟩ = some (.int .i64 (q : Int))) :
    Calls Tryz.prog 39 #[.func (.func 67) #[] #[.pointer (some ⟨W.heap.size + 1, 0, none⟩), .pointer (some ⟨W.heap.size, 0, none⟩)]] ((W.alloc (.cells #[.slice a n c, .slice (some ⟨ge, 0, none⟩) n n] 52)).alloc (.cells #[.int .i64 (p : Int)] 3))
      fun e w' => ∃ v, e = .returned v ∧ w'.ownsRow W.heap.size 3 1 v (kidsN (kidsL t) p).length (natV (kidsN (kidsL t) p)) ∧ Below W.heap.size W w' := by
  have hkl : (kidsL t).length = n := by rw [kidsL_len, hn]
  obtain ⟨W2, hW2⟩ : ∃ W2, W2 = (W.alloc (.cells #[.slice a n c, .slice (some ⟨ge, 0, none⟩) n n] 52)).alloc (.cells #[.int .i64 (p : Int)] 3) := ⟨_, rfl⟩
  have hsz : W2.heap.size = W.heap.size + 2 := by rw [hW2]; simp
  have hb : Below W.heap.size W W2 := by rw [hW2]; exact ((Below.refl _ W).alloc (Nat.le_refl _) _).alloc (by simp only [World.size_alloc]; omega) _
  have h1 : W2.heap[W.heap.size]? = some (.cells #[.slice a n c, .slice (some ⟨ge, 0, none⟩) n n] 52 (0, 0)) := by
    rw [hW2]; exact (Below.heap_alloc _ _ _ (by simp only [World.size_alloc]; omega)).trans (World.alloc_heap_new _ _)
  have h2 : W2.heap[W.heap.size + 1]? = some (.cells #[.int .i64 (p : Int)] 3 (0, 0)) := by
    rw [hW2]; have := World.alloc_heap_new (W.alloc (.cells #[.slice a n c, .slice (some ⟨ge, 0, none⟩) n n] 52)) (.cells #[.int .i64 (p : Int)] 3); rwa [World.size_alloc] at this
  rw [← hW2]
  clear hW2
  refine (collect_any 67 _ (fun k => k = W.heap.size ∨ k = W.heap.size + 1 ∨ k = ge) (kidsN (kidsL t) p) W2 (fun k hk => by omega) (by have := kidsN_le hT (i := p) (by omega); omega) (enters_of Tryz.func67 (by kernel_rfl) rfl) fun W3 hb3 => ?_).mono ?_
  · exact kids_seq W.heap.size (W.heap.size + 1) ge n p _ t _ 3 (by omega) W3 ⟨.inl rfl, .inr (.inl rfl), .inr (.inr rfl)⟩ (fun k hk => by have := hb3.size; omega)
      ((hb3.block _ (by omega)).trans h1) ((hb3.block _ (by omega)).trans h2) hn hT hp hl
      (fun j q hj => ((hb3.cell (p := ⟨ge, j, none⟩) (by show ge < W2.heap.size; omega)).trans (hb.cell (p := ⟨ge, j, none⟩) hg)).trans (hc j q hj))
  · rintro e w' ⟨v, rfl, ho, hb4⟩
    exact ⟨v, rfl, own_mono ho (by omega), hb.trans (hb4.mono (by omega))⟩
theorem natV_int (l : List Nat) : natV l = (l.map fun q : Nat => (q : Int)).map (Value.int .i64) := by unfold natV; rw [List.map_map]; rfl
/-- What Path returns. -/
def PathV (sy : List UInt8 → Bool) (t : List Nd) (i : Int) (w : World) (e : Ending) (w' : World) : Prop :=
  (atE sy t i ≠ 0 → e = .returned (.tuple #[.slice none 0 0, .int .i64 (atE sy t i)])) ∧ (atE sy t i = 0 → ∃ v l, e = .returned (.tuple #[v, .int .i64 0]) ∧ IntRow w' v l ∧ l.length ≤ 400 ∧ fol (kidsL t) 0 l = some i.toNat) ∧ Below w.heap.size w w'
theorem path_bad (sy : List UInt8 → Bool) (v : Value) (t : List Nd) (i : Int) (w : World) (h : NdsAt w v t) (HS : Hid (SymAll 22 sy w)) (KB : Hid (KidsB t)) (hz : atE sy t i ≠ 0) :
    Calls Tryz.prog 18 #[v, .int .i64 i] w (PathV sy t i w) := by
  have C := Lib.hid (treeWith_any sy v t i w h HS KB)
  obtain ⟨a, c, rfl⟩ := h.slice
  have hne : (atE sy t i != 0) = true := bne_iff_ne.2 hz
  have HZ := Lib.hid hz
  clear h HS KB hz
  go_enter Tryz.func18, Tryz.ntmps18
  go_wp2_with fail
  refine C.out.mono ?_
  rintro e' w2 ⟨hbad, _, hb2⟩
  obtain rfl := hbad HZ.out
  unfold zeroTree
  clear hbad
  go_wp2_with fail
  -- MARK1
  go_ret2
  exact ⟨fun _ => rfl, fun h => absurd h HZ.out, hb2.alloc hb2.size _⟩

set_option maxRecDepth 50000 in
set_option maxHeartbeats 3200000 in
theorem path_ok (sy : List UInt8 → Bool) (v : Value) (t : List Nd) (i : Nat) (w : World) (h : NdsAt w v t) (HS : Hid (SymAll 22 sy w)) (KB : Hid (KidsB t)) (hz : atE sy t (i : Int) = 0) :
    Calls Tryz.prog 18 #[v, .int .i64 (i : Int)] w (PathV sy t (i : Int) w) := by
  have C := Lib.hid (treeWith_any sy v t (i : Int) w h HS KB)
  obtain ⟨a, c, rfl⟩ := h.slice
  obtain ⟨h1, h2, h3⟩ := atE_0 hz
  obtain ⟨hT, _, hl, _, _⟩ := chkT_ok h1
  obtain ⟨n, hn⟩ : ∃ n, t.length = n := ⟨_, rfl⟩
  have HPV : Hid (∀ v l w', IntRow w' v l → l.length ≤ 400 → fol (kidsL t) 0 l = some i → Below w.heap.size w w' → PathV sy t (i : Int) w (.returned (.tuple #[v, .int .i64 0])) w') := Lib.hid fun v l w' r1 r2 r3 r4 =>
    ⟨fun h => absurd hz h, fun _ => ⟨v, l, rfl, r1, r2, by rw [Int.toNat_natCast]; exact r3⟩, r4⟩
  have HN := Lib.hid hn
  have HT := Lib.hid hT
  have HZ := Lib.hid hz
  have hin : i < n := by omega
  rw [hn] at hl C
  rw [hn]
  have hkl := Lib.hid (kidsL_len t ▸ hn : (kidsL t).length = n)
  clear h HS KB hz h1 h2 h3 hT hn
  go_enter Tryz.func18, Tryz.ntmps18
  go_wp2_with fail
  -- MARK2
  refine C.out.mono ?_
  rintro e' w2 ⟨_, hok, hb2⟩
  obtain ⟨ve, rfl, ge, rfl, hge, hgl, hgc⟩ := hok HZ.out
  have HGC := Lib.hid hgc
  rw [HN.out]
  clear hok hgc C
  go_wp2_with fail
  -- MARK3
  obtain ⟨W3, hW3⟩ : ∃ W3, W3 = w2.alloc (.cells #[.slice a n c, .slice (some ⟨ge, 0, none⟩) n n] 52) := ⟨_, rfl⟩
  have hb3 : Below w2.heap.size w2 W3 := by rw [hW3]; exact below_b1 _ _
  have hB3 : Below w.heap.size w W3 := hb2.trans (hb3.mono hb2.size)
  have hbk3 : W3.heap[w2.heap.size]? = some (.cells #[.slice a n c, .slice (some ⟨ge, 0, none⟩) n n] 52 (0, 0)) := by rw [hW3]; exact World.alloc_heap_new _ _
  obtain ⟨g6, hg6⟩ : ∃ g6, w2.heap.size = g6 := ⟨_, rfl⟩
  rw [hg6] at hbk3 hgl hb3
  have HF : Hid (∀ W, Below W3.heap.size W3 W → W.cell? ⟨g6, 0, none⟩ = some (.slice a n c) ∧ W.cell? ⟨g6, 1, none⟩ = some (.slice (some ⟨ge, 0, none⟩) n n) ∧ ge < W.heap.size ∧ (∀ (j q : Nat), (endsL (kidsL t))[j]? = some q → W.cell? ⟨ge, j, none⟩ = some (.int .i64 (q : Int)))) := Lib.hid fun W hW => by
    have hk := (hW.block g6 (Array.getElem?_eq_some_iff.1 hbk3).1).trans hbk3
    obtain ⟨d0, d1, _, _⟩ := box_facts hk
    have := hb3.size
    have := hW.size
    refine ⟨d0, d1, by omega, fun j q hj => ?_⟩
    have e1 := (hb3.cell (p := ⟨ge, j, none⟩) hgl).trans (HGC.out j q hj)
    exact (hW.cell (p := ⟨ge, j, none⟩) (by show ge < W3.heap.size; omega)).trans e1
  rw [← hW3, hg6]
  clear hW3 hbk3 hb2 hb3 hgl hge hg6 HGC
  have hB30 := Lib.hid hB3
  have hle3 := hB3.size
  go_loopw [1, 8] (fun x1 x8 wr => ∃ (j m : Nat) (P : List Int) (b : Option Addr) (cb : Nat), x1 = .int .i64 (j : Int) ∧ x8 = .slice b m cb ∧ Hid (P.length = m) ∧ m + j ≤ i ∧ Hid (wr.ownsRow W3.heap.size 3 1 (.slice b m cb) m (P.map (Value.int .i64))) ∧ Hid (fol (kidsL t) j P.reverse = some i) ∧ Below W3.heap.size W3 wr) (fun x1 _ _ => (intOf x1).toNat)
  case atStart => exact ⟨i, 0, [], none, 0, rfl, rfl, Lib.hid rfl, by omega, Lib.hid ⟨rfl, .inl ⟨rfl, rfl⟩⟩, Lib.hid rfl, Below.refl _ _⟩
  case round =>
    obtain ⟨j, m, P, b, cb, rfl, rfl, HPL, hmj, HO, HFol, hbr⟩ := hrel
    obtain ⟨d0, d1, hglr, hgcr⟩ := HF.out wr hbr
    by_cases hj : 0 < j
    · have hT := HT.out
      have hjk : j < (kidsL t).length := by rw [hkl.out]; omega
      obtain ⟨p1, p2, p3⟩ := hT.par hjk hj
      obtain ⟨k, hk, hpk⟩ := hT.par_child hjk hj
      obtain ⟨p, hpE⟩ : ∃ p, parN (kidsL t) j = p := ⟨_, rfl⟩
      have CP := Lib.hid (fun W (hW : Below W3.heap.size W3 W) => parent_any (.slice a n c) t ge j W a n c rfl HN.out hT (by omega) hj hl (HF.out W hW).2.2.1 (HF.out W hW).2.2.2)
      have CK := Lib.hid (fun W (hW : Below W3.heap.size W3 W) => coll_kids a c ge n p t W HN.out hT (by omega) hl (HF.out W hW).2.2.1 (HF.out W hW).2.2.2)
      rw [hpE] at p1 hk hpk CP
      have HFol2 : Hid (fol (kidsL t) p (P ++ [(k : Int)]).reverse = some i) := Lib.hid (by
        rw [List.reverse_append]
        show fol (kidsL t) p ((k : Int) :: P.reverse) = some i
        rw [fol_kid hk, hpk]; exact HFol.out)
      have HKid : Hid (((kidsN (kidsL t) p).map fun q : Nat => (q : Int))[k]? = some (j : Int) ∧ ∀ (k' : Nat) (y : Int), k' < k → ((kidsN (kidsL t) p).map fun q : Nat => (q : Int))[k']? = some y → y ≠ (j : Int)) := Lib.hid (by
        refine ⟨by rw [List.getElem?_map, kidsN_at hk, hpk]; rfl, fun k' y hk' hy e => ?_⟩
        rw [List.getElem?_map, kidsN_at (by omega), Option.map_some] at hy
        have hy' := Option.some.inj hy
        have := hT.pos_inj (i := p) (by omega) (k := k') (m := k) (by omega) hk (by omega)
        omega)
      have HKL := Lib.hid (kidsN_le hT (i := p) (by omega))
      clear hT hjk p2 p3 hk hpk hpE
      go_wp2_with fail
      -- MARK4
      refine (CP.out wr hbr).mono ?_
      rintro e' w4 ⟨rfl, hb4⟩
      have hbr4 := hbr.trans (hb4.mono hbr.size)
      obtain ⟨f0, f1, hgl4, hgc4⟩ := HF.out w4 hbr4
      clear hgc4
      go_wp2_with fail
      -- MARK5
      refine (kids_mk _ _ _ _ _ _ _ _).mono ?_
      rintro e' w5 ⟨rfl, rfl⟩
      go_wp2_with fail
      -- MARK6
      refine (CK.out w4 hbr4).mono ?_
      rintro e' w6 ⟨vk, rfl, hok6, hb6⟩
      have hbr6 := hbr4.trans (hb6.mono hbr4.size)
      have hrow6 : IntRow w6 vk ((kidsN (kidsL t) p).map fun q : Nat => (q : Int)) := by
        obtain ⟨a6, c6, rfl, h6⟩ := collect_form hok6 rfl
        refine ⟨a6, c6, by rw [List.length_map], h6.imp (fun e => by rw [e]; rfl) ?_⟩
        rintro ⟨g, rfl, _, hg, hc⟩
        refine ⟨g, 0, rfl, hg, fun j n hj => ?_⟩
        rw [List.getElem?_map] at hj
        cases hq : (kidsN (kidsL t) p)[j]? with
        | none => rw [hq] at hj; cases hj
        | some q =>
          rw [hq] at hj
          rw [Nat.zero_add, hc j q hq]
          cases hj; rfl
      have CPl := Lib.hid (placeOf_at vk _ (j : Int) k w6 hrow6 HKid.out.1 HKid.out.2 (by rw [List.length_map]; have := HKL.out; have := hkl.out; omega))
      have HO6 := Lib.hid (own_below HO.out ((hb4.trans (hb6.mono hb4.size))))
      obtain ⟨s1, s2, s3, rfl⟩ := own_slice hok6
      clear hrow6 hok6
      obtain ⟨i0, hi, hj0, hj1, hj2⟩ := info_parts2 infoSk
      have hm400 : m ≤ 400 := by omega
      go_wp2_with (first | (go_at_call 38; refine CPl.out.mono ?_; rintro e' w7 ⟨rfl, rfl⟩) | (at_builtin; refine wpList_append_lies _ rfl _ _ 44 rfl W3.heap.size 3 i0 (.int .i64 0) 1 8 Tryz.underlying44 hi hj0 hj1 hj2 rfl (by decide) _ _ _ rfl (HO6.out.alloc _) ⟨w6.heap.size, 0, none⟩ 1 1 [.int .i64 (k : Int)] rfl rfl (new_cells1 _ _ _ _ rfl) (by simp [Value.oneCell']) (by omega) (by unfold maxLen; omega) (by omega) (by rw [World.size_alloc]; have := hbr6.size; omega) (w6.heap.size + 1) (by simp) ?_; intro g1 cap1 w8 hown8 hgrow8 hat8 hlt8; have HB8 : Below W3.heap.size W3 w8 := (hbr6.alloc hbr6.size _).grown hgrow8 (by rw [World.size_alloc]; have := hbr6.size; omega) (fun j hj => (HO6.out.lt j hj).1); have HO8 := Lib.hid hown8; clear hown8 hgrow8 hat8))
      -- MARK7
      go_roundw
      case rel => exact ⟨p, m + 1, P ++ [(k : Int)], _, _, rfl, rfl, Lib.hid (by rw [List.length_append, HPL.out]; rfl), by omega, Lib.hid (by rw [List.map_append]; exact HO8.out), HFol2, HB8⟩
      case measure => simp [intOf]; omega
    · obtain rfl : j = 0 := by omega
      have CR := Lib.hid (rev_any W3.heap.size (.slice b m cb) P wr (by rw [HPL.out]; exact HO.out) hbr.size (by rw [HPL.out]; omega))
      clear hgcr
      go_wp2_with fail
      -- MARK8
      refine CR.out.mono ?_
      rintro e' w9 ⟨rfl, hrow, hb9⟩
      go_wp2_with fail
      -- MARK9
      go_ret2
      exact HPV.out _ _ _ hrow (by rw [List.length_reverse, HPL.out]; omega) HFol.out (hB30.out.trans ((hbr.trans hb9).mono hle3))
end Go.Proofs.YtkngkajojcmmlaaGreatDoor
