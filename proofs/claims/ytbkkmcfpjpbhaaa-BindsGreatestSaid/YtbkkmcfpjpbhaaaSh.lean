/- scopes.has, scopes.Ids. -/
import Derived.Test.YtbkkmcfpjpbhaaaSc
import Derived.Maps.AppendAt
namespace Go.Proofs.Ytbkkmcfpjpbhaaa
open Go.RowKit Go.Shelf Go.PlainAid

attribute [local go_sem] Oper.semAt_some

theorem own_mono {w : World} {B B' e z n : Nat} {v : Value} {xs : List Value} (h : w.ownsRow B e z v n xs) (hb : B' ≤ B) : w.ownsRow B' e z v n xs :=
  ⟨h.1, h.2.imp id fun ⟨g, cap, cur, h1, h2, h3⟩ => ⟨g, cap, cur, h1, Nat.le_trans hb h2, h3⟩⟩
theorem own_slice {w : World} {B e z n : Nat} {v : Value} {xs : List Value} (h : w.ownsRow B e z v n xs) : ∃ a m c, v = .slice a m c := by
  rcases h.2 with ⟨rfl, _⟩ | ⟨g, cap, cur, rfl, _⟩
  · exact ⟨_, _, _, rfl⟩
  · exact ⟨_, _, _, rfl⟩
theorem own_len {w : World} {B e z n : Nat} {v : Value} {xs : List Value} (h : w.ownsRow B e z v n xs) : ∃ a c, v = .slice a n c := by
  rcases h.2 with ⟨rfl, h0⟩ | ⟨g, cap, cur, rfl, _⟩
  · exact ⟨_, _, by rw [h0]⟩
  · exact ⟨_, _, rfl⟩
theorem info_parts2 {P : Program} {t : TypeId} {z : Value} {n b : Nat} (h : (P.info? t).map (fun i => (i.zero, i.size, i.bytes)) = some (some z, n, b)) :
    ∃ i, P.info? t = some i ∧ i.zero = some z ∧ i.size = n ∧ i.bytes = b := by
  cases hi : P.info? t with
  | none => rw [hi] at h; cases h
  | some i =>
    rw [hi] at h
    simp only [Option.map_some, Option.some.injEq, Prod.mk.injEq] at h
    exact ⟨i, rfl, h.1, h.2.1, h.2.2⟩
theorem infoInt : (Try.prog.info? 3).map (fun i => (i.zero, i.size, i.bytes)) = some (some (.int .i64 0), 1, 8) := by kernel_rfl
theorem infoU8 : (Try.prog.info? 5).map (fun i => (i.zero, i.size, i.bytes)) = some (some (.int .u8 0), 1, 1) := by kernel_rfl
theorem grown_set (W : World) (b i : Nat) (v : Value) : W.grownBy (W.setCell ⟨b, i, none⟩ v) (some b) :=
  ⟨rfl, rfl, rfl, (KeepsWalks.setCell W _ v).size, fun k _ hk => Below.heap_setCell _ _ _ k (fun e => hk (by rw [e]))⟩

/-- has: in the loop. -/
def HsI (A n : Nat) (w : World) (pre : List Nat) (W : World) : Prop :=
  (∀ y ∈ pre, y < n) ∧ W.heap[A]? = some (.cells #[.int .i64 (n : Int)] 3 (0, 0)) ∧ W.heap[A + 1]? = some (.cells #[.bool false] 4 (0, 0)) ∧ Below A w W
def HsX (A n : Nat) (w : World) (c : Code) (pre : List Nat) (W : World) : Prop :=
  c = .ret ∧ (∃ p x, pre = p ++ [x] ∧ (∀ y ∈ p, y < n) ∧ n ≤ x ∧ W.heap[A + 1]? = some (.cells #[.bool (decide (x = n))] 4 (0, 0))) ∧ Below A w W
theorem hsI_bears (A n : Nat) (w : World) : Bears (A + 3) (A + 3 + 2 + 0) (HsI A n w) := by
  intro pre W W' row h hg hr
  obtain ⟨h0, h1, h2, h3⟩ := h
  exact ⟨h0, (hg.block A (Array.getElem?_eq_some_iff.1 h1).1 fun e => by have := hr _ e.symm; omega).trans h1, (hg.block (A + 1) (Array.getElem?_eq_some_iff.1 h2).1 fun e => by have := hr _ e.symm; omega).trans h2,
    h3.grown hg (Nat.le_of_lt (Array.getElem?_eq_some_iff.1 h1).1) (fun k e => by have := hr _ e; omega)⟩
theorem hsX_bears (A n : Nat) (w : World) (c : Code) : Bears (A + 3) (A + 3 + 2 + 0) (HsX A n w c) := by
  intro pre W W' row h hg hr
  obtain ⟨h0, ⟨p, x, h1, h2, h3, h4⟩, h5⟩ := h
  exact ⟨h0, ⟨p, x, h1, h2, h3, (hg.block (A + 1) (Array.getElem?_eq_some_iff.1 h4).1 fun e => by have := hr _ e.symm; omega).trans h4⟩,
    h5.grown hg (Nat.le_trans (Nat.le_succ A) (Nat.le_of_lt (Array.getElem?_eq_some_iff.1 h4).1)) (fun k e => by have := hr _ e; omega)⟩
def HsA (A n : Nat) (w : World) (pre : List Nat) (x : Nat) (a : Act) (W : World) : Prop :=
  HsI A n w pre W ∧ ∃ u0 u1 u2 u6 u7 u8 u9 u10 u11 u12 u13 u14 : Value,
    a = { tmps := #[u0, u1, u2, .pointer (some ⟨A, 0, none⟩), .pointer (some ⟨A + 1, 0, none⟩), .int .i64 (x : Int), u6, u7, u8, u9, u10, u11, u12, u13, u14], defers := [] }
theorem hsA_bears (A n : Nat) (w : World) (pre : List Nat) (x : Nat) : Bears (A + 3) (A + 3 + 2 + 0) (HsA A n w pre x) := by
  intro a W W' row h hg hr
  exact ⟨hsI_bears A n w pre W W' row h.1 hg hr, h.2⟩
theorem has_stop {l p : List Nat} {x n : Nat} (h : asc l) (hp : p ++ [x] <+: l) (h1 : ∀ y ∈ p, y < n) (h2 : n ≤ x) : decide (n ∈ l) = decide (x = n) := by
  obtain ⟨r, rfl⟩ := hp
  obtain ⟨a, b, c⟩ := List.pairwise_append.1 h
  rw [Bool.eq_iff_iff, decide_eq_true_iff, decide_eq_true_iff]
  constructor
  · intro hm
    rcases List.mem_append.1 hm with hm | hm
    · rcases List.mem_append.1 hm with hm | hm
      · have := h1 n hm; omega
      · exact (List.mem_singleton.1 hm).symm
    · have := c x (by simp) n hm; omega
  · rintro rfl; simp

end Go.Proofs.Ytbkkmcfpjpbhaaa
