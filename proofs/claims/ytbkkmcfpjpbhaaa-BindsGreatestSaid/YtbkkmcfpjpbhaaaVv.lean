/- Tables of bindings in memory; sets of bindings in a map. -/
import Derived.Test.YtbkkmcfpjpbhaaaVn
import Derived.Test.YtbkkmcfpjpbhaaaSrm
import Derived.Deep.AppendLies
namespace Go.Proofs.Ytbkkmcfpjpbhaaa
open Go.RowKit Go.PlainAid

/-- The slice value v holds the bindings l. -/
def BsAt (w : World) (v : Value) (l : List Bd) : Prop :=
  ∃ a n c, v = .slice a n c ∧ n = l.length ∧ n ≤ c ∧ (l = [] ∨ ∃ g off, a = some ⟨g, off, none⟩ ∧ g < w.heap.size ∧ ∀ (j : Nat) (u : Value), (bcs l)[j]? = some u → w.cell? ⟨g, off + j, none⟩ = some u)
theorem BsAt.below {B : Nat} {w w' : World} {v : Value} {l : List Bd} (h : BsAt w v l) (hb : Below B w w') (hB : w.heap.size ≤ B) : BsAt w' v l := by
  obtain ⟨a, n, c, e, hn, hc, h⟩ := h
  refine ⟨a, n, c, e, hn, hc, h.imp id ?_⟩
  rintro ⟨g, off, rfl, hg, hcell⟩
  exact ⟨g, off, rfl, Nat.lt_of_lt_of_le hg hb.size, fun j u hj => (hb.cell (p := ⟨g, off + j, none⟩) (by show g < B; omega)).trans (hcell j u hj)⟩
theorem BsAt.slice {w : World} {v : Value} {l : List Bd} (h : BsAt w v l) : ∃ a c, v = .slice a l.length c ∧ l.length ≤ c := by
  obtain ⟨a, n, c, e, hn, hc, _⟩ := h
  subst hn; exact ⟨a, c, e, hc⟩
/-- The cells of a binding. -/
theorem BsAt.node {w : World} {a : Option Addr} {n c : Nat} {l : List Bd} (h : BsAt w (.slice a n c) l) {k : Nat} {x : Bd} (hk : l[k]? = some x) :
    ∃ g off, a = some ⟨g, off, none⟩ ∧ g < w.heap.size ∧ w.cell? ⟨g, off + k * 4, none⟩ = some (.string (str x.n)) ∧ w.cell? ⟨g, off + k * 4 + 1, none⟩ = some (.string (str x.s)) ∧ w.cell? ⟨g, off + k * 4 + 2, none⟩ = some (.int .i64 x.p) ∧ w.cell? ⟨g, off + k * 4 + 3, none⟩ = some (.int .i64 x.r) := by
  obtain ⟨a', n', c', e, hn, hc, h⟩ := h
  obtain ⟨rfl, rfl, rfl⟩ := Value.slice.inj e
  rcases h with rfl | ⟨g, off, rfl, hg, hcell⟩
  · simp at hk
  · have H := fun j u hj => hcell (k * 4 + j) u (bcs_at l hk j u hj)
    have e : ∀ j, off + (k * 4 + j) = off + k * 4 + j := fun j => by omega
    simp only [e] at H
    exact ⟨g, off, rfl, hg, H 0 _ rfl, H 1 _ rfl, H 2 _ rfl, H 3 _ rfl⟩
theorem bs_nil (w : World) (a : Option Addr) (c : Nat) : BsAt w (.slice a 0 c) [] := ⟨a, 0, c, rfl, rfl, Nat.zero_le _, .inl rfl⟩
theorem bs_own {w : World} {B n : Nat} {v : Value} {l : List Bd} (h : w.ownsRow B 24 4 v n (bcs l)) (hn : l.length = n) : BsAt w v l := by
  rcases own_form h with ⟨rfl, h0⟩ | ⟨g, c, rfl, h1, h2⟩
  · obtain rfl : l = [] := List.length_eq_zero_iff.1 (by omega)
    subst h0; exact bs_nil _ _ _
  · have hc := (own_cap h).1
    refine ⟨_, n, c, rfl, hn.symm, hc, .inr ⟨g, 0, rfl, h2, fun j u hj => ?_⟩⟩
    have := h.cells (g := g) rfl j u hj
    rw [Go.WideShapes.add_plain] at this; exact this
theorem box4_facts {W : World} {n : Nat} {x0 x1 x2 x3 : Value} {t : TypeId} (h : W.heap[n]? = some (.cells #[x0, x1, x2, x3] t (0, 0))) :
    W.cell? ⟨n, 0, none⟩ = some x0 ∧ W.cell? ⟨n, 1, none⟩ = some x1 ∧ W.cell? ⟨n, 2, none⟩ = some x2 ∧ W.cell? ⟨n, 3, none⟩ = some x3 := by
  refine ⟨?_, ?_, ?_, ?_⟩ <;> simp [World.cell?, h]
/-- All strings are small. -/
def SmB (l : List Bd) : Prop := ∀ x ∈ l, x.n.length ≤ 100000 ∧ x.s.length ≤ 100000

/-- A block that is a map of bindings' names with their scopes. -/
def keyV (q : List UInt8 × List UInt8) : Value := .agg #[.string (str q.1), .string (str q.2)]
def MapB (w : World) (m : Nat) (L : List (List UInt8 × List UInt8)) : Prop :=
  ∃ es ck, w.heap[m]? = some (.map es ck) ∧ es.toList.map (fun e => (e.key, e.val)) = L.map (fun q => (keyV q, Value.bool true))
theorem MapB.below {B : Nat} {w w' : World} {m : Nat} {L : List (List UInt8 × List UInt8)} (h : MapB w m L) (hb : Below B w w') (hm : m < B) : MapB w' m L := by
  obtain ⟨es, ck, h1, h2⟩ := h
  exact ⟨es, ck, (hb.block m hm).trans h1, h2⟩
theorem MapB.lt {w : World} {m : Nat} {L : List (List UInt8 × List UInt8)} (h : MapB w m L) : m < w.heap.size := by
  obtain ⟨es, ck, h1, _⟩ := h
  exact (Array.getElem?_eq_some_iff.1 h1).1
theorem mapB_made (w : World) : MapB (w.alloc (.map #[] 0)) w.heap.size [] := ⟨#[], 0, World.alloc_heap_new _ _, rfl⟩
end Go.Proofs.Ytbkkmcfpjpbhaaa
