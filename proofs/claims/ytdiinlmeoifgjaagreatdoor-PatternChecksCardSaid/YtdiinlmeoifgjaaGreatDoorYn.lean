/- Syntax in memory. -/
import Derived.Test.YtdiinlmeoifgjaaGreatDoorHn
import Derived.Deep.AppendLies
namespace Go.Proofs.YtdiinlmeoifgjaaGreatDoor
open Go.RowKit Go.PlainAid

/-- The slice value v holds the nodes l. -/
def XsAt (w : World) (v : Value) (l : List Sx) : Prop :=
  ∃ a n c, v = .slice a n c ∧ n = l.length ∧ n ≤ c ∧ (l = [] ∨ ∃ g off, a = some ⟨g, off, none⟩ ∧ g < w.heap.size ∧ ∀ (j : Nat) (u : Value), (xcs l)[j]? = some u → w.cell? ⟨g, off + j, none⟩ = some u)
theorem XsAt.below {B : Nat} {w w' : World} {v : Value} {l : List Sx} (h : XsAt w v l) (hb : Below B w w') (hB : w.heap.size ≤ B) : XsAt w' v l := by
  obtain ⟨a, n, c, e, hn, hc, h⟩ := h
  refine ⟨a, n, c, e, hn, hc, h.imp id ?_⟩
  rintro ⟨g, off, rfl, hg, hcell⟩
  exact ⟨g, off, rfl, Nat.lt_of_lt_of_le hg hb.size, fun j u hj => (hb.cell (p := ⟨g, off + j, none⟩) (by show g < B; omega)).trans (hcell j u hj)⟩
theorem XsAt.slice {w : World} {v : Value} {l : List Sx} (h : XsAt w v l) : ∃ a c, v = .slice a l.length c ∧ l.length ≤ c := by
  obtain ⟨a, n, c, e, hn, hc, _⟩ := h
  subst hn; exact ⟨a, c, e, hc⟩
/-- The cells of a node. -/
theorem XsAt.node {w : World} {a : Option Addr} {n c : Nat} {l : List Sx} (h : XsAt w (.slice a n c) l) {k : Nat} {x : Sx} (hk : l[k]? = some x) :
    ∃ g off, a = some ⟨g, off, none⟩ ∧ g < w.heap.size ∧ w.cell? ⟨g, off + k * 8, none⟩ = some (.int .i64 x.k) ∧ w.cell? ⟨g, off + k * 8 + 1, none⟩ = some (.int .i64 x.c) ∧ w.cell? ⟨g, off + k * 8 + 2, none⟩ = some (.int .i64 x.n) ∧ w.cell? ⟨g, off + k * 8 + 3, none⟩ = some (.string (str x.s)) ∧
      w.cell? ⟨g, off + k * 8 + 4, none⟩ = some (.string (str x.p)) ∧ w.cell? ⟨g, off + k * 8 + 5, none⟩ = some (.int .i64 x.f) ∧ w.cell? ⟨g, off + k * 8 + 6, none⟩ = some (.int .i64 x.t) ∧ w.cell? ⟨g, off + k * 8 + 7, none⟩ = some (.int .i64 x.o) := by
  obtain ⟨a', n', c', e, hn, hc, h⟩ := h
  obtain ⟨rfl, rfl, rfl⟩ := Value.slice.inj e
  rcases h with rfl | ⟨g, off, rfl, hg, hcell⟩
  · simp at hk
  · have H := fun j u hj => hcell (k * 8 + j) u (xcs_at l hk j u hj)
    have e : ∀ j, off + (k * 8 + j) = off + k * 8 + j := fun j => by omega
    simp only [e] at H
    exact ⟨g, off, rfl, hg, H 0 _ rfl, H 1 _ rfl, H 2 _ rfl, H 3 _ rfl, H 4 _ rfl, H 5 _ rfl, H 6 _ rfl, H 7 _ rfl⟩
theorem xs_nil (w : World) (a : Option Addr) (c : Nat) : XsAt w (.slice a 0 c) [] := ⟨a, 0, c, rfl, rfl, Nat.zero_le _, .inl rfl⟩
theorem xs_own {w : World} {B n : Nat} {v : Value} {l : List Sx} (h : w.ownsRow B 38 8 v n (xcs l)) (hn : l.length = n) : XsAt w v l := by
  rcases own_form h with ⟨rfl, h0⟩ | ⟨g, c, rfl, h1, h2⟩
  · obtain rfl : l = [] := List.length_eq_zero_iff.1 (by omega)
    subst h0; exact xs_nil _ _ _
  · have hc := (own_cap h).1
    refine ⟨_, n, c, rfl, hn.symm, hc, .inr ⟨g, 0, rfl, h2, fun j u hj => ?_⟩⟩
    have := h.cells (g := g) rfl j u hj
    rw [Go.WideShapes.add_plain] at this; exact this
theorem xs_take {w : World} {a : Option Addr} {n c i : Nat} {l : List Sx} (h : XsAt w (.slice a n c) l) (hi : i ≤ n) : XsAt w (.slice a i c) (l.take i) := by
  obtain ⟨a', n', c', e, hn, hc, h⟩ := h
  obtain ⟨rfl, rfl, rfl⟩ := Value.slice.inj e
  refine ⟨a, i, c, rfl, by rw [List.length_take]; omega, by omega, ?_⟩
  rcases h with rfl | ⟨g, off, rfl, hg, hcell⟩
  · left; simp
  · right
    refine ⟨g, off, rfl, hg, fun j u hj => hcell j u ?_⟩
    have e : xcs l = xcs (l.take i) ++ xcs (l.drop i) := by rw [← xcs_app, List.take_append_drop]
    rw [e, List.getElem?_append_left (List.getElem?_eq_some_iff.1 hj).1]; exact hj
theorem xs_drop {w : World} {a : Option Addr} {n c i : Nat} {l : List Sx} (h : XsAt w (.slice a n c) l) (hi : i ≤ n) (a2 : Option Addr) (n2 c2 : Nat) (hn2 : n2 = n - i) (hc2 : n2 ≤ c2) (ha : i < n → ∀ g off, a = some ⟨g, off, none⟩ → a2 = some ⟨g, off + i * 8, none⟩) : XsAt w (.slice a2 n2 c2) (l.drop i) := by
  obtain ⟨a', n', c', e, hn, hc, h⟩ := h
  obtain ⟨rfl, rfl, rfl⟩ := Value.slice.inj e
  refine ⟨a2, n2, c2, rfl, by rw [List.length_drop]; omega, hc2, ?_⟩
  by_cases hlt : i < n
  · rcases h with rfl | ⟨g, off, rfl, hg, hcell⟩
    · simp at hn; omega
    · right
      refine ⟨g, off + i * 8, ha hlt g off rfl, hg, fun j u hj => ?_⟩
      have e : xcs l = xcs (l.take i) ++ xcs (l.drop i) := by rw [← xcs_app, List.take_append_drop]
      have := hcell (i * 8 + j) u (by rw [e, List.getElem?_append_right (by rw [xcs_len, List.length_take]; omega), xcs_len, List.length_take, show i * 8 + j - min i l.length * 8 = j by rw [Nat.min_eq_left (by omega)]; omega]; exact hj)
      rw [← Nat.add_assoc] at this; exact this
  · left; exact List.drop_of_length_le (by omega)
/-- All strings are small. -/
def SmX (l : List Sx) : Prop := ∀ x ∈ l, x.s.length ≤ 100000 ∧ x.p.length ≤ 100000
/-- All numbers are ints. -/
def InX (l : List Sx) : Prop := ∀ x ∈ l, x.c ≤ 9223372036854775807
theorem box8_facts {W : World} {n : Nat} {x0 x1 x2 x3 x4 x5 x6 x7 : Value} {t : TypeId} (h : W.heap[n]? = some (.cells #[x0, x1, x2, x3, x4, x5, x6, x7] t (0, 0))) :
    W.cell? ⟨n, 0, none⟩ = some x0 ∧ W.cell? ⟨n, 1, none⟩ = some x1 ∧ W.cell? ⟨n, 2, none⟩ = some x2 ∧ W.cell? ⟨n, 3, none⟩ = some x3 ∧ W.cell? ⟨n, 4, none⟩ = some x4 ∧ W.cell? ⟨n, 5, none⟩ = some x5 ∧ W.cell? ⟨n, 6, none⟩ = some x6 ∧ W.cell? ⟨n, 7, none⟩ = some x7 := by
  refine ⟨?_, ?_, ?_, ?_, ?_, ?_, ?_, ?_⟩ <;> simp [World.cell?, h]
end Go.Proofs.YtdiinlmeoifgjaaGreatDoor
