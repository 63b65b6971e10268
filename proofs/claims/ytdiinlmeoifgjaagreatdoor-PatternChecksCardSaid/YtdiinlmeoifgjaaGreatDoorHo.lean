/- Identifiers and variables in memory; sets of identifiers in a map. -/
import Derived.Test.YtdiinlmeoifgjaaGreatDoorYn
namespace Go.Proofs.YtdiinlmeoifgjaaGreatDoor
open Go.RowKit Go.PlainAid

def pidC (q : Pid) : List Value := [.string (str q.1), .string (str q.2)]
def pcs (l : List Pid) : List Value := l.flatMap pidC
theorem pcs_cons (q : Pid) (l : List Pid) : pcs (q :: l) = .string (str q.1) :: .string (str q.2) :: pcs l := rfl
theorem pcs_app (a b : List Pid) : pcs (a ++ b) = pcs a ++ pcs b := List.flatMap_append
theorem pcs_one (q : Pid) : pcs [q] = pidC q := by unfold pcs; rw [List.flatMap_cons, List.flatMap_nil, List.append_nil]
theorem pcs_len (l : List Pid) : (pcs l).length = l.length * 2 := by
  induction l with
  | nil => rfl
  | cons x l ih => rw [pcs_cons]; simp only [List.length_cons, ih]; omega
theorem pcs_at (l : List Pid) : ∀ {k : Nat} {x : Pid}, l[k]? = some x → ∀ (j : Nat) (u : Value), (pidC x)[j]? = some u → (pcs l)[k * 2 + j]? = some u := by
  induction l with
  | nil => intro k x h; simp at h
  | cons y l ih =>
    intro k x h j u hj
    have hlen : (pidC y).length = 2 := rfl
    show ((pidC y) ++ pcs l)[k * 2 + j]? = some u
    cases k with
    | zero =>
      simp at h; subst h
      have hj8 : j < 2 := by have := (List.getElem?_eq_some_iff.1 hj).1; simpa [hlen] using this
      rw [List.getElem?_append_left (by rw [hlen]; omega), Nat.zero_mul, Nat.zero_add]; exact hj
    | succ k =>
      rw [List.getElem?_append_right (by rw [hlen]; omega), hlen, show (k + 1) * 2 + j - 2 = k * 2 + j by omega]
      exact ih (by simpa using h) j u hj
theorem one_pcs (l : List Pid) : ∀ u ∈ pcs l, u.oneCell' = true := by
  intro u hu; unfold pcs at hu; rw [List.mem_flatMap] at hu; obtain ⟨x, _, h⟩ := hu
  unfold pidC at h; simp at h; rcases h with rfl | rfl <;> rfl
/-- The slice value v holds the identifiers l. -/
def PsAt (w : World) (v : Value) (l : List Pid) : Prop :=
  ∃ a n c, v = .slice a n c ∧ n = l.length ∧ n ≤ c ∧ (l = [] ∨ ∃ g off, a = some ⟨g, off, none⟩ ∧ g < w.heap.size ∧ ∀ (j : Nat) (u : Value), (pcs l)[j]? = some u → w.cell? ⟨g, off + j, none⟩ = some u)
theorem PsAt.below {B : Nat} {w w' : World} {v : Value} {l : List Pid} (h : PsAt w v l) (hb : Below B w w') (hB : w.heap.size ≤ B) : PsAt w' v l := by
  obtain ⟨a, n, c, e, hn, hc, h⟩ := h
  refine ⟨a, n, c, e, hn, hc, h.imp id ?_⟩
  rintro ⟨g, off, rfl, hg, hcell⟩
  exact ⟨g, off, rfl, Nat.lt_of_lt_of_le hg hb.size, fun j u hj => (hb.cell (p := ⟨g, off + j, none⟩) (by show g < B; omega)).trans (hcell j u hj)⟩
theorem PsAt.slice {w : World} {v : Value} {l : List Pid} (h : PsAt w v l) : ∃ a c, v = .slice a l.length c ∧ l.length ≤ c := by
  obtain ⟨a, n, c, e, hn, hc, _⟩ := h
  subst hn; exact ⟨a, c, e, hc⟩
theorem PsAt.node {w : World} {a : Option Addr} {n c : Nat} {l : List Pid} (h : PsAt w (.slice a n c) l) {k : Nat} {x : Pid} (hk : l[k]? = some x) :
    ∃ g off, a = some ⟨g, off, none⟩ ∧ g < w.heap.size ∧ w.cell? ⟨g, off + k * 2, none⟩ = some (.string (str x.1)) ∧ w.cell? ⟨g, off + k * 2 + 1, none⟩ = some (.string (str x.2)) := by
  obtain ⟨a', n', c', e, hn, hc, h⟩ := h
  obtain ⟨rfl, rfl, rfl⟩ := Value.slice.inj e
  rcases h with rfl | ⟨g, off, rfl, hg, hcell⟩
  · simp at hk
  · have H := fun j u hj => hcell (k * 2 + j) u (pcs_at l hk j u hj)
    have e : ∀ j, off + (k * 2 + j) = off + k * 2 + j := fun j => by omega
    simp only [e] at H
    exact ⟨g, off, rfl, hg, H 0 _ rfl, H 1 _ rfl⟩
theorem ps_nil (w : World) (a : Option Addr) (c : Nat) : PsAt w (.slice a 0 c) [] := ⟨a, 0, c, rfl, rfl, Nat.zero_le _, .inl rfl⟩
theorem ps_own {w : World} {B n : Nat} {v : Value} {l : List Pid} (h : w.ownsRow B 40 2 v n (pcs l)) (hn : l.length = n) : PsAt w v l := by
  rcases own_form h with ⟨rfl, h0⟩ | ⟨g, c, rfl, h1, h2⟩
  · obtain rfl : l = [] := List.length_eq_zero_iff.1 (by omega)
    subst h0; exact ps_nil _ _ _
  · have hc := (own_cap h).1
    refine ⟨_, n, c, rfl, hn.symm, hc, .inr ⟨g, 0, rfl, h2, fun j u hj => ?_⟩⟩
    have := h.cells (g := g) rfl j u hj
    rw [Go.WideShapes.add_plain] at this; exact this

abbrev Pv := Pid × Nat
def pvC (q : Pv) : List Value := [.string (str q.1.1), .string (str q.1.2), .int .i64 (q.2 : Int)]
def vcs (l : List Pv) : List Value := l.flatMap pvC
theorem vcs_cons (q : Pv) (l : List Pv) : vcs (q :: l) = .string (str q.1.1) :: .string (str q.1.2) :: .int .i64 (q.2 : Int) :: vcs l := rfl
theorem vcs_app (a b : List Pv) : vcs (a ++ b) = vcs a ++ vcs b := List.flatMap_append
theorem vcs_one (q : Pv) : vcs [q] = pvC q := by unfold vcs; rw [List.flatMap_cons, List.flatMap_nil, List.append_nil]
theorem vcs_len (l : List Pv) : (vcs l).length = l.length * 3 := by
  induction l with
  | nil => rfl
  | cons x l ih => rw [vcs_cons]; simp only [List.length_cons, ih]; omega
theorem vcs_at (l : List Pv) : ∀ {k : Nat} {x : Pv}, l[k]? = some x → ∀ (j : Nat) (u : Value), (pvC x)[j]? = some u → (vcs l)[k * 3 + j]? = some u := by
  induction l with
  | nil => intro k x h; simp at h
  | cons y l ih =>
    intro k x h j u hj
    have hlen : (pvC y).length = 3 := rfl
    show ((pvC y) ++ vcs l)[k * 3 + j]? = some u
    cases k with
    | zero =>
      simp at h; subst h
      have hj8 : j < 3 := by have := (List.getElem?_eq_some_iff.1 hj).1; simpa [hlen] using this
      rw [List.getElem?_append_left (by rw [hlen]; omega), Nat.zero_mul, Nat.zero_add]; exact hj
    | succ k =>
      rw [List.getElem?_append_right (by rw [hlen]; omega), hlen, show (k + 1) * 3 + j - 3 = k * 3 + j by omega]
      exact ih (by simpa using h) j u hj
theorem one_vcs (l : List Pv) : ∀ u ∈ vcs l, u.oneCell' = true := by
  intro u hu; unfold vcs at hu; rw [List.mem_flatMap] at hu; obtain ⟨x, _, h⟩ := hu
  unfold pvC at h; simp at h; rcases h with rfl | rfl | rfl <;> rfl
/-- The slice value v holds the variables l; a depth may be any number. -/
abbrev Pw := Pid × Int
def pwC (q : Pw) : List Value := [.string (str q.1.1), .string (str q.1.2), .int .i64 q.2]
def wcs (l : List Pw) : List Value := l.flatMap pwC
def toW (l : List Pv) : List Pw := l.map fun q => (q.1, (q.2 : Int))
theorem toW_cs (l : List Pv) : wcs (toW l) = vcs l := by
  unfold wcs toW vcs
  rw [List.flatMap_map]; rfl
theorem toW_len (l : List Pv) : (toW l).length = l.length := List.length_map ..
theorem wcs_at (l : List Pw) : ∀ {k : Nat} {x : Pw}, l[k]? = some x → ∀ (j : Nat) (u : Value), (pwC x)[j]? = some u → (wcs l)[k * 3 + j]? = some u := by
  induction l with
  | nil => intro k x h; simp at h
  | cons y l ih =>
    intro k x h j u hj
    have hlen : (pwC y).length = 3 := rfl
    show ((pwC y) ++ wcs l)[k * 3 + j]? = some u
    cases k with
    | zero =>
      simp at h; subst h
      have hj8 : j < 3 := by have := (List.getElem?_eq_some_iff.1 hj).1; simpa [hlen] using this
      rw [List.getElem?_append_left (by rw [hlen]; omega), Nat.zero_mul, Nat.zero_add]; exact hj
    | succ k =>
      rw [List.getElem?_append_right (by rw [hlen]; omega), hlen, show (k + 1) * 3 + j - 3 = k * 3 + j by omega]
      exact ih (by simpa using h) j u hj
def WsAt (w : World) (v : Value) (l : List Pw) : Prop :=
  ∃ a n c, v = .slice a n c ∧ n = l.length ∧ n ≤ c ∧ (l = [] ∨ ∃ g off, a = some ⟨g, off, none⟩ ∧ g < w.heap.size ∧ ∀ (j : Nat) (u : Value), (wcs l)[j]? = some u → w.cell? ⟨g, off + j, none⟩ = some u)
theorem WsAt.below {B : Nat} {w w' : World} {v : Value} {l : List Pw} (h : WsAt w v l) (hb : Below B w w') (hB : w.heap.size ≤ B) : WsAt w' v l := by
  obtain ⟨a, n, c, e, hn, hc, h⟩ := h
  refine ⟨a, n, c, e, hn, hc, h.imp id ?_⟩
  rintro ⟨g, off, rfl, hg, hcell⟩
  exact ⟨g, off, rfl, Nat.lt_of_lt_of_le hg hb.size, fun j u hj => (hb.cell (p := ⟨g, off + j, none⟩) (by show g < B; omega)).trans (hcell j u hj)⟩
theorem WsAt.slice {w : World} {v : Value} {l : List Pw} (h : WsAt w v l) : ∃ a c, v = .slice a l.length c ∧ l.length ≤ c := by
  obtain ⟨a, n, c, e, hn, hc, _⟩ := h
  subst hn; exact ⟨a, c, e, hc⟩
theorem WsAt.node {w : World} {a : Option Addr} {n c : Nat} {l : List Pw} (h : WsAt w (.slice a n c) l) {k : Nat} {x : Pw} (hk : l[k]? = some x) :
    ∃ g off, a = some ⟨g, off, none⟩ ∧ g < w.heap.size ∧ w.cell? ⟨g, off + k * 3, none⟩ = some (.string (str x.1.1)) ∧ w.cell? ⟨g, off + k * 3 + 1, none⟩ = some (.string (str x.1.2)) ∧ w.cell? ⟨g, off + k * 3 + 2, none⟩ = some (.int .i64 x.2) := by
  obtain ⟨a', n', c', e, hn, hc, h⟩ := h
  obtain ⟨rfl, rfl, rfl⟩ := Value.slice.inj e
  rcases h with rfl | ⟨g, off, rfl, hg, hcell⟩
  · simp at hk
  · have H := fun j u hj => hcell (k * 3 + j) u (wcs_at l hk j u hj)
    have e : ∀ j, off + (k * 3 + j) = off + k * 3 + j := fun j => by omega
    simp only [e] at H
    exact ⟨g, off, rfl, hg, H 0 _ rfl, H 1 _ rfl, H 2 _ rfl⟩
theorem ws_nil (w : World) (a : Option Addr) (c : Nat) : WsAt w (.slice a 0 c) [] := ⟨a, 0, c, rfl, rfl, Nat.zero_le _, .inl rfl⟩
theorem ws_own {w : World} {B n : Nat} {v : Value} {l : List Pv} (h : w.ownsRow B 45 3 v n (vcs l)) (hn : l.length = n) : WsAt w v (toW l) := by
  rcases own_form h with ⟨rfl, h0⟩ | ⟨g, c, rfl, h1, h2⟩
  · obtain rfl : l = [] := List.length_eq_zero_iff.1 (by omega)
    subst h0; exact ws_nil _ _ _
  · have hc := (own_cap h).1
    refine ⟨_, n, c, rfl, by rw [toW_len, hn], hc, .inr ⟨g, 0, rfl, h2, fun j u hj => ?_⟩⟩
    rw [toW_cs] at hj
    have := h.cells (g := g) rfl j u hj
    rw [Go.WideShapes.add_plain] at this; exact this

/-- A block that is a map whose keys are identifiers, all of them true. -/
def keyV (q : Pid) : Value := .agg #[.string (str q.1), .string (str q.2)]
def MapB (w : World) (m : Nat) (L : List Pid) : Prop :=
  ∃ es ck, w.heap[m]? = some (.map es ck) ∧ es.toList.map (fun e => (e.key, e.val)) = L.map (fun q => (keyV q, Value.bool true))
theorem MapB.below {B : Nat} {w w' : World} {m : Nat} {L : List Pid} (h : MapB w m L) (hb : Below B w w') (hm : m < B) : MapB w' m L := by
  obtain ⟨es, ck, h1, h2⟩ := h
  exact ⟨es, ck, (hb.block m hm).trans h1, h2⟩
theorem MapB.lt {w : World} {m : Nat} {L : List Pid} (h : MapB w m L) : m < w.heap.size := by
  obtain ⟨es, ck, h1, _⟩ := h
  exact (Array.getElem?_eq_some_iff.1 h1).1
theorem MapB.same {w w' : World} {m : Nat} {L : List Pid} (h : MapB w m L) (hb : w'.heap[m]? = w.heap[m]?) : MapB w' m L := by
  obtain ⟨es, ck, h1, h2⟩ := h
  exact ⟨es, ck, hb.trans h1, h2⟩
theorem mapB_made (w : World) : MapB (w.alloc (.map #[] 0)) w.heap.size [] := ⟨#[], 0, World.alloc_heap_new _ _, rfl⟩
end Go.Proofs.YtdiinlmeoifgjaaGreatDoor
