/- Laws of sets, and which numbers are in a list (mathematics). -/
import Derived.Test.YtbkkmcfpjpbhaaaSn
namespace Go.Proofs.Ytbkkmcfpjpbhaaa

theorem flip_flip {l : List Nat} (hl : asc l) (a : Nat) : mg true false true (mg true false true l [a]) [a] = l := by
  have h1 := asc_mg' (f := true) (b := false) (s := true) hl (asc_one a)
  refine asc_ext (asc_mg' h1 (asc_one a)) hl fun z => ?_
  rw [mem_mg' h1 (asc_one a), mem_mg' hl (asc_one a)]
  by_cases h2 : z ∈ l <;> by_cases h3 : z = a <;> simp [h2, h3]
theorem flip_comm {l : List Nat} (hl : asc l) (a b : Nat) : mg true false true (mg true false true l [a]) [b] = mg true false true (mg true false true l [b]) [a] := by
  have h1 := asc_mg' (f := true) (b := false) (s := true) hl (asc_one a)
  have h2 := asc_mg' (f := true) (b := false) (s := true) hl (asc_one b)
  refine asc_ext (asc_mg' h1 (asc_one b)) (asc_mg' h2 (asc_one a)) fun z => ?_
  rw [mem_mg' h1 (asc_one b), mem_mg' h2 (asc_one a), mem_mg' hl (asc_one a), mem_mg' hl (asc_one b)]
  by_cases h2 : z ∈ l <;> by_cases h3 : z = a <;> by_cases h4 : z = b <;> simp_all
theorem flip_mem {l : List Nat} (hl : asc l) (a z : Nat) : z ∈ mg true false true l [a] ↔ (if z = a then z ∉ l else z ∈ l) := by
  rw [mem_mg' hl (asc_one a)]
  by_cases h2 : z ∈ l <;> by_cases h3 : z = a <;> simp [h2, h3]
abbrev un (a b : List Nat) : List Nat := mg true true true a b
abbrev me (a b : List Nat) : List Nat := mg false true false a b
abbrev mi (a b : List Nat) : List Nat := mg true false false a b
theorem asc_un {a b : List Nat} (ha : asc a) (hb : asc b) : asc (un a b) := asc_mg' ha hb
theorem asc_me {a b : List Nat} (ha : asc a) (hb : asc b) : asc (me a b) := asc_mg' ha hb
theorem asc_mi {a b : List Nat} (ha : asc a) (hb : asc b) : asc (mi a b) := asc_mg' ha hb
theorem mem_un {a b : List Nat} (ha : asc a) (hb : asc b) (z : Nat) : z ∈ un a b ↔ z ∈ a ∨ z ∈ b := by
  rw [mem_mg' ha hb]; by_cases h1 : z ∈ a <;> by_cases h2 : z ∈ b <;> simp [h1, h2]
theorem mem_me {a b : List Nat} (ha : asc a) (hb : asc b) (z : Nat) : z ∈ me a b ↔ z ∈ a ∧ z ∈ b := by
  rw [mem_mg' ha hb]; by_cases h1 : z ∈ a <;> by_cases h2 : z ∈ b <;> simp [h1, h2]
theorem mem_mi {a b : List Nat} (ha : asc a) (hb : asc b) (z : Nat) : z ∈ mi a b ↔ z ∈ a ∧ z ∉ b := by
  rw [mem_mg' ha hb]; by_cases h1 : z ∈ a <;> by_cases h2 : z ∈ b <;> simp [h1, h2]
theorem un_comm {a b : List Nat} (ha : asc a) (hb : asc b) : un a b = un b a :=
  asc_ext (asc_un ha hb) (asc_un hb ha) fun z => by rw [mem_un ha hb, mem_un hb ha, or_comm]
theorem me_comm {a b : List Nat} (ha : asc a) (hb : asc b) : me a b = me b a :=
  asc_ext (asc_me ha hb) (asc_me hb ha) fun z => by rw [mem_me ha hb, mem_me hb ha, and_comm]
theorem un_assoc {a b c : List Nat} (ha : asc a) (hb : asc b) (hc : asc c) : un (un a b) c = un a (un b c) :=
  asc_ext (asc_un (asc_un ha hb) hc) (asc_un ha (asc_un hb hc)) fun z => by rw [mem_un (asc_un ha hb) hc, mem_un ha hb, mem_un ha (asc_un hb hc), mem_un hb hc, or_assoc]
theorem me_assoc {a b c : List Nat} (ha : asc a) (hb : asc b) (hc : asc c) : me (me a b) c = me a (me b c) :=
  asc_ext (asc_me (asc_me ha hb) hc) (asc_me ha (asc_me hb hc)) fun z => by rw [mem_me (asc_me ha hb) hc, mem_me ha hb, mem_me ha (asc_me hb hc), mem_me hb hc, and_assoc]
theorem me_un {a b c : List Nat} (ha : asc a) (hb : asc b) (hc : asc c) : me a (un b c) = un (me a b) (me a c) :=
  asc_ext (asc_me ha (asc_un hb hc)) (asc_un (asc_me ha hb) (asc_me ha hc)) fun z => by rw [mem_me ha (asc_un hb hc), mem_un hb hc, mem_un (asc_me ha hb) (asc_me ha hc), mem_me ha hb, mem_me ha hc, and_or_left]
theorem sub_mi {a b : List Nat} (ha : asc a) (hb : asc b) : mi a b = [] ↔ ∀ z ∈ a, z ∈ b := by
  rw [List.eq_nil_iff_forall_not_mem]
  constructor
  · intro h z hz
    by_cases e : z ∈ b
    · exact e
    · exact absurd ((mem_mi ha hb z).2 ⟨hz, e⟩) (h z)
  · intro h z hz
    have := (mem_mi ha hb z).1 hz
    exact this.2 (h z this.1)
theorem sub_un {a b : List Nat} (ha : asc a) (hb : asc b) : un a b = b ↔ ∀ z ∈ a, z ∈ b := by
  constructor
  · intro h z hz; rw [← h]; exact (mem_un ha hb z).2 (.inl hz)
  · intro h; refine asc_ext (asc_un ha hb) hb fun z => ?_
    rw [mem_un ha hb]; exact ⟨fun h2 => h2.elim (h z) id, .inr⟩
theorem sub_me {a b : List Nat} (ha : asc a) (hb : asc b) : me a b = a ↔ ∀ z ∈ a, z ∈ b := by
  constructor
  · intro h z hz; rw [← h] at hz; exact ((mem_me ha hb z).1 hz).2
  · intro h; refine asc_ext (asc_me ha hb) ha fun z => ?_
    rw [mem_me ha hb]; exact ⟨fun h2 => h2.1, fun h2 => ⟨h2, h z h2⟩⟩
theorem mi_me {a b : List Nat} (ha : asc a) (hb : asc b) : un (mi a b) (me a b) = a :=
  asc_ext (asc_un (asc_mi ha hb) (asc_me ha hb)) ha fun z => by
    rw [mem_un (asc_mi ha hb) (asc_me ha hb), mem_mi ha hb, mem_me ha hb]
    by_cases h1 : z ∈ a <;> by_cases h2 : z ∈ b <;> simp [h1, h2]
theorem mi_none {a b : List Nat} (ha : asc a) (hb : asc b) : me (mi a b) b = [] := by
  rw [List.eq_nil_iff_forall_not_mem]
  intro z hz
  rw [mem_me (asc_mi ha hb) hb, mem_mi ha hb] at hz
  exact hz.1.2 hz.2
theorem mi_mi {a b : List Nat} (ha : asc a) (hb : asc b) : mi a (mi a b) = me a b :=
  asc_ext (asc_mi ha (asc_mi ha hb)) (asc_me ha hb) fun z => by
    rw [mem_mi ha (asc_mi ha hb), mem_mi ha hb, mem_me ha hb]
    by_cases h1 : z ∈ a <;> by_cases h2 : z ∈ b <;> simp [h1, h2]
theorem first_le (f b : Bool) : ∀ (k : Nat) (l m : List Nat), l.length + m.length ≤ k → (mg f b false l m).length ≤ l.length := by
  intro k
  induction k with
  | zero =>
    intro l m h
    obtain rfl : l = [] := List.eq_nil_of_length_eq_zero (by omega)
    obtain rfl : m = [] := List.eq_nil_of_length_eq_zero (by omega)
    rw [mg_nil]; simp
  | succ k ih =>
    intro l m h
    cases l with
    | nil => rw [mg_nil]; simp
    | cons x l =>
      cases m with
      | nil => rw [mg_nil2]; cases f <;> simp
      | cons y m =>
        simp only [List.length_cons] at h
        by_cases h1 : x < y
        · rw [mg_lt h1, List.length_append]
          have := ih l (y :: m) (by simp only [List.length_cons]; omega)
          simp only [List.length_cons] at *
          cases f <;> simp <;> omega
        · by_cases h2 : y < x
          · rw [mg_gt h2, List.length_append]
            have := ih (x :: l) m (by simp only [List.length_cons]; omega)
            simp only [List.length_cons] at *
            simp; omega
          · rw [mg_eq (by omega), List.length_append]
            have := ih l m (by omega)
            simp only [List.length_cons] at *
            cases b <;> simp <;> omega
theorem mi_le (a b : List Nat) : (mi a b).length ≤ a.length := first_le _ _ _ a b (Nat.le_refl _)
theorem me_le (a b : List Nat) : (me a b).length ≤ a.length := first_le _ _ _ a b (Nat.le_refl _)
/-- The reference puts scopes in one by one, and takes them out one by one. -/
theorem un_put {a b : List Nat} {n : Nat} {k : Nat} (ha : asc a) (hb : asc b) (hk : b[k]? = some n) : un (un a (b.take k)) [n] = un a (b.take (k + 1)) := by
  have h1 : asc (b.take k) := List.Pairwise.sublist (List.take_sublist ..) hb
  have h2 : asc (b.take (k + 1)) := List.Pairwise.sublist (List.take_sublist ..) hb
  refine asc_ext (asc_un (asc_un ha h1) (asc_one n)) (asc_un ha h2) fun z => ?_
  rw [mem_un (asc_un ha h1) (asc_one n), mem_un ha h1, mem_un ha h2, List.take_add_one, hk]
  simp [or_assoc]
theorem mi_cut {a b : List Nat} {n : Nat} {k : Nat} (ha : asc a) (hb : asc b) (hk : b[k]? = some n) : mi (mi a (b.take k)) [n] = mi a (b.take (k + 1)) := by
  have h1 : asc (b.take k) := List.Pairwise.sublist (List.take_sublist ..) hb
  have h2 : asc (b.take (k + 1)) := List.Pairwise.sublist (List.take_sublist ..) hb
  refine asc_ext (asc_mi (asc_mi ha h1) (asc_one n)) (asc_mi ha h2) fun z => ?_
  rw [mem_mi (asc_mi ha h1) (asc_one n), mem_mi ha h1, mem_mi ha h2, List.take_add_one, hk]
  simp only [List.mem_singleton, List.mem_append, Option.toList_some]
  by_cases h3 : z ∈ a <;> by_cases h4 : z = n <;> by_cases h5 : z ∈ b.take k <;> simp [h3, h4, h5]
theorem un_nil {a : List Nat} : un a [] = a := by rw [un, mg_nil2]; rfl
theorem mi_nil {a : List Nat} : mi a [] = a := by rw [mi, mg_nil2]; rfl
/-- Numbers that are no scopes. -/
def badOf (l : List Int) : Bool := l.any fun n => decide (n < 0) || decide (65535 < n)
def ofL (l : List Int) : List Nat := (List.range 65536).filter fun n => decide ((n : Int) ∈ l)
def ofS (l : List Int) : List UInt8 × Int := if badOf l then ([], 7) else if 10000 < (ofL l).length then ([], 3) else (setL (ofL l), 0)
theorem asc_range (n : Nat) : asc (List.range n) := List.pairwise_lt_range
theorem asc_of (l : List Int) : asc (ofL l) := List.Pairwise.filter _ (asc_range _)
theorem of_lt (l : List Int) : ∀ n ∈ ofL l, n < 65536 := fun n h => by
  have := (List.mem_filter.1 h).1; rwa [List.mem_range] at this
theorem bad_not {l : List Int} (h : badOf l = false) : ∀ n ∈ l, 0 ≤ n ∧ n ≤ 65535 := by
  intro n hn
  unfold badOf at h
  rw [List.any_eq_false] at h
  have := h n hn
  simp at this; omega
theorem bad_yes' {l : List Int} {n : Int} (hn : n ∈ l) (h : n < 0 ∨ 65535 < n) : badOf l = true := by
  unfold badOf; rw [List.any_eq_true]; exact ⟨n, hn, by simpa using h⟩
theorem bad_not' {l : List Int} (h : ∀ n ∈ l, 0 ≤ n ∧ n ≤ 65535) : badOf l = false := by
  unfold badOf; rw [List.any_eq_false]; intro n hn; have := h n hn; simp; omega
theorem mem_of {l : List Int} (h : badOf l = false) (z : Nat) : z ∈ ofL l ↔ (z : Int) ∈ l := by
  unfold ofL
  rw [List.mem_filter, List.mem_range, decide_eq_true_iff]
  exact ⟨fun h => h.2, fun h2 => ⟨by have := bad_not h _ h2; omega, h2⟩⟩
/-- Of of the scopes of a set is the set. -/
theorem of_ids {l : List Nat} (hl : asc l) (h : ∀ n ∈ l, n < 65536) : badOf (l.map fun n : Nat => (n : Int)) = false ∧ ofL (l.map fun n : Nat => (n : Int)) = l := by
  have hb : badOf (l.map fun n : Nat => (n : Int)) = false := bad_not' fun n hn => by
    obtain ⟨m, hm, rfl⟩ := List.mem_map.1 hn
    have := h m hm; omega
  refine ⟨hb, asc_ext (asc_of _) hl fun z => ?_⟩
  rw [mem_of hb, List.mem_map]
  exact ⟨fun ⟨m, hm, e⟩ => by have : m = z := by omega
                              rwa [← this], fun hz => ⟨z, hz, rfl⟩⟩
end Go.Proofs.Ytbkkmcfpjpbhaaa
