import Derived.Lib.SlicesCompact
import Derived.Test.YtkngkajojcmmlaaGreatDoorZk
import Derived.Maps.AppendAt
import Derived.Test.YtkngkajojcmmlaaGreatDoorShelfS
import Derived.Sort.OwnSorted
import Derived.Lib.RowBridge
/- Sets of strings, in order: mathematics. -/
namespace Go.Proofs.YtkngkajojcmmlaaGreatDoor

abbrev Ls := List (List UInt8)
def leB (x y : List UInt8) : Bool := decide (x ≤ y)
theorem s_irr (x : List UInt8) : ¬ x < x := List.lt_irrefl x
theorem s_trans {x y z : List UInt8} (h : x < y) (h' : y < z) : x < z := List.lt_trans h h'
theorem s_cases (x y : List UInt8) : x < y ∨ x = y ∨ y < x := by
  by_cases h : x ≤ y
  · by_cases h' : y ≤ x
    · exact .inr (.inl (List.le_antisymm h h'))
    · exact .inl (List.not_le.1 h')
  · exact .inr (.inr (List.not_le.1 h))
theorem s_le {x y : List UInt8} : x ≤ y ↔ x < y ∨ x = y := by
  constructor
  · intro h
    rcases s_cases x y with h1 | h1 | h1
    · exact .inl h1
    · exact .inr h1
    · exact absurd h (List.not_le.2 h1)
  · rintro (h | rfl)
    · exact List.le_of_lt h
    · exact List.le_refl x
theorem s_lt_le {x y z : List UInt8} (h : x ≤ y) (h' : y < z) : x < z := by
  rcases s_le.1 h with h1 | rfl
  · exact s_trans h1 h'
  · exact h'

/-- l' has just the strings of l, ascending, each once. -/
def SymS (l l' : Ls) : Prop := l'.Pairwise (· < ·) ∧ ∀ x, x ∈ l' ↔ x ∈ l
theorem asc_uniq : ∀ {a b : Ls}, a.Pairwise (· < ·) → b.Pairwise (· < ·) → (∀ x, x ∈ a ↔ x ∈ b) → a = b := by
  intro a
  induction a with
  | nil =>
    intro b _ _ h
    cases b with
    | nil => rfl
    | cons y b => have := (h y).2 (by simp); simp at this
  | cons x a ih =>
    intro b ha hb h
    cases b with
    | nil => have := (h x).1 (by simp); simp at this
    | cons y b =>
      obtain ⟨a1, a2⟩ := List.pairwise_cons.1 ha
      obtain ⟨b1, b2⟩ := List.pairwise_cons.1 hb
      have hxy : x = y := by
        rcases List.mem_cons.1 ((h x).1 (by simp)) with e | e
        · exact e
        · rcases List.mem_cons.1 ((h y).2 (by simp)) with e' | e'
          · exact e'.symm
          · exact absurd (s_trans (a1 y e') (b1 x e)) (s_irr x)
      subst hxy
      congr 1
      refine ih a2 b2 fun z => ⟨fun hz => ?_, fun hz => ?_⟩
      · rcases List.mem_cons.1 ((h z).1 (by simp [hz])) with e | e
        · exact absurd (e ▸ a1 z hz) (s_irr _)
        · exact e
      · rcases List.mem_cons.1 ((h z).2 (by simp [hz])) with e | e
        · exact absurd (e ▸ b1 z hz) (s_irr _)
        · exact e
theorem SymS.uniq {l a b : Ls} (ha : SymS l a) (hb : SymS l b) : a = b := asc_uniq ha.1 hb.1 fun x => (ha.2 x).trans (hb.2 x).symm

theorem sort_asc (l : Ls) : (l.mergeSort leB).Pairwise (· ≤ ·) := by
  have := List.pairwise_mergeSort (le := leB) (fun a b c h1 h2 => by
    unfold leB at *; simp only [decide_eq_true_eq] at *; exact List.le_trans h1 h2) (fun a b => by
    unfold leB; simp only [Bool.or_eq_true, decide_eq_true_eq]; exact List.le_total a b) l
  exact this.imp fun h => by unfold leB at h; simpa using h
theorem sort_mem (l : Ls) (x : List UInt8) : x ∈ l.mergeSort leB ↔ x ∈ l := List.mem_mergeSort
theorem sort_perm (l : Ls) : (l.mergeSort leB).Perm l := List.mergeSort_perm l leB

/-- The first m strings of a row that ascends, each once. -/
theorem upTo_asc {s : Ls} (h : s.Pairwise (· ≤ ·)) : ∀ m, m ≤ s.length → (Lib.compactUpTo s.toArray m).Pairwise (· < ·) ∧ ∀ x, x ∈ Lib.compactUpTo s.toArray m ↔ x ∈ s.take m := by
  intro m
  induction m with
  | zero => intro _; simp [Lib.compactUpTo]
  | succ m ih =>
    intro hm
    obtain ⟨h1, h2⟩ := ih (by omega)
    have hms : m < s.length := hm
    have hget : s.toArray[m]! = s[m] := by rw [getElem!_pos s.toArray m (by simpa using hms)]; simp
    have hle : ∀ j (hj : j < m), s[j] ≤ s[m] := fun j hj => List.pairwise_iff_getElem.1 h j m (by omega) hms hj
    rw [Lib.compactUpTo_succ, hget]
    have htk : s.take (m + 1) = s.take m ++ [s[m]] := List.take_succ_eq_append_getElem hms
    by_cases hk : Lib.keeps s.toArray m = true
    · rw [if_pos hk]
      refine ⟨List.pairwise_append.2 ⟨h1, by simp, fun x hx y hy => ?_⟩, fun x => by rw [List.mem_append, htk, List.mem_append, h2]⟩
      obtain rfl : y = s[m] := by simpa using hy
      obtain ⟨j, hj, rfl⟩ := List.mem_take_iff_getElem.1 ((h2 x).1 hx)
      have hjm : j < m := by omega
      unfold Lib.keeps at hk
      simp only [decide_eq_true_eq] at hk
      have hm0 : m ≠ 0 := by omega
      have hne : s[m] ≠ s[m - 1] := by
        rcases hk with e | e
        · exact absurd e hm0
        · rw [hget, getElem!_pos s.toArray (m - 1) (by simp; omega)] at e
          simpa using e
      have hp : s[m - 1] < s[m] := by
        rcases s_le.1 (hle (m - 1) (by omega)) with e | e
        · exact e
        · exact absurd e.symm hne
      by_cases hjm1 : j = m - 1
      · subst hjm1; exact hp
      · exact s_lt_le (List.pairwise_iff_getElem.1 h j (m - 1) (by omega) (by omega) (by omega)) hp
    · rw [if_neg hk, List.append_nil]
      refine ⟨h1, fun x => ?_⟩
      rw [h2, htk, List.mem_append]
      refine ⟨.inl, ?_⟩
      rintro (e | e)
      · exact e
      · obtain rfl : x = s[m] := by simpa using e
        unfold Lib.keeps at hk
        simp only [decide_eq_true_eq, not_or, Decidable.not_not] at hk
        obtain ⟨k1, k2⟩ := hk
        rw [hget, getElem!_pos s.toArray (m - 1) (by simp; omega)] at k2
        refine List.mem_take_iff_getElem.2 ⟨m - 1, by omega, ?_⟩
        simpa using k2.symm
theorem compact_asc {s : Ls} (h : s.Pairwise (· ≤ ·)) : SymS s (Lib.compact s) := by
  obtain ⟨h1, h2⟩ := upTo_asc h s.length (Nat.le_refl _)
  rw [List.take_length] at h2
  exact ⟨h1, h2⟩
theorem SymS.of_mem {l m a : Ls} (h : SymS l a) (hm : ∀ x, x ∈ l ↔ x ∈ m) : SymS m a := ⟨h.1, fun x => (h.2 x).trans (hm x)⟩
/-- What the program makes. -/
theorem prog_sym (l : Ls) : SymS l (Lib.compact (l.mergeSort leB)) := (compact_asc (sort_asc l)).of_mem fun x => sort_mem l x
theorem asc_nodup {l : Ls} (h : l.Pairwise (· < ·)) : l.Nodup := h.imp fun {a b} hab e => by subst e; exact s_irr a hab
theorem filter_all {α : Type} {p : α → Bool} : ∀ {l : List α}, (l.filter p).length = l.length → ∀ x ∈ l, p x = true := fun h x hx => by
  have h1 := List.length_filter_eq_length_iff.1 h
  exact h1 x hx
theorem compact_len (s : Ls) : (Lib.compact s).length = s.length ↔ Lib.compact s = s := by
  constructor
  · intro h
    refine Lib.compact_all s fun j hj => ?_
    unfold Lib.compact Lib.compactUpTo at h
    rw [List.length_map] at h
    exact filter_all (l := List.range s.length) (p := Lib.keeps s.toArray) (by rw [List.length_range]; exact h) j (List.mem_range.2 hj)
  · intro h; rw [h]
/-- How the program finds what is there twice. -/
theorem twice_iff (l : Ls) : (Lib.compact (l.mergeSort leB)).length < l.length ↔ ¬ l.Nodup := by
  have hl : (l.mergeSort leB).length = l.length := List.length_mergeSort l
  have hle : (Lib.compact (l.mergeSort leB)).length ≤ l.length := by
    rw [← hl]
    unfold Lib.compact Lib.compactUpTo
    rw [List.length_map]
    exact Nat.le_trans (List.length_filter_le _ _) (by rw [List.length_range]; exact Nat.le_refl _)
  have key : (Lib.compact (l.mergeSort leB)).length = l.length ↔ l.Nodup := by
    rw [← hl, compact_len]
    constructor
    · intro h
      have := asc_nodup (prog_sym l).1
      rw [h] at this
      exact (sort_perm l).nodup_iff.1 this
    · intro h
      have hn : (l.mergeSort leB).Nodup := (sort_perm l).nodup_iff.2 h
      refine Lib.compact_all _ fun j hj => ?_
      unfold Lib.keeps
      simp only [decide_eq_true_eq]
      by_cases hj0 : j = 0
      · exact .inl hj0
      · refine .inr ?_
        rw [getElem!_pos _ j (by simpa using hj), getElem!_pos _ (j - 1) (by simp; omega)]
        intro e
        have := (List.nodup_iff_pairwise_ne.1 hn)
        have h2 := List.pairwise_iff_getElem.1 this (j - 1) j (by omega) hj (by omega)
        exact h2 (by simpa using e.symm)
  constructor
  · intro h h'; rw [key.2 h'] at h; omega
  · intro h
    rcases Nat.lt_or_ge (Lib.compact (l.mergeSort leB)).length l.length with h1 | h1
    · exact h1
    · exact absurd (key.1 (Nat.le_antisymm hle h1)) h

/-- Where a string stands in a list, from k on; -1: nowhere. -/
def plcF (s : List UInt8) : Ls → Nat → Int
  | [], _ => -1
  | x :: r, k => if x = s then (k : Int) else plcF s r (k + 1)
def plcS (l : Ls) (s : List UInt8) : Int := plcF s l 0
theorem plcF_cases (s : List UInt8) : ∀ (l : Ls) (k : Nat), (plcF s l k = -1 ∧ s ∉ l) ∨ ∃ j : Nat, plcF s l k = ((k + j : Nat) : Int) ∧ l[j]? = some s ∧ ∀ i, i < j → l[i]? ≠ some s := by
  intro l
  induction l with
  | nil => intro k; exact .inl ⟨rfl, by simp⟩
  | cons x r ih =>
    intro k
    unfold plcF
    by_cases h : x = s
    · subst h; rw [if_pos rfl]; exact .inr ⟨0, rfl, rfl, fun i hi => by omega⟩
    · rw [if_neg h]
      rcases ih (k + 1) with ⟨h1, h2⟩ | ⟨j, h1, h2, h3⟩
      · exact .inl ⟨h1, by simp [h2]; exact fun e => h e.symm⟩
      · refine .inr ⟨j + 1, by rw [h1, show k + 1 + j = k + (j + 1) by omega], by simpa using h2, fun i hi => ?_⟩
        cases i with
        | zero => simp [h]
        | succ i => simpa using h3 i (by omega)
theorem plcS_cases (l : Ls) (s : List UInt8) : (plcS l s = -1 ∧ s ∉ l) ∨ ∃ j : Nat, plcS l s = (j : Int) ∧ l[j]? = some s ∧ ∀ i, i < j → l[i]? ≠ some s := by
  have := plcF_cases s l 0
  simpa [plcS] using this
theorem plcS_at {l : Ls} {s : List UInt8} {j : Nat} (h : l[j]? = some s) (hf : ∀ i, i < j → l[i]? ≠ some s) : plcS l s = (j : Int) := by
  rcases plcS_cases l s with ⟨_, h2⟩ | ⟨k, h1, h2, h3⟩
  · exact absurd (List.mem_of_getElem? h) h2
  · rw [h1]
    rcases Nat.lt_trichotomy j k with h4 | h4 | h4
    · exact absurd h (h3 j h4)
    · rw [h4]
    · exact absurd h2 (hf k h4)
theorem plcS_none {l : Ls} {s : List UInt8} (h : s ∉ l) : plcS l s = -1 := by
  rcases plcS_cases l s with ⟨h1, _⟩ | ⟨k, _, h2, _⟩
  · exact h1
  · exact absurd (List.mem_of_getElem? h2) h
/-- How the reference finds what is there twice. -/
theorem nodup_iff_plc (l : Ls) : l.Nodup ↔ ∀ (i : Nat) s, l[i]? = some s → (i : Int) ≤ plcS l s := by
  rw [List.nodup_iff_pairwise_ne, List.pairwise_iff_getElem]
  constructor
  · intro h i s hs
    rw [plcS_at hs fun k hk hks => ?_]
    · exact Int.le_refl _
    · obtain ⟨hi, rfl⟩ := List.getElem?_eq_some_iff.1 hs
      obtain ⟨hk', e⟩ := List.getElem?_eq_some_iff.1 hks
      exact h k i hk' hi hk e
  · intro h i j hi hj hij e
    have h1 := h j _ (List.getElem?_eq_getElem hj)
    rcases plcS_cases l l[j] with ⟨_, h2⟩ | ⟨k, h2, h3, h4⟩
    · exact h2 (List.getElem_mem hj)
    · rw [h2] at h1
      exact h4 i (by omega) (by rw [List.getElem?_eq_getElem hi, e])

/-- Renamed: the symbols of from, by those at the same places in to. -/
def renN (from' dst' : Ls) (x : Nd) : Nd := if 0 ≤ plcS from' x.2.2.2 then (x.1, x.2.1, x.2.2.1, dst'.getD (plcS from' x.2.2.2).toNat []) else x
def renL (from' dst' : Ls) (t : List Nd) : List Nd := t.map (renN from' dst')
/-- The symbols of a datum. -/
def symL (t : List Nd) : Ls := (t.filter fun x => x.1 == 3).map fun x => x.2.2.2
/-- A row into which the reference puts a string. -/
def insS (l : Ls) (n : Nat) (s : List UInt8) : Ls := l.take n ++ s :: l.drop n
theorem ins_sym {l m : Ls} {n : Nat} {s : List UInt8} (h : SymS m l) (h1 : ∀ (i : Nat) x, i < n → l[i]? = some x → x < s) (h2 : ∀ (i : Nat) x, n ≤ i → l[i]? = some x → s < x) : SymS (m ++ [s]) (insS l n s) := by
  obtain ⟨ha, hm⟩ := h
  constructor
  · unfold insS
    refine List.pairwise_append.2 ⟨ha.sublist (List.take_sublist _ _), List.pairwise_cons.2 ⟨fun x hx => ?_, ha.sublist (List.drop_sublist _ _)⟩, fun x hx y hy => ?_⟩
    · obtain ⟨k, hk⟩ := List.getElem?_of_mem hx
      rw [List.getElem?_drop] at hk
      exact h2 (n + k) x (by omega) hk
    · obtain ⟨k, hk⟩ := List.getElem?_of_mem hx
      rw [List.getElem?_take] at hk
      split at hk
      · rename_i hkn
        have hxs := h1 k x hkn hk
        rcases List.mem_cons.1 hy with rfl | hy
        · exact hxs
        · obtain ⟨j, hj⟩ := List.getElem?_of_mem hy
          rw [List.getElem?_drop] at hj
          exact s_trans hxs (h2 (n + j) y (by omega) hj)
      · cases hk
  · intro x
    unfold insS
    rw [List.mem_append, List.mem_append, List.mem_cons, ← hm x]
    have : x ∈ l ↔ x ∈ l.take n ∨ x ∈ l.drop n := by rw [← List.mem_append, List.take_append_drop]
    rw [this]
    simp only [List.mem_singleton]
    constructor
    · rintro (h | h | h)
      · exact .inl (.inl h)
      · exact .inr h
      · exact .inl (.inr h)
    · rintro ((h | h) | h)
      · exact .inl h
      · exact .inr (.inr h)
      · exact .inr (.inl h)
theorem ins_none {l m : Ls} {s : List UInt8} (h : SymS m l) (hs : s ∈ l) : SymS (m ++ [s]) l := by
  refine ⟨h.1, fun x => ?_⟩
  rw [List.mem_append, ← h.2 x]
  constructor
  · exact .inl
  · rintro (e | e)
    · exact e
    · obtain rfl : x = s := by simpa using e
      exact hs
end Go.Proofs.YtkngkajojcmmlaaGreatDoor

/- slices.Collect of an iterator over strings. -/
namespace Go.Proofs.YtkngkajojcmmlaaGreatDoor
open Go.RowKit Go.Shelf Go.PlainAid

attribute [local go_sem] Oper.semAt_some

def strV (l : Ls) : List Value := l.map fun q : List UInt8 => Value.string (str q)
theorem strV_len (l : Ls) : (strV l).length = l.length := by unfold strV; rw [List.length_map]
theorem strV_at {l : Ls} {j : Nat} {q : List UInt8} (h : l[j]? = some q) : (strV l)[j]? = some (.string (str q)) := by unfold strV; rw [List.getElem?_map, h]; rfl
theorem infoStr : (Tryz.prog.info? 9).map (fun i => (i.zero, i.size, i.bytes)) = some (some (.string ⟨#[]⟩), 1, 16) := by kernel_rfl
theorem take_snocS {l : Ls} {k : Nat} {x : List UInt8} (h : l[k]? = some x) : l.take k ++ [x] = l.take (k + 1) := by
  rw [List.take_add_one, h]; rfl

set_option maxHeartbeats 400000 in
theorem vals_mk (a : Option Addr) (n c : Nat) (w : World) :
    Calls Tryz.prog 61 #[.slice a n c] w fun e w' => e = .returned (.func (.func 89) #[] #[.pointer (some ⟨w.heap.size, 0, none⟩)]) ∧
      w' = w.alloc (.cells #[.slice a n c] 23) := by
  have hmf : ∀ (fn : Fn) (first cap : Array Value) (w : World), (Instr.makeFunc fn first cap).run Tryz.prog w = .ok (.func fn first cap) w := fun _ _ _ _ => rfl
  go_enter Tryz.func61, Tryz.ntmps61
  go_wp2
  go_ret
  exact ⟨rfl, rfl⟩
set_option maxRecDepth 100000 in
set_option maxHeartbeats 4000000 in
/-- The iterator's contract. -/
theorem vals_seq (Bs n c : Nat) (a : Option Addr) (l' : Ls) (P₀ : Nat → Prop) (N : Nat) (hN : 1 ≤ N) (w : World) (hP : P₀ Bs ∧ (l' ≠ [] → ∀ g o, a = some ⟨g, o, none⟩ → P₀ g)) (hn₀ : ∀ k, P₀ k → k < w.heap.size)
    (hb : w.heap[Bs]? = some (.cells #[.slice a n c] 23 (0, 0))) (hn : l'.length = n) (hl : n ≤ 1000)
    (hc : ∀ (j : Nat) (q : List UInt8), l'[j]? = some q → ∃ g o, a = some ⟨g, o, none⟩ ∧ w.cell? ⟨g, o + j, none⟩ = some (.string (str q))) :
    SeqO N Tryz.prog 89 #[.pointer (some ⟨Bs, 0, none⟩)] (fun x : List UInt8 => #[.string (str x)]) P₀ (fun _ => False) (fun ys => ys = l') (fun pre => pre <+: l') (fun pre x => pre ++ [x] <+: l') w := by
  intro l J Jx W hW hJ hJx hY h0
  have HF : Hid (∀ wr : World, (∀ k, P₀ k → wr.heap[k]? = W.heap[k]?) → ∀ (j : Nat) (q : List UInt8), l'[j]? = some q → ∃ g o, a = some ⟨g, o, none⟩ ∧ wr.cell? ⟨g, o + j, none⟩ = some (.string (str q))) := Lib.hid fun wr hwr j q hj => by
    obtain ⟨g, o, ha, hq⟩ := hc j q hj
    refine ⟨g, o, ha, ?_⟩
    have hne : l' ≠ [] := by rintro rfl; cases hj
    have h1 := (hwr _ (hP.2 hne g o ha)).trans (hW.block _ (hn₀ _ (hP.2 hne g o ha)))
    have h2 : wr.cell? ⟨g, o + j, none⟩ = w.cell? ⟨g, o + j, none⟩ := by simp [World.cell?, h1]
    rw [h2]; exact hq
  have hbW := (hW.block _ (hn₀ _ hP.1)).trans hb
  have c0 : W.cell? ⟨Bs, 0, none⟩ = some (.slice a n c) := by simp [World.cell?, hbW]
  have HN := Lib.hid hn
  clear hb hc hn hbW
  refine callsIn_of_wp Tryz.func89 rfl trivial ?_ rfl
  simp only [Tryz.ntmps89, List.size_toArray, List.length_cons, List.length_nil, Nat.reduceAdd, Nat.reduceSub, Array.replicate_succ, Array.replicate_zero, List.push_toArray, List.append_toArray, List.nil_append, List.cons_append]
  gi_wp2
  -- MARK1
  gi_loopw [7] (fun x7 wr => ∃ k : Nat, x7 = .int .i64 (k : Int) ∧ k ≤ n ∧ J (l'.take k) wr ∧ Hid (∀ b, P₀ b → wr.heap[b]? = W.heap[b]?) ∧ W.heap.size ≤ wr.heap.size) (fun x7 _ => n - (intOf x7).toNat)
  case atStart => exact ⟨0, rfl, Nat.zero_le _, h0, Lib.hid (fun _ _ => rfl), Nat.le_refl _⟩
  case round =>
    obtain ⟨k, rfl, hk, hJ1, HB, hz⟩ := hrel
    have hk0 : (0 : Int) ≤ (k : Int) := Int.natCast_nonneg _
    by_cases hlt : k < n
    · obtain ⟨x, hx⟩ : ∃ x, l'[k]? = some x := ⟨_, List.getElem?_eq_getElem (by rw [HN.out]; exact hlt)⟩
      obtain ⟨g, o, rfl, d0⟩ := HF.out wr HB.out k x hx
      have hk1 : (k : Int) < (n : Int) := by omega
      have hlp : decide ((k : Int) < (n : Int)) = true := decide_eq_true hk1
      have hpre := take_snocS hx
      have HPre := Lib.hid hpre
      have hG : l'.take k ++ [x] <+: l' := by rw [hpre]; exact List.take_prefix _ _
      clear hx hpre
      obtain ⟨fn, tmps, assign, body, hy, hR⟩ := hY _ x wr hJ1 hz hG
      clear hG
      gi_wp2
      -- MARK2
      refine hR.mono ?_
      rintro e W3 (⟨rfl, hJ3, hk3⟩ | ⟨rfl, hJx3⟩)
      · have HB3 := Lib.hid (fun b (hb : P₀ b) => (hk3.2 b hb).trans (HB.out b hb))
        rw [HPre.out] at hJ3
        have hz3 := Nat.le_trans hz hk3.1
        gi_wp2
        -- MARK3
        go_roundw
        case rel => exact ⟨k + 1, by go_num, by omega, hJ3, HB3, hz3⟩
        case measure => simp [intOf]; omega
      · rw [HPre.out] at hJx3
        gi_wp2
        -- MARK4
        refine bodyPost_ret (results_none rfl _ _ _) rfl ?_
        exact ⟨⟨_, rfl⟩, .inr ⟨_, List.take_prefix _ _, hJx3⟩⟩
    · obtain rfl : k = n := by omega
      have hlp : decide ((k : Int) < (k : Int)) = false := decide_eq_false (Int.lt_irrefl _)
      gi_wp2
      -- MARK5
      go_end0
      refine ⟨⟨_, rfl⟩, .inl ⟨_, rfl, ?_⟩⟩
      rw [List.take_of_length_le (Nat.le_of_eq HN.out)] at hJ1
      exact hJ1
theorem strV_app (a b : Ls) : strV (a ++ b) = strV a ++ strV b := by unfold strV; rw [List.map_append]
/-- The list's cell, and all below, in the loop. -/
def SolI (A : Nat) (w : World) (pre : Ls) (W : World) : Prop :=
  Below A w W ∧ ∃ v, W.heap[A]? = some (.cells #[v] 23 (0, 0)) ∧ W.ownsRow (A + 3) 9 1 v pre.length (strV pre)
theorem solI_bears (A : Nat) (w : World) : BearsO (fun k => k = A + 1 ∨ k = A + 2) (SolI A w) := by
  intro pre W W' row h hg hr
  obtain ⟨h1, v, h2, h3⟩ := h
  have hr' : ∀ r, row = some r → A < r ∧ r < A + 3 := fun r e => by rcases hr r e with h | h <;> omega
  refine ⟨h1.grown hg (Nat.le_of_lt (Array.getElem?_eq_some_iff.1 h2).1) (fun k e => by have := hr' _ e; omega), v, (hg.block A (Array.getElem?_eq_some_iff.1 h2).1 fun e => by have := hr' _ e.symm; omega).trans h2, h3.kept hg ?_⟩
  cases hv : v.ownBlock with
  | none => exact .inl rfl
  | some r => exact .inr fun e => by have h4 := hr' _ e.symm; have h5 := (h3.lt r hv).1; omega
/-- Within a round. -/
def SolA (A : Nat) (w : World) (pre : Ls) (x : List UInt8) (a : Act) (W : World) : Prop :=
  SolI A w pre W ∧ ∃ (u0 u1 u3 u4 u6 u7 u8 u9 u10 u11 u12 : Value), a = { tmps := #[u0, u1, .pointer (some ⟨A, 0, none⟩), u3, u4, .string (str x), u6, u7, u8, u9, u10, u11, u12], defers := [] }
theorem solA_bears (A : Nat) (w : World) (pre : Ls) (x : List UInt8) : BearsO (fun k => k = A + 1 ∨ k = A + 2) (SolA A w pre x) := by
  intro a W W' row h hg hr
  exact ⟨solI_bears A w pre W W' row h.1 hg hr, h.2⟩
theorem scollect_form {w : World} {B n : Nat} {e : TypeId} {v : Value} {l : Ls} (h : w.ownsRow B e 1 v n (strV l)) (hn : l.length = n) : ∃ a c, v = .slice a n c ∧ (l = [] ∨ ∃ g, a = some ⟨g, 0, none⟩ ∧ B ≤ g ∧ g < w.heap.size ∧ ∀ (j : Nat) (q : List UInt8), l[j]? = some q → w.cell? ⟨g, j, none⟩ = some (.string (str q))) := by
  rcases own_form h with ⟨rfl, h0⟩ | ⟨g, c, rfl, h1, h2⟩
  · exact ⟨none, 0, by rw [h0], .inl (List.length_eq_zero_iff.1 (by omega))⟩
  · exact ⟨_, c, rfl, .inr ⟨g, rfl, h1, h2, fun j q hj => own_cell h (strV_at hj)⟩⟩

set_option maxRecDepth 50000 in
set_option maxHeartbeats 1600000 in
theorem sappend_seq (gf : Nat) (lb : Array Value) (P₀ : Nat → Prop) (ys : Ls) (w : World) (hn₀ : ∀ k, P₀ k → k < w.heap.size) (hys : ys.length ≤ 1000) (eg : ∀ args w, (callFunc gf args).run Tryz.prog w = .ok (.enter gf args) w)
    (hseq : ∀ W, Below w.heap.size w W → SeqO 3 Tryz.prog gf lb (fun x : List UInt8 => #[.string (str x)]) P₀ (fun _ => False) (fun l => l = ys) (fun pre => pre <+: ys) (fun pre x => pre ++ [x] <+: ys) W) :
    CallsIn Fence.wide 4 Tryz.prog 110 #[.slice none 0 0, .func (.func gf) #[] lb] w fun e w' => ∃ v, e = .returned v ∧ w'.ownsRow w.heap.size 9 1 v ys.length (strV ys) ∧ Below w.heap.size w w' := by
  have HSeq := Lib.hid hseq
  have HY := Lib.hid hys
  clear hseq hys
  refine callsIn_of_wp_marks Tryz.func110 rfl trivial ?_ rfl
  simp only [Tryz.ntmps110, List.size_toArray, List.length_cons, List.length_nil, Nat.reduceAdd, Nat.reduceSub, Array.replicate_succ, Array.replicate_zero, List.push_toArray, List.append_toArray, List.nil_append, List.cons_append]
  gi_wp2
  -- MARK1
  obtain ⟨W0, hW0⟩ : ∃ W0, W0 = w.alloc (.cells #[.slice none 0 0] 23) := ⟨_, rfl⟩
  rw [← hW0]
  have hsz : W0.heap.size = w.heap.size + 1 := by rw [hW0]; simp
  have hbel : Below w.heap.size w W0 := by rw [hW0]; exact below_b1 _ _
  have ha0 : W0.heap[w.heap.size]? = some (.cells #[.slice none 0 0] 23 (0, 0)) := by rw [hW0]; exact World.alloc_heap_new _ _
  clear hW0
  obtain ⟨A, hA⟩ : ∃ A, w.heap.size = A := ⟨_, rfl⟩
  have hseq0 := HSeq.out W0 hbel
  rw [hA] at hsz hbel ha0 hn₀
  rw [hA]
  refine wpIn_rangeO (by omega) rfl eg hseq0 (Below.refl _ _) (fun k hk => by have := hn₀ k hk; omega) (fun k hk => hk.elim) (fun _ => rfl) (SolI A w) (fun _ _ _ => False)
    (fun pre W W' row h hg hr => solI_bears A w pre W W' row h hg (fun r e => by rcases hr r e with h | h | h; exact h.elim; exact .inl (by omega); exact .inr (by omega))) (fun c pre W W' row h _ _ => h) ?_ (SolA A w)
    (fun pre x a W W' row h hg hr => solA_bears A w pre x a W W' row h hg (fun r e => by rcases hr r e with h | h | h; exact h.elim; exact .inl (by omega); exact .inr (by omega))) ?_ ?_ ?_ ?_
  · exact ⟨hbel, _, ha0, rfl, .inl ⟨rfl, rfl⟩⟩
  · intro l pre x W K hI hW hK
    gi_wp2
    exact hK _ _ (KeepsP.refl _ _) ⟨hI, _, _, _, _, _, _, _, _, _, _, _, rfl⟩
  · obtain ⟨i0, hi, hj0, hj1, hj2⟩ := info_parts2 infoStr
    intro l pre x a' W hSolA hW hG
    have hlen : pre.length < ys.length := by
      have := hG.length_le
      rw [List.length_append] at this
      exact this
    have hyb := HY.out
    have hpl : pre.length < 1000 := by omega
    clear hG
    obtain ⟨⟨hbW, v, hv, hown⟩, u0, u1, u3, u4, u6, u7, u8, u9, u10, u11, u12, rfl⟩ := hSolA
    rw [hsz] at hW
    have hc0 : W.cell? ⟨A, 0, none⟩ = some v := by simp [World.cell?, hv]
    have hltA : A < W.heap.size := (Array.getElem?_eq_some_iff.1 hv).1
    gi_wp2_with (gi_at_builtin; refine wpListIn_append_own _ rfl _ _ 23 rfl (A + 3) 9 i0 (.string ⟨#[]⟩) 1 16 Tryz.underlying23 hi hj0 hj1 hj2 rfl (by decide) v pre.length (strV pre) rfl (hown.alloc _) ⟨W.heap.size, 0, none⟩ 1 1 [.string (str x)] rfl rfl (new_cells W [.string (str x)] _) (by simp [Value.oneCell']) (by unfold maxLen; omega) (by omega) (by rw [World.size_alloc]; omega) ?_; intro v' w7 hown7 hgrow7 _; obtain ⟨sa, sm, sc, rfl⟩ := own_slice hown7; have hv7 := (hgrow7.block A (by rw [World.size_alloc]; omega) (fun e => by have := (hown.lt A e.symm).1; omega)).trans ((Below.heap_alloc _ _ _ hltA).trans hv); have hc7 : w7.cell? ⟨A, 0, none⟩ = some v := (by simp [World.cell?, hv7]); have hz7 : w7.frozen? ⟨A, 0, none⟩ = false := (by simp [World.frozen?, hv7]))
    -- MARK2
    have hkk : ∀ k, k < A + 3 → w7.heap[k]? = W.heap[k]? := fun k hk =>
      (hgrow7.block k (by rw [World.size_alloc]; omega) (fun e => by have := (hown.lt k e.symm).1; omega)).trans (Below.heap_alloc _ _ _ (by omega))
    have hne : ∀ g, (Value.slice sa sm sc).ownBlock = some g → A + 3 ≤ g := fun g hg => (hown7.lt g hg).1
    refine ⟨⟨?_, fun k hk => ?_⟩, ?_, _, set_block _ hv7, ?_⟩
    · rw [World.size_setCell]; have := hgrow7.size; rw [World.size_alloc] at this; omega
    · rw [hsz] at hk
      have hk' : k ≠ A ∧ k < A + 3 := by
        rcases hk with hk | hk
        · have := hn₀ k hk; omega
        · omega
      exact (set_other _ hk'.1).trans (hkk k hk'.2)
    · exact ((hbW.alloc (by omega) _).grown hgrow7 (by rw [World.size_alloc]; omega) (fun k hk => by have := (hown.lt k hk).1; omega)).setCell (Nat.le_refl A) _
    · have hw3 := hown7.kept (grown_set w7 A 0 (.slice sa sm sc)) (.inr fun e => by have := hne _ e; omega)
      rw [List.length_append, strV_app]
      exact hw3
  · intro xs W hS hI hD
    rw [hsz] at hD
    subst hS
    obtain ⟨hbW, v, hv, hown⟩ := hI
    have hc0 : W.cell? ⟨A, 0, none⟩ = some v := by simp [World.cell?, hv]
    obtain ⟨sa, sm, sc, rfl⟩ := own_slice hown
    rw [hsz]
    gi_wp2
    -- MARK3
    refine ⟨by simp, .inl ⟨_, _, rfl, run_takeDeferred hD, ?_⟩⟩
    refine ⟨.slice sa sm sc, by simp [results, Tryz.results110, go_sem], .slice sa sm sc, rfl, ?_, ?_⟩
    · have hne : ∀ g, (Value.slice sa sm sc).ownBlock = some g → A + 3 ≤ g := fun g hg => (hown.lt g hg).1
      rw [hA]
      exact own_mono (B := A + 3) (hown.kept (grownBy_putObj' _ (A + 1) _) (.inr fun e => by have := hne _ e; omega)) (by omega)
    · rw [hA]
      exact hbW.grown (grownBy_putObj' _ _ _) (Nat.le_of_lt (Array.getElem?_eq_some_iff.1 hv).1) (fun k e => by cases e; omega)
  · intro c pre W _ h _
    exact h.elim

set_option maxRecDepth 50000 in
set_option maxHeartbeats 400000 in
theorem scollect_any (gf : Nat) (lb : Array Value) (P₀ : Nat → Prop) (ys : Ls) (w : World) (hn₀ : ∀ k, P₀ k → k < w.heap.size) (hys : ys.length ≤ 1000) (eg : ∀ args w, (callFunc gf args).run Tryz.prog w = .ok (.enter gf args) w)
    (hseq : ∀ W, Below w.heap.size w W → SeqO 3 Tryz.prog gf lb (fun x : List UInt8 => #[.string (str x)]) P₀ (fun _ => False) (fun l => l = ys) (fun pre => pre <+: ys) (fun pre x => pre ++ [x] <+: ys) W) :
    Calls Tryz.prog 88 #[.func (.func gf) #[] lb] w fun e w' => ∃ v, e = .returned v ∧ w'.ownsRow w.heap.size 9 1 v ys.length (strV ys) ∧ Below w.heap.size w w' := by
  have C := Lib.hid (callsIn_wide.1 (sappend_seq gf lb P₀ ys w hn₀ hys eg hseq))
  clear hseq eg hys hn₀
  go_enter Tryz.func88, Tryz.ntmps88
  go_wp2_with fail
  -- MARK4
  refine C.out.mono ?_
  rintro e w1 ⟨v, rfl, ho, hb⟩
  obtain ⟨sa, sm, sc, rfl⟩ := own_slice ho
  go_wp2_with fail
  go_ret
  exact ⟨_, rfl, ho, hb⟩
end Go.Proofs.YtkngkajojcmmlaaGreatDoor

/- slices.Sort and slices.Compact of rows of strings that the call owns. -/
namespace Go.Proofs.YtkngkajojcmmlaaGreatDoor
open Go.RowKit Go.PlainAid Go.Sort

theorem strV_enc (l : Ls) : strV l = l.map encStr := rfl
theorem sort_own (B : Nat) (v : Value) (l : Ls) (w : World) (h : w.ownsRow B 9 1 v l.length (strV l)) (hl : l.length ≤ 1000000) (hB : B ≤ w.heap.size) :
    Calls Tryz.prog 28 #[v] w fun e w' => e = .returned (.tuple #[]) ∧ w'.ownsRow B 9 1 v l.length (strV (l.mergeSort leB)) ∧ Below B w w' := by
  rcases h.2 with ⟨rfl, h0⟩ | ⟨g, cap, cur, rfl, hg, hb, h1, h2, h3, h4⟩
  · have hnil : l = [] := List.length_eq_zero_iff.1 h0
    subst hnil
    refine (Tryz.slices_Sort_string_none none 0 w).mono ?_
    rintro e w' ⟨rfl, rfl⟩
    exact ⟨rfl, by simpa using h, Below.refl _ _⟩
  · refine (Tryz.slices_Sort_string g 0 cap l w (holds_of_block hb (by rw [Nat.mul_one] at h4; exact h4)) (Array.getElem?_eq_some_iff.1 hb).1 (by omega)).mono ?_
    rintro e w' ⟨rfl, n, os, rfl⟩
    exact ⟨rfl, ownsRow_sorted (ts := l.mergeSort leB) (List.length_mergeSort l) hg hb h1 h2 h3, (Below.refl B w).grown (grownBy_sorted _) hB (fun j hj => by cases hj; exact hg)⟩
theorem compact_own (B : Nat) (v : Value) (l : Ls) (w : World) (h : w.ownsRow B 9 1 v l.length (strV l)) (hl : l.length ≤ 1000000) (hB : B ≤ w.heap.size) :
    Calls Tryz.prog 29 #[v] w fun e w' => ∃ a c, e = .returned (.slice a (Lib.compact l).length c) ∧ w'.ownsRow B 9 1 (.slice a (Lib.compact l).length c) (Lib.compact l).length (strV (Lib.compact l)) ∧ Below B w w' := by
  rcases h.2 with ⟨rfl, h0⟩ | ⟨g, cap, cur, rfl, hg, hb, h1, h2, h3, h4⟩
  · have hnil : l = [] := List.length_eq_zero_iff.1 h0
    subst hnil
    refine (Tryz.slices_Compact_string_empty none 0 w).mono ?_
    rintro e w' ⟨rfl, rfl⟩
    exact ⟨none, 0, rfl, h, Below.refl _ _⟩
  · have hle : (Lib.compact l).length ≤ l.length := Lib.compact_length_le l
    refine (Tryz.slices_Compact_string g 0 cap l w (holds_of_block hb (by rw [Nat.mul_one] at h4; exact h4)) (by omega) h1).mono ?_
    rintro e w' ⟨rfl, q, rfl⟩
    obtain ⟨ts, hts⟩ : ∃ ts, Lib.compact l ++ List.replicate (l.length - (Lib.compact l).length) [] = ts := ⟨_, rfl⟩
    have hlen : ts.length = l.length := by rw [← hts, List.length_append, List.length_replicate]; omega
    rw [hts]
    have ho := ownsRow_sorted (w := w) (n := q) (os := #[]) (ts := ts) hlen hg hb h1 h2 h3
    have hgr := grownBy_sorted (w := w) (g := g) (n := q) (os := #[]) ts.toArray
    rw [grow_empty] at ho hgr
    refine ⟨_, _, rfl, ?_, (Below.refl B w).grown hgr hB (fun j hj => by cases hj; exact hg)⟩
    have hc := own_cut ho hle
    have e : (ts.map encStr).take (Lib.compact l).length = strV (Lib.compact l) := by
      rw [← hts, ← List.map_take, List.take_left']
      · rfl
      · rfl
    rw [e] at hc
    exact hc
/-- A row of strings that the call owns. -/
theorem str_own {w : World} {B n : Nat} {v : Value} {l : Ls} (h : w.ownsRow B 9 1 v n (strV l)) (hn : l.length = n) : StrRow w v l := by
  obtain ⟨a, c, rfl, hA⟩ := scollect_form h hn
  refine ⟨a, c, by rw [hn], hA.imp id ?_⟩
  rintro ⟨g, rfl, _, hg, hc⟩
  exact ⟨g, 0, rfl, hg, fun j s hj => by rw [Nat.zero_add]; exact hc j s hj⟩
end Go.Proofs.YtkngkajojcmmlaaGreatDoor

/- twice: whether a string is in a list twice. -/
namespace Go.Proofs.YtkngkajojcmmlaaGreatDoor
open Go.RowKit Go.PlainAid

theorem scoll_at (Bs n c : Nat) (a : Option Addr) (l : Ls) (w : World) (hb : w.heap[Bs]? = some (.cells #[.slice a n c] 23 (0, 0))) (hn : l.length = n) (hl : n ≤ 1000)
    (hc : l = [] ∨ ∃ g off, a = some ⟨g, off, none⟩ ∧ g < w.heap.size ∧ ∀ (j : Nat) (s : List UInt8), l[j]? = some s → w.cell? ⟨g, off + j, none⟩ = some (.string (str s))) :
    Calls Tryz.prog 88 #[.func (.func 89) #[] #[.pointer (some ⟨Bs, 0, none⟩)]] w fun e w' => ∃ v, e = .returned v ∧ w'.ownsRow w.heap.size 9 1 v l.length (strV l) ∧ Below w.heap.size w w' := by
  have hlb := (Array.getElem?_eq_some_iff.1 hb).1
  have hP : ∀ k, (k = Bs ∨ l ≠ [] ∧ ∃ o, a = some ⟨k, o, none⟩) → k < w.heap.size := fun k hk => by
    rcases hk with rfl | ⟨hne, o, ho⟩
    · exact hlb
    · rcases hc with h | ⟨g, off, ha, hg, _⟩
      · exact absurd h hne
      · rw [ha] at ho; cases ho; exact hg
  refine scollect_any 89 _ (fun k => k = Bs ∨ l ≠ [] ∧ ∃ o, a = some ⟨k, o, none⟩) l w hP (by omega) (enters_of Tryz.func89 (by kernel_rfl) rfl) fun W3 hb3 => ?_
  refine vals_seq Bs n c a l _ 3 (by omega) W3 ⟨.inl rfl, fun hne g o ha => .inr ⟨hne, o, ha⟩⟩ (fun k hk => by have := hP k hk; have := hb3.size; omega) ((hb3.block _ hlb).trans hb) hn hl (fun j q hj => ?_)
  rcases hc with h | ⟨g, off, ha, hg, hcc⟩
  · rw [h] at hj; cases hj
  · exact ⟨g, off, ha, (hb3.cell (p := ⟨g, off + j, none⟩) hg).trans (hcc j q hj)⟩
set_option maxRecDepth 50000 in
set_option maxHeartbeats 1600000 in
theorem sorted_any (Bs n c : Nat) (a : Option Addr) (l : Ls) (w : World) (hb : w.heap[Bs]? = some (.cells #[.slice a n c] 23 (0, 0))) (hn : l.length = n) (hl : n ≤ 1000)
    (hc : l = [] ∨ ∃ g off, a = some ⟨g, off, none⟩ ∧ g < w.heap.size ∧ ∀ (j : Nat) (s : List UInt8), l[j]? = some s → w.cell? ⟨g, off + j, none⟩ = some (.string (str s))) :
    Calls Tryz.prog 60 #[.func (.func 89) #[] #[.pointer (some ⟨Bs, 0, none⟩)]] w fun e w' => ∃ v, e = .returned v ∧ w'.ownsRow w.heap.size 9 1 v l.length (strV (l.mergeSort leB)) ∧ Below w.heap.size w w' := by
  have CC := Lib.hid (scoll_at Bs n c a l w hb hn hl hc)
  have hl' : l.length ≤ 1000000 := by omega
  clear hb hn hl hc
  go_enter Tryz.func60, Tryz.ntmps60
  go_wp2_with fail
  refine CC.out.mono ?_
  rintro e w1 ⟨v, rfl, ho, hb1⟩
  have CS := Lib.hid (sort_own w.heap.size v l w1 ho hl' hb1.size)
  obtain ⟨sa, sm, sc, rfl⟩ := own_slice ho
  clear ho
  go_wp2_with fail
  refine CS.out.mono ?_
  rintro e w2 ⟨rfl, ho2, hb2⟩
  go_wp2_with fail
  go_ret
  exact ⟨_, rfl, ho2, hb1.trans hb2⟩
set_option maxRecDepth 50000 in
set_option maxHeartbeats 1600000 in
theorem twice_any (v : Value) (l : Ls) (w : World) (h : StrRow w v l) (hl : l.length ≤ 1000) :
    Calls Tryz.prog 30 #[v] w fun e w' => e = .returned (.bool (decide (¬ l.Nodup))) ∧ Below w.heap.size w w' := by
  obtain ⟨a, c, rfl, hc⟩ := h
  obtain ⟨n, hn⟩ : ∃ n, l.length = n := ⟨_, rfl⟩
  have hcW : l = [] ∨ ∃ g off, a = some ⟨g, off, none⟩ ∧ g < (w.alloc (.cells #[.slice a n c] 23)).heap.size ∧ ∀ (j : Nat) (s : List UInt8), l[j]? = some s → (w.alloc (.cells #[.slice a n c] 23)).cell? ⟨g, off + j, none⟩ = some (.string (str s)) := by
    refine hc.imp id ?_
    rintro ⟨g, off, ha, hg, hcc⟩
    exact ⟨g, off, ha, by rw [World.size_alloc]; omega, fun j s hj => (World.cell?_alloc_lt _ _ _ hg).trans (hcc j s hj)⟩
  have CS := Lib.hid (sorted_any w.heap.size n c a l _ (World.alloc_heap_new w (.cells #[.slice a n c] 23)) hn (by omega) hcW)
  obtain ⟨W1, hW1⟩ : ∃ W1, W1 = w.alloc (.cells #[.slice a n c] 23) := ⟨_, rfl⟩
  have hb1 : Below w.heap.size w W1 := by rw [hW1]; exact below_b1 _ _
  have CV := Lib.hid (vals_mk a n c w)
  rw [← hW1] at CS CV
  have HN := Lib.hid hn
  have hln : n ≤ 1000 := by omega
  have HTw : Hid (decide ((Lib.compact (l.mergeSort leB)).length < n) = decide (¬ l.Nodup)) := Lib.hid (by
    rw [← hn]
    exact decide_eq_decide.2 (twice_iff l))
  rw [hn]
  clear hc hcW hn hl hW1
  go_enter Tryz.func30, Tryz.ntmps30
  go_wp2_with fail
  refine CV.out.mono ?_
  rintro e w1 ⟨rfl, rfl⟩
  go_wp2_with fail
  refine CS.out.mono ?_
  rintro e w2 ⟨v2, rfl, ho, hb2⟩
  have hls : (l.mergeSort leB).length = l.length := List.length_mergeSort l
  have CC := Lib.hid (compact_own w1.heap.size v2 (l.mergeSort leB) w2 (by rw [hls]; exact ho) (by rw [hls, HN.out]; omega) hb2.size)
  obtain ⟨sa, sm, sc, rfl⟩ := own_slice ho
  clear ho hls
  go_wp2_with fail
  refine CC.out.mono ?_
  rintro e w3 ⟨a3, c3, rfl, _, hb3⟩
  obtain ⟨q, hq⟩ : ∃ q, (Lib.compact (l.mergeSort leB)).length = q := ⟨_, rfl⟩
  rw [hq] at HTw ⊢
  clear hq
  go_wp2_with fail
  -- MARK1
  go_ret
  exact ⟨by rw [← HTw.out]; rfl, hb1.trans ((hb2.trans hb3).mono hb1.size)⟩
end Go.Proofs.YtkngkajojcmmlaaGreatDoor

/- Symbols. -/
namespace Go.Proofs.YtkngkajojcmmlaaGreatDoor
open Go.RowKit Go.PlainAid

theorem rows1 (v1 : Value) (t : List Nd) (W : World) (T : TypeId) (h1 : NdsAt W v1 t) : RowsAt (W.alloc (.cells #[v1] T)) (.slice (some ⟨W.heap.size, 0, none⟩) 1 1) [t] := by
  have hnew := new_cells W [v1] T
  refine ⟨_, 1, rfl, .inr ⟨W.heap.size, 0, rfl, by rw [World.size_alloc]; omega, fun j x hj => ?_⟩⟩
  have hj2 : j < 1 := by have := (List.getElem?_eq_some_iff.1 hj).1; simpa using this
  obtain rfl : j = 0 := by omega
  obtain rfl : t = x := by simpa using hj
  have := hnew 0 v1 rfl
  rw [Go.WideShapes.add_plain] at this
  exact ⟨v1, this, h1.below (below_b1 W _) (Nat.le_refl _)⟩
theorem chkAll_1 (sy : List UInt8 → Bool) (t : List Nd) : chkAllS sy [t] = (chkT sy t).2 := by
  unfold chkAllS
  by_cases h : (chkT sy t).2 = 0
  · rw [if_neg (by rw [h]; simp), h]; rfl
  · rw [if_pos h]
theorem symL_take {t : List Nd} {k : Nat} {x : Nd} (h : t[k]? = some x) : symL (t.take (k + 1)) = symL (t.take k) ++ (if x.1 = 3 then [x.2.2.2] else []) := by
  unfold symL
  rw [List.take_add_one, h, Option.toList_some, List.filter_append, List.map_append]
  congr 1
  by_cases h3 : x.1 = 3
  · rw [if_pos h3, List.filter_cons, if_pos (by simpa using h3)]; rfl
  · rw [if_neg h3, List.filter_cons, if_neg (by simpa using h3)]; rfl
theorem symL_len (t : List Nd) : (symL t).length ≤ t.length := by unfold symL; rw [List.length_map]; exact List.length_filter_le _ _
/-- What Symbols returns. -/
def SymV (t : List Nd) (w : World) (e : Ending) (w' : World) : Prop :=
  ∃ (l : Ls) (a : Option Addr) (c : Nat), e = .returned (.tuple #[.slice a l.length c, .int .i64 (chkT symS t).2]) ∧ StrRow w' (.slice a l.length c) l ∧ ((chkT symS t).2 = 0 → SymS (symL t) l) ∧ ((chkT symS t).2 ≠ 0 → l = []) ∧ l.length ≤ 1000 ∧ Below w.heap.size w w'
set_option maxRecDepth 50000 in
set_option maxHeartbeats 3200000 in
theorem Symbols_any (v : Value) (t : List Nd) (w : World) (h : NdsAt w v t) (KB : KidsB t) (T : STabs w) :
    Calls Tryz.prog 9 #[v] w (SymV t w) := by
  have C1 := Lib.hid (checkAll_any symS _ [t] _ (rows1 v t w 22 h) (Lib.hid (symAll_of (T.below (below_b1 w _)))) (Lib.hid (fun x hx => by rw [show x = t by simpa using hx]; exact KB)) (by simp))
  rw [chkAll_1] at C1
  by_cases hc : (chkT symS t).2 = 0
  · have h400 := (chkT_ok hc).2.2.1
    obtain ⟨g, o, c, rfl, hg, hcl⟩ := h.some (chkT_ok hc).2.1
    obtain ⟨W1, hW1⟩ : ∃ W1, W1 = w.alloc (.cells #[.slice (some ⟨g, o, none⟩) t.length c] 22) := ⟨_, rfl⟩
    have hb1 : Below w.heap.size w W1 := by rw [hW1]; exact below_b1 _ _
    rw [← hW1] at C1
    have HC := Lib.hid hcl
    have HK := Lib.hid hc
    rw [hc] at C1
    obtain ⟨n, hn⟩ : ∃ n, t.length = n := ⟨_, rfl⟩
    have HN := Lib.hid hn
    rw [hn] at hW1 h400 ⊢
    clear hn h hcl hc KB T
    go_enter Tryz.func9, Tryz.ntmps9
    go_wp2_with fail
    -- MARK1
    rw [← hW1]
    refine C1.out.mono ?_
    rintro e w2 ⟨rfl, hb2⟩
    have hB2 := hb1.trans (hb2.mono hb1.size)
    clear hW1 hb1 hb2 C1
    go_wp2_with fail
    -- MARK2
    obtain ⟨B, hB⟩ : ∃ B, w2.heap.size = B := ⟨_, rfl⟩
    have HB0 : Hid (w2.heap.size = B) := Lib.hid hB
    have HwB : Hid (w.heap.size ≤ B) := Lib.hid (by rw [← hB]; exact hB2.size)
    have hbel0 : Below B w2 w2 := Below.refl _ _
    clear hB
    go_loopw [5, 16] (fun x5 x16 wr => ∃ (k m : Nat) (b : Option Addr) (cb : Nat), x16 = .int .i64 (k : Int) ∧ x5 = .slice b m cb ∧ k ≤ n ∧ m ≤ k ∧ Hid ((symL (t.take k)).length = m) ∧ Hid (wr.ownsRow B 9 1 (.slice b m cb) m (strV (symL (t.take k)))) ∧ Hid (Below B w2 wr)) (fun _ x16 _ => n - (intOf x16).toNat)
    case atStart => exact ⟨0, 0, none, 0, rfl, rfl, Nat.zero_le _, Nat.le_refl _, Lib.hid rfl, Lib.hid ⟨rfl, .inl ⟨rfl, rfl⟩⟩, Lib.hid hbel0⟩
    case round =>
      obtain ⟨k, m, b, cb, rfl, rfl, hk, hmk, HM, HO, HBr⟩ := hrel
      have hBr := HBr.out
      have hbw : Below w.heap.size w wr := hB2.trans (hBr.mono HwB.out)
      have hszB : B ≤ wr.heap.size := by have := hBr.size; have := HB0.out; omega
      have hk0 : (0 : Int) ≤ (k : Int) := Int.natCast_nonneg _
      by_cases hlt : k < n
      · obtain ⟨x, hx⟩ : ∃ x, t[k]? = some x := ⟨_, List.getElem?_eq_getElem (by rw [HN.out]; exact hlt)⟩
        obtain ⟨d0, d1, d2, d3⟩ := dcs_at t hx
        have c0 := (hbw.cell (p := ⟨g, o + k * 4, none⟩) hg).trans (HC.out _ _ d0)
        have c1 := (hbw.cell (p := ⟨g, o + (k * 4 + 1), none⟩) hg).trans (HC.out _ _ d1)
        have c2 := (hbw.cell (p := ⟨g, o + (k * 4 + 2), none⟩) hg).trans (HC.out _ _ d2)
        have c3 := (hbw.cell (p := ⟨g, o + (k * 4 + 3), none⟩) hg).trans (HC.out _ _ d3)
        have HS := Lib.hid (symL_take hx)
        obtain ⟨x0, x1, x2, x3⟩ := x
        simp only [← Nat.add_assoc] at c0 c1 c2 c3 HS
        have hk1 : (k : Int) < (n : Int) := by omega
        clear d0 d1 d2 d3 hx hB2 hbel0
        by_cases h3 : x0 = 3
        · subst h3
          have hst : symL (t.take (k + 1)) = symL (t.take k) ++ [x3] := by rw [HS.out, if_pos rfl]
          have HSt := Lib.hid hst
          clear hst
          have HO6 : Hid ((wr.alloc (.cells #[.int .i64 3, .int .i64 x1, .int .i64 x2, .string (str x3)] 40)).ownsRow B 9 1 (.slice b m cb) m (strV (symL (t.take k)))) := Lib.hid (HO.out.alloc _)
          have hbr6 : Below B w2 (wr.alloc (.cells #[.int .i64 3, .int .i64 x1, .int .i64 x2, .string (str x3)] 40)) := hBr.alloc hszB _
          obtain ⟨i0, hi, hj0, hj1, hj2⟩ := info_parts2 infoStr
          go_wp2_with (at_builtin; refine wpList_append_own _ rfl _ _ 23 rfl B 9 i0 (.string ⟨#[]⟩) 1 16 Tryz.underlying23 hi hj0 hj1 hj2 rfl (by decide) _ _ _ rfl (HO6.out.alloc _) ⟨wr.heap.size + 1, 0, none⟩ 1 1 [.string (str x3)] rfl rfl (new_cells1 _ _ _ _ (by rw [World.size_alloc])) (by simp [Value.oneCell']) (by unfold maxLen; omega) (by omega) (by rw [World.size_alloc, World.size_alloc]; omega) ?_; intro v' w8 hown8 hgrow8 _; have HB8 : Below B w2 w8 := (hbr6.alloc (by rw [World.size_alloc]; omega) _).grown hgrow8 (by rw [World.size_alloc, World.size_alloc]; omega) (fun j hj => (HO6.out.lt j hj).1); obtain ⟨ab8, cb8, rfl⟩ := own_len hown8; have HO8 := Lib.hid hown8; clear hown8 hgrow8)
          -- MARK3
          exact ⟨⟨k + 1, m + 1, _, _, by go_num, rfl, by omega, by omega, Lib.hid (by rw [HSt.out, List.length_append, HM.out]; rfl), Lib.hid (by rw [HSt.out, strV_app]; exact HO8.out), Lib.hid HB8⟩, by simp [intOf]; omega⟩
        · have hne : (x0 == 3) = false := beq_eq_false_iff_ne.2 h3
          have hst : symL (t.take (k + 1)) = symL (t.take k) := by rw [HS.out, if_neg h3, List.append_nil]
          have HSt := Lib.hid hst
          clear hst h3
          go_wp2_with fail
          -- MARK4
          exact ⟨⟨k + 1, m, _, _, by go_num, rfl, by omega, by omega, Lib.hid (by rw [HSt.out, HM.out]), Lib.hid (by rw [HSt.out]; exact HO.out.alloc _), Lib.hid (hBr.alloc hszB _)⟩, by simp [intOf]; omega⟩
      · obtain rfl : k = n := by omega
        have HAll : Hid (t.take k = t) := Lib.hid (List.take_of_length_le (Nat.le_of_eq HN.out))
        have HM2 : Hid ((symL t).length = m) := Lib.hid (by rw [← HM.out, HAll.out])
        have CS := Lib.hid (sort_own B (.slice b m cb) (symL t) wr (by have := HO.out; rw [HAll.out] at this; rw [HM2.out]; exact this) (by rw [HM2.out]; omega) hszB)
        have hls : ((symL t).mergeSort leB).length = m := by rw [List.length_mergeSort, HM2.out]
        have HLs := Lib.hid hls
        clear hB2 hbel0 hls
        go_wp2_with fail
        -- MARK5
        refine CS.out.mono ?_
        rintro e w5 ⟨rfl, ho5, hb5⟩
        have hbB5 : Below B w2 w5 := hBr.trans hb5
        have CK := Lib.hid (compact_own B (.slice b m cb) ((symL t).mergeSort leB) w5 (by rw [HLs.out]; rw [HM2.out] at ho5; exact ho5) (by rw [HLs.out]; omega) (by have := hb5.size; omega))
        clear ho5
        go_wp2_with fail
        -- MARK6
        refine CK.out.mono ?_
        rintro e w6 ⟨a6, c6, rfl, ho6, hb6⟩
        have HRow := Lib.hid (str_own ho6 rfl)
        have hfin : Below w.heap.size w w6 := hbw.trans ((hb5.trans hb6).mono HwB.out)
        have HLen : Hid ((Lib.compact ((symL t).mergeSort leB)).length ≤ 1000) := Lib.hid (by have := Lib.compact_length_le ((symL t).mergeSort leB); rw [HLs.out] at this; omega)
        clear ho6
        go_wp2_with fail
        go_ret2
        -- MARK7
        exact ⟨_, a6, c6, by rw [HK.out]; rfl, HRow.out, fun _ => prog_sym (symL t), fun h => absurd HK.out h, HLen.out, hfin⟩
  · obtain ⟨e2, he2⟩ : ∃ e2, (chkT symS t).2 = e2 := ⟨_, rfl⟩
    have HE := Lib.hid he2
    have HC2 := Lib.hid hc
    rw [he2] at C1 hc
    have hne : (e2 != 0) = true := bne_iff_ne.2 hc
    obtain ⟨a0, c0, rfl⟩ := h.slice
    obtain ⟨W1, hW1⟩ : ∃ W1, W1 = w.alloc (.cells #[.slice a0 t.length c0] 22) := ⟨_, rfl⟩
    have hb1 : Below w.heap.size w W1 := by rw [hW1]; exact below_b1 _ _
    rw [← hW1] at C1
    clear h KB T hc he2
    go_enter Tryz.func9, Tryz.ntmps9
    go_wp2_with fail
    rw [← hW1]
    refine C1.out.mono ?_
    rintro e w2 ⟨rfl, hb2⟩
    go_wp2_with fail
    go_ret2
    exact ⟨[], none, 0, by rw [HE.out]; rfl, ⟨none, 0, rfl, .inl rfl⟩, fun h => absurd h HC2.out, fun _ => rfl, by simp, hb1.trans (hb2.mono hb1.size)⟩
end Go.Proofs.YtkngkajojcmmlaaGreatDoor

/- Rename: mathematics. -/
namespace Go.Proofs.YtkngkajojcmmlaaGreatDoor

/-- The error of Rename. -/
def renE (t : List Nd) (from' dst' : Ls) : Int :=
  if (chkT symS t).2 ≠ 0 then (chkT symS t).2 else if from'.length ≠ dst'.length then 2 else if (from'.all symS && dst'.all symS) = false then 6 else if ¬ from'.Nodup then 8 else 0
theorem renE_0 {t : List Nd} {f g : Ls} (h : renE t f g = 0) : (chkT symS t).2 = 0 ∧ f.length = g.length ∧ (∀ s ∈ f, symS s = true) ∧ (∀ s ∈ g, symS s = true) ∧ f.Nodup := by
  unfold renE at h
  split at h
  · rename_i h1; exact absurd h h1
  · rename_i h1
    split at h
    · cases h
    · rename_i h2
      split at h
      · cases h
      · rename_i h3
        split at h
        · cases h
        · rename_i h4
          rw [Bool.not_eq_false, Bool.and_eq_true, List.all_eq_true, List.all_eq_true] at h3
          exact ⟨Decidable.not_not.1 h1, Decidable.not_not.1 h2, h3.1, h3.2, Decidable.not_not.1 h4⟩
theorem renE_of {t : List Nd} {f g : Ls} (h1 : (chkT symS t).2 = 0) (h2 : f.length = g.length) (h3 : ∀ s ∈ f, symS s = true) (h4 : ∀ s ∈ g, symS s = true) (h5 : f.Nodup) : renE t f g = 0 := by
  unfold renE
  rw [if_neg (by rw [h1]; simp), if_neg (by simp [h2]), if_neg, if_neg (by simp [h5])]
  rw [Bool.not_eq_false, Bool.and_eq_true, List.all_eq_true, List.all_eq_true]
  exact ⟨h3, h4⟩
theorem symS_ne {s : List UInt8} (h : symS s = true) : s ≠ [] := by
  rintro rfl
  rw [sym_short (by simp)] at h
  cases h
/-- A node's string, where it is none of a symbol. -/
theorem okN_str {sy : List UInt8 → Bool} {x : Nd} (h : okN sy x) (h3 : x.1 ≠ 3) : x.2.2.2 = [] := by
  obtain ⟨h1, _⟩ := h
  unfold kindB at h1
  rw [if_neg h3] at h1
  split at h1
  · rw [Bool.and_eq_true] at h1; exact em_nil h1.2
  · split at h1
    · rw [Bool.and_eq_true, Bool.and_eq_true] at h1; exact em_nil h1.2
    · cases h1
theorem okN_sym {sy : List UInt8 → Bool} {x : Nd} (h : okN sy x) (h3 : x.1 = 3) : sy x.2.2.2 = true := by
  obtain ⟨_, h2⟩ := h
  unfold valE at h2
  rw [if_neg (by omega)] at h2
  cases hb : sy x.2.2.2 with
  | true => rfl
  | false => rw [hb, if_pos ⟨h3, rfl⟩] at h2; cases h2
theorem getD_mem {l : Ls} {j : Nat} (h : j < l.length) : l.getD j [] ∈ l := by
  rw [List.getD_eq_getElem?_getD, List.getElem?_eq_getElem h]; exact List.getElem_mem h
/-- What becomes of a node. -/
theorem renN_cases {f g : Ls} {x : Nd} (hf : ∀ s ∈ f, symS s = true) (hl : f.length = g.length) (h : okN symS x) : renN f g x = x ∧ x.2.2.2 ∉ f ∨ x.1 = 3 ∧ ∃ j : Nat, f[j]? = some x.2.2.2 ∧ j < g.length ∧ plcS f x.2.2.2 = (j : Int) ∧ renN f g x = (x.1, x.2.1, x.2.2.1, g.getD j []) := by
  rcases plcS_cases f x.2.2.2 with ⟨h1, h2⟩ | ⟨j, h1, h2, _⟩
  · left
    refine ⟨?_, h2⟩
    unfold renN
    rw [if_neg (by omega)]
  · right
    have h3 : x.1 = 3 := by
      refine Decidable.byContradiction fun h3 => ?_
      have := okN_str h h3
      rw [this] at h2
      exact symS_ne (hf _ (List.mem_of_getElem? h2)) rfl
    refine ⟨h3, j, h2, by rw [← hl]; exact (List.getElem?_eq_some_iff.1 h2).1, h1, ?_⟩
    unfold renN
    rw [if_pos (by omega), h1]; rfl
theorem renN_nd {f g : Ls} {x : Nd} (hf : ∀ s ∈ f, symS s = true) (hg : ∀ s ∈ g, symS s = true) (hl : f.length = g.length) (h : okN symS x) (d : Int) : ndE symS (renN f g x) d = ndE symS x d ∧ (renN f g x).2.1 = x.2.1 := by
  rcases renN_cases hf hl h with ⟨e, _⟩ | ⟨h3, j, h1, h2, _, e⟩
  · rw [e]; exact ⟨rfl, rfl⟩
  · rw [e]
    refine ⟨?_, rfl⟩
    have s1 := okN_sym h h3
    have s2 := hg _ (getD_mem h2)
    have hv := h.2
    unfold ndE nodeE
    simp only
    rw [h3, kind_3, kind_3, s1, s2]
theorem ren_chk {f g : Ls} {t : List Nd} (hf : ∀ s ∈ f, symS s = true) (hg : ∀ s ∈ g, symS s = true) (hl : f.length = g.length) (h : (chkT symS t).2 = 0) : (chkT symS (renL f g t)).2 = 0 := by
  obtain ⟨t1, t2, t3, t4, t5⟩ := chkT_ok h
  have key : ∀ (t : List Nd) (st : List Nat) (i : Nat), (∀ x ∈ t, okN symS x) → chkGo (ndE symS) st i (renL f g t) = chkGo (ndE symS) st i t := by
    intro t
    induction t with
    | nil => intro st i _; rfl
    | cons x t ih =>
      intro st i hx
      have hx0 := hx x (by simp)
      have e1 := (renN_nd hf hg hl hx0 ((st.length : Int) - 1)).1
      have e2 := (renN_nd hf hg hl hx0 0).2
      show chkGo (ndE symS) st i (renN f g x :: renL f g t) = _
      rw [chkGo, chkGo, e1, e2, ih _ _ (fun y hy => hx y (by simp [hy]))]
  unfold chkT chkD at h ⊢
  have hlen : (renL f g t).length = t.length := List.length_map _
  have hne : renL f g t ≠ [] := by intro e; rw [e] at hlen; exact t2 (List.length_eq_zero_iff.1 hlen.symm)
  rw [if_neg hne, hlen, if_neg (by omega), key t _ _ t4]
  rw [if_neg t2, if_neg (by omega)] at h
  exact h
/-- Renamed to other symbols, each once, none of which the datum has, and back. -/
theorem ren_back {f g : Ls} {t : List Nd} (h : renE t f g = 0) (hn : g.Nodup) (hd : ∀ s ∈ g, s ∉ symL t) : renE (renL f g t) g f = 0 ∧ renL g f (renL f g t) = t := by
  obtain ⟨h1, h2, h3, h4, h5⟩ := renE_0 h
  refine ⟨renE_of (ren_chk h3 h4 h2 h1) h2.symm h4 h3 hn, ?_⟩
  obtain ⟨_, _, _, t4, _⟩ := chkT_ok h1
  unfold renL
  rw [List.map_map]
  refine (List.map_congr_left fun x hx => ?_).trans (List.map_id t)
  have hx0 := t4 x hx
  show renN g f (renN f g x) = x
  rcases renN_cases h3 h2 hx0 with ⟨e, hno⟩ | ⟨k3, j, k1, k2, _, e⟩
  · rw [e]
    rcases renN_cases h4 h2.symm hx0 with ⟨e', _⟩ | ⟨k3, j, k1, _, _, _⟩
    · exact e'
    · exfalso
      refine hd _ (List.mem_of_getElem? k1) ?_
      unfold symL
      exact List.mem_map.2 ⟨x, List.mem_filter.2 ⟨hx, by simp [k3]⟩, rfl⟩
  · rw [e]
    have hgj : g[j]? = some (g.getD j []) := by rw [List.getD_eq_getElem?_getD, List.getElem?_eq_getElem k2]; rfl
    have hp : plcS g (g.getD j []) = (j : Int) := plcS_at hgj fun i hi hi2 => by
      obtain ⟨hi', e1⟩ := List.getElem?_eq_some_iff.1 hi2
      obtain ⟨_, e2⟩ := List.getElem?_eq_some_iff.1 hgj
      exact List.pairwise_iff_getElem.1 (List.nodup_iff_pairwise_ne.1 hn) i j hi' k2 hi (by rw [e1, e2])
    unfold renN
    simp only
    rw [hp, if_pos (by omega), Int.toNat_natCast, List.getD_eq_getElem?_getD, k1]
    rfl
end Go.Proofs.YtkngkajojcmmlaaGreatDoor

/- placeOf of strings; what a renaming does step by step; Clone of nodes as a row of the call's own. -/
namespace Go.Proofs.YtkngkajojcmmlaaGreatDoor
open Go.RowKit Go.PlainAid

theorem plc_step {s x : List UInt8} {l : Ls} {k : Nat} (h : l[k]? = some x) : plcF s (l.drop k) k = if x = s then (k : Int) else plcF s (l.drop (k + 1)) (k + 1) := by
  obtain ⟨hk, rfl⟩ := List.getElem?_eq_some_iff.1 h
  rw [List.drop_eq_getElem_cons hk]; rfl
theorem str_beq (x y : List UInt8) : ((str x).toList == (str y).toList) = decide (x = y) := by
  rw [ByteArray.toList_eq, ByteArray.toList_eq, str_list, str_list, Bool.eq_iff_iff, beq_iff_eq, decide_eq_true_eq]
set_option maxRecDepth 50000 in
set_option maxHeartbeats 1600000 in
theorem placeS_any (v : Value) (l : Ls) (s : List UInt8) (w : World) (h : StrRow w v l) (hl : l.length ≤ 1000000) :
    Calls Tryz.prog 32 #[v, .string (str s)] w fun e w' => e = .returned (.int .i64 (plcS l s)) ∧ w = w' := by
  obtain ⟨a, c, rfl, hA⟩ := h
  have HA := Lib.hid hA
  obtain ⟨n, hn⟩ : ∃ n, l.length = n := ⟨_, rfl⟩
  have HN := Lib.hid hn
  have HB := Lib.hid (fun x => str_beq x s)
  obtain ⟨z, hz⟩ : ∃ z, str s = z := ⟨_, rfl⟩
  rw [hz] at HB ⊢
  obtain ⟨R, hR⟩ : ∃ R, plcS l s = R := ⟨_, rfl⟩
  have HR := Lib.hid hR
  rw [hn] at hl ⊢
  rw [hR]
  clear hA hn hz hR
  go_enter Tryz.func32, Tryz.ntmps32
  go_wp2_with fail
  go_loop [9] (fun x => ∃ k : Nat, x = .int .i64 (k : Int) ∧ k ≤ n ∧ Hid (plcF s (l.drop k) k = R)) (fun x => n - (intOf x).toNat)
  case atStart => exact ⟨0, rfl, Nat.zero_le _, Lib.hid (by rw [List.drop_zero]; exact HR.out)⟩
  case round =>
    obtain ⟨k, rfl, hk, HE⟩ := hrel
    have hk0 : (0 : Int) ≤ (k : Int) := Int.natCast_nonneg _
    by_cases hlt : k < n
    · obtain ⟨x, hx⟩ : ∃ x, l[k]? = some x := ⟨_, List.getElem?_eq_getElem (by rw [HN.out]; exact hlt)⟩
      have hk1 : (k : Int) < (n : Int) := by omega
      rcases HA.out with hnil | ⟨g, off, rfl, hg, hc⟩
      · rw [hnil] at hx; cases hx
      have d0 := hc k x hx
      have hst := plc_step (s := s) hx
      rw [HE.out] at hst
      have HSt := Lib.hid hst
      have hbq := HB.out x
      obtain ⟨y, hy⟩ : ∃ y, str x = y := ⟨_, rfl⟩
      rw [hy] at d0 hbq
      clear hx hst hc hy
      by_cases h0 : x = s
      · rw [decide_eq_true h0] at hbq
        have HF : Hid (R = (k : Int)) := Lib.hid (by rw [HSt.out, if_pos h0])
        clear h0
        go_wp2_with fail
        go_ret
        exact ⟨by rw [HF.out]; rfl, rfl⟩
      · rw [decide_eq_false h0] at hbq
        have HE2 : Hid (plcF s (l.drop (k + 1)) (k + 1) = R) := Lib.hid (by rw [HSt.out, if_neg h0])
        clear h0
        go_wp2_with fail
        go_round
        case rel => exact ⟨k + 1, by go_num, by omega, HE2⟩
        case measure => simp [intOf]; omega
    · obtain rfl : k = n := by omega
      have HF : Hid (R = -1) := Lib.hid (by rw [← HE.out, List.drop_of_length_le (Nat.le_of_eq HN.out)]; rfl)
      go_wp2_with fail
      go_ret
      exact ⟨by rw [HF.out]; rfl, rfl⟩
/-- Renamed as far as node k. -/
def renK (f g : Ls) (t : List Nd) (k : Nat) : List Nd := renL f g (t.take k) ++ t.drop k
theorem renK_0 (f g : Ls) (t : List Nd) : renK f g t 0 = t := by unfold renK renL; rw [List.take_zero, List.drop_zero]; rfl
theorem renK_len (f g : Ls) (t : List Nd) (k : Nat) : (renK f g t k).length = t.length := by unfold renK renL; rw [List.length_append, List.length_map, ← List.length_append, List.take_append_drop]
theorem renK_all (f g : Ls) (t : List Nd) : renK f g t t.length = renL f g t := by unfold renK; rw [List.take_length, List.drop_length, List.append_nil]
theorem renK_at {f g : Ls} {t : List Nd} {k : Nat} {x : Nd} (h : t[k]? = some x) : (renK f g t k)[k]? = some x := by
  have hk := (List.getElem?_eq_some_iff.1 h).1
  unfold renK renL
  rw [List.getElem?_append_right (by rw [List.length_map, List.length_take]; omega), List.length_map, List.length_take, Nat.min_eq_left (by omega), Nat.sub_self, List.getElem?_drop, Nat.add_zero, h]
theorem renK_step {f g : Ls} {t : List Nd} {k : Nat} {x : Nd} (h : t[k]? = some x) : renK f g t (k + 1) = (renK f g t k).set k (renN f g x) := by
  obtain ⟨hk, hx⟩ := List.getElem?_eq_some_iff.1 h
  unfold renK renL
  rw [List.set_append, if_neg (by rw [List.length_map, List.length_take]; omega), List.length_map, List.length_take, Nat.min_eq_left (by omega), Nat.sub_self, List.drop_eq_getElem_cons hk, List.set_cons_zero, List.take_succ_eq_append_getElem hk, List.map_append, hx, List.append_assoc]
  rfl
theorem dcs_set3 : ∀ (l : List Nd) (k : Nat) (x : Nd) (s : List UInt8), l[k]? = some x → (dcs l).set (k * 4 + 3) (.string (str s)) = dcs (l.set k (x.1, x.2.1, x.2.2.1, s)) := by
  intro l
  induction l with
  | nil => intro k x s h; cases h
  | cons y l ih =>
    intro k x s h
    cases k with
    | zero => obtain rfl : y = x := by simpa using h
              rfl
    | succ k =>
      rw [List.set_cons_succ, dcs_cons, dcs_cons, show (k + 1) * 4 + 3 = k * 4 + 3 + 1 + 1 + 1 + 1 by omega, List.set_cons_succ, List.set_cons_succ, List.set_cons_succ, List.set_cons_succ, ih k x s (by simpa using h)]
set_option maxRecDepth 50000 in
set_option maxHeartbeats 1600000 in
theorem clone_own (g off c n : Nat) (l : List Nd) (w : World) (hn : l.length = n) (hl : n ≤ 100000) (hc : ∀ (j : Nat) (u : Value), (dcs l)[j]? = some u → w.cell? ⟨g, off + j, none⟩ = some u) (hg : g < w.heap.size) :
    Calls Tryz.prog 31 #[.slice (some ⟨g, off, none⟩) n c] w fun e w' => ∃ v, e = .returned v ∧ w'.ownsRow w.heap.size 40 4 v n (dcs l) ∧ Below w.heap.size w w' := by
  have HO := Lib.hid (own_empty w 40 4 w.heap.size (Nat.le_refl _))
  have hb1 := below_b1 w (.cells #[] 40)
  have HC : Hid (∀ (j : Nat) (u : Value), (dcs l)[j]? = some u → (w.alloc (.cells #[] 40)).cell? ((⟨g, off, none⟩ : Addr).add j) = some u) := Lib.hid fun j u hj => by
    rw [Go.WideShapes.add_plain, World.cell?_alloc_lt _ _ _ hg]; exact hc j u hj
  have HL := Lib.hid (show (dcs l).length = n * 4 by rw [dcs_len, hn])
  obtain ⟨i0, hi, hz0, hz1, hz2⟩ := info_parts2 infoNd
  have hsz := (World.size_alloc w (.cells #[] 40))
  have HSz := Lib.hid hsz
  have hnil : ∀ W, (binOp .eql 22 (.slice (some ⟨g, off, none⟩) n c) (.slice none 0 0)).run Tryz.prog W = .ok (.bool false) W := fun W => run_eql_slice_nil W 22 40 (some ⟨g, off, none⟩) n c Tryz.underlying22
  clear hc hn hsz
  go_enter Tryz.func31, Tryz.ntmps31
  go_wp2_with (at_builtin; refine wpList_append_own _ rfl _ _ 22 rfl w.heap.size 40 i0 zeroNd 4 40 Tryz.underlying22 hi hz0 hz1 hz2 rfl (by decide) _ _ _ rfl HO.out ⟨g, off, none⟩ n c (dcs l) rfl HL.out HC.out (one_dcs l) (by unfold maxLen; omega) (by omega) hb1.size ?_; intro v' w2 hown2 hgrow2 _)
  have hb2 : Below w.heap.size w w2 := hb1.grown hgrow2 hb1.size (fun i hi => (HO.out.lt i hi).1)
  rw [Nat.zero_add, List.nil_append] at hown2
  go_ret
  exact ⟨_, rfl, hown2, hb2⟩
end Go.Proofs.YtkngkajojcmmlaaGreatDoor

/- Rename. -/
namespace Go.Proofs.YtkngkajojcmmlaaGreatDoor
open Go.RowKit Go.PlainAid

/-- A list of nodes and an error. -/
def ansR (l : List Nd) (z : Int) (w : World) (e : Ending) (w' : World) : Prop := ∃ a c, e = .returned (.tuple #[.slice a l.length c, .int .i64 z]) ∧ NdsAt w' (.slice a l.length c) l ∧ Below w.heap.size w w'
theorem ansR_nil {w w' : World} {z : Int} (h : Below w.heap.size w w') : ansR [] z w (.returned (.tuple #[.slice none 0 0, .int .i64 z])) w' := ⟨none, 0, rfl, .inl ⟨_, _, rfl, rfl⟩, h⟩
def renU (t : List Nd) (f g : Ls) : List Nd := if renE t f g = 0 then renL f g t else []
theorem renU_bad {t : List Nd} {f g : Ls} {z : Int} (h : renE t f g = z) (hz : z ≠ 0) : renU t f g = [] := by unfold renU; rw [if_neg (by rw [h]; exact hz)]
theorem ren_ret {t : List Nd} {f g : Ls} {z : Int} {w w' : World} (h : renE t f g = z) (hz : z ≠ 0) (hb : Below w.heap.size w w') : ansR (renU t f g) (renE t f g) w (.returned (.tuple #[.slice none 0 0, .int .i64 z])) w' := by
  rw [renU_bad h hz, h]; exact ansR_nil hb
theorem StrRow.cellAt {w : World} {a : Option Addr} {n c : Nat} {l : Ls} (h : StrRow w (.slice a n c) l) {k : Nat} {s : List UInt8} (hk : l[k]? = some s) : ∃ g off, a = some ⟨g, off, none⟩ ∧ g < w.heap.size ∧ w.cell? ⟨g, off + k, none⟩ = some (.string (str s)) := by
  obtain ⟨a', c', e, hc⟩ := h
  obtain ⟨rfl, _, rfl⟩ := Value.slice.inj e
  rcases hc with rfl | ⟨g, off, rfl, hg, hcc⟩
  · cases hk
  · exact ⟨g, off, rfl, hg, hcc k s hk⟩
theorem own_cell4 {w : World} {B n : Nat} {e : TypeId} {g c : Nat} {xs : List Value} (h : w.ownsRow B e 4 (.slice (some ⟨g, 0, none⟩) n c) n xs) {j : Nat} {u : Value} (hj : xs[j]? = some u) : w.cell? ⟨g, j, none⟩ = some u := by
  have := h.cells (g := g) rfl j u hj
  rw [Go.WideShapes.add_plain, Nat.zero_add] at this; exact this
theorem renK_same {f g : Ls} {t : List Nd} {k : Nat} {x : Nd} (h : t[k]? = some x) (e : renN f g x = x) : renK f g t (k + 1) = renK f g t k := by
  obtain ⟨hk, he⟩ := List.getElem?_eq_some_iff.1 (renK_at (f := f) (g := g) h)
  rw [renK_step h, e, ← he]
  exact List.set_getElem_self hk
set_option maxRecDepth 50000 in
set_option maxHeartbeats 6400000 in
theorem Rename_any (v v1 v2 : Value) (t : List Nd) (f g : Ls) (w : World) (h : NdsAt w v t) (hf : StrRow w v1 f) (hg : StrRow w v2 g) (KB : KidsB t) (T : STabs w) (hfl : f.length ≤ 1000) :
    Calls Tryz.prog 12 #[v, v1, v2] w (ansR (renU t f g) (renE t f g) w) := by
  have C1 := Lib.hid (checkAll_any symS _ [t] _ (rows1 v t w 22 h) (Lib.hid (symAll_of (T.below (below_b1 w _)))) (Lib.hid (fun x hx => by rw [show x = t by simpa using hx]; exact KB)) (by simp))
  rw [chkAll_1] at C1
  have CSy := Lib.hid (fun (s : List UInt8) (W : World) (hW : Below w.heap.size w W) => symAll_of (T.below hW) s W (Below.refl _ _))
  have HFr := Lib.hid (fun (W : World) (hW : Below w.heap.size w W) => hf.below hW)
  have HGr := Lib.hid (fun (W : World) (hW : Below w.heap.size w W) => hg.below hW)
  have HRet := Lib.hid (fun (z : Int) (w' : World) (h : renE t f g = z) (hz : z ≠ 0) (hb : Below w.heap.size w w') => ren_ret h hz hb)
  obtain ⟨a1, c1, hv1, _⟩ := hf
  obtain ⟨a2, c2, hv2, _⟩ := hg
  subst hv1
  subst hv2
  obtain ⟨nf, hnf⟩ : ∃ n, f.length = n := ⟨_, rfl⟩
  obtain ⟨ng, hng⟩ : ∃ n, g.length = n := ⟨_, rfl⟩
  have HNf := Lib.hid hnf
  have HNg := Lib.hid hng
  rw [hnf] at HFr hfl ⊢
  rw [hng] at HGr ⊢
  obtain ⟨a0, c0, hv0⟩ := h.slice
  obtain ⟨n, hn⟩ : ∃ n, t.length = n := ⟨_, rfl⟩
  have HN := Lib.hid hn
  have HNd := Lib.hid h
  rw [hn] at hv0
  subst hv0
  obtain ⟨W1, hW1⟩ : ∃ W1, W1 = w.alloc (.cells #[.slice a0 n c0] 22) := ⟨_, rfl⟩
  have hb1 : Below w.heap.size w W1 := by rw [hW1]; exact below_b1 _ _
  rw [← hW1] at C1
  by_cases hc : (chkT symS t).2 = 0
  · have hc' := Lib.hid hc
    rw [hc] at C1
    clear h KB T hnf hng hn
    by_cases hlen : nf = ng
    · subst hlen
      have hne : ((nf : Int) != (nf : Int)) = false := by simp
      go_enter Tryz.func12, Tryz.ntmps12
      go_wp2_with fail
      rw [← hW1]
      refine C1.out.mono ?_
      rintro e w2 ⟨rfl, hb2⟩
      have hB2 := hb1.trans (hb2.mono hb1.size)
      clear hW1 hb1 hb2 C1 hc
      go_wp2_with fail
      -- MARK1
      go_loopw [27] (fun x27 wr => ∃ k : Nat, x27 = .int .i64 (k : Int) ∧ k ≤ nf ∧ Hid (∀ (j : Nat) s, j < k → (f[j]? = some s ∨ g[j]? = some s) → symS s = true) ∧ Below w.heap.size w wr) (fun x27 _ => nf - (intOf x27).toNat)
      case atStart => exact ⟨0, rfl, Nat.zero_le _, Lib.hid (fun j s hj => by omega), hB2⟩
      case round =>
        obtain ⟨k, rfl, hk, HSo, hbr⟩ := hrel
        have hk0 : (0 : Int) ≤ (k : Int) := Int.natCast_nonneg _
        by_cases hlt : k < nf
        · obtain ⟨x, hx⟩ : ∃ x, f[k]? = some x := ⟨_, List.getElem?_eq_getElem (by rw [HNf.out]; exact hlt)⟩
          obtain ⟨y, hy⟩ : ∃ y, g[k]? = some y := ⟨_, List.getElem?_eq_getElem (by rw [HNg.out]; exact hlt)⟩
          have hk1 : (k : Int) < (nf : Int) := by omega
          have hd : decide ((k : Int) < (nf : Int)) = true := decide_eq_true hk1
          obtain ⟨g1, o1, rfl, hg1, d1⟩ := (HFr.out wr hbr).cellAt hx
          have HGr2 := HGr
          obtain ⟨g2, o2, rfl, hg2, d2⟩ := (HGr.out wr hbr).cellAt hy
          have HBad : Hid ((symS x = false ∨ symS y = false) → renE t f g = 6) := Lib.hid fun hh => by
            unfold renE
            rw [if_neg (by rw [hc'.out]; simp), if_neg (by rw [HNf.out, HNg.out]; simp), if_pos]
            rw [Bool.and_eq_false_iff]
            rcases hh with hh | hh
            · exact .inl (List.all_eq_false.2 ⟨x, List.mem_of_getElem? hx, by rw [hh]; simp⟩)
            · exact .inr (List.all_eq_false.2 ⟨y, List.mem_of_getElem? hy, by rw [hh]; simp⟩)
          have CX := Lib.hid (CSy.out x wr hbr)
          have HXk := Lib.hid hx
          have HYk := Lib.hid hy
          obtain ⟨b1, hb1⟩ : ∃ b, symS x = b := ⟨_, rfl⟩
          obtain ⟨b2, hb2⟩ : ∃ b, symS y = b := ⟨_, rfl⟩
          have HB1 := Lib.hid hb1
          have HB2 := Lib.hid hb2
          rw [hb1] at CX
          clear hx hy hb1 hb2 HGr2
          go_wp2_with fail
          -- MARK2
          refine CX.out.mono ?_
          rintro e w3 ⟨rfl, hb3⟩
          have hbr3 := hbr.trans (hb3.mono hbr.size)
          cases b1 with
          | false =>
            go_wp2_with fail
            go_ret2
            exact HRet.out 6 _ (HBad.out (.inl HB1.out)) (by decide) hbr3
          | true =>
            have CY := Lib.hid (CSy.out y w3 hbr3)
            rw [HB2.out] at CY
            have d3 := (hb3.cell (p := ⟨g2, o2 + k, none⟩) hg2).trans d2
            go_wp2_with fail
            -- MARK3
            refine CY.out.mono ?_
            rintro e w4 ⟨rfl, hb4⟩
            have hbr4 := hbr3.trans (hb4.mono hbr3.size)
            cases b2 with
            | false =>
              go_wp2_with fail
              go_ret2
              exact HRet.out 6 _ (HBad.out (.inr HB2.out)) (by decide) hbr4
            | true =>
              have HSo2 : Hid (∀ (j : Nat) s, j < k + 1 → (f[j]? = some s ∨ g[j]? = some s) → symS s = true) := Lib.hid fun j s hj hs => by
                by_cases e : j = k
                · subst e
                  rcases hs with hs | hs
                  · rw [HXk.out] at hs; rw [← Option.some.inj hs]; exact HB1.out
                  · rw [HYk.out] at hs; rw [← Option.some.inj hs]; exact HB2.out
                · exact HSo.out j s (by omega) hs
              go_wp2_with fail
              go_roundw
              case rel => exact ⟨k + 1, by go_num, by omega, HSo2, hbr4⟩
              case measure => simp [intOf]; omega
        · obtain rfl : nf = k := by omega
          have hd : decide ((nf : Int) < (nf : Int)) = false := decide_eq_false (Int.lt_irrefl _)
          have HAll : Hid ((f.all symS && g.all symS) = true) := Lib.hid (by
            rw [Bool.and_eq_true, List.all_eq_true, List.all_eq_true]
            constructor
            · intro s hs
              obtain ⟨j, hj⟩ := List.getElem?_of_mem hs
              exact HSo.out j s (by rw [← HNf.out]; exact (List.getElem?_eq_some_iff.1 hj).1) (.inl hj)
            · intro s hs
              obtain ⟨j, hj⟩ := List.getElem?_of_mem hs
              exact HSo.out j s (by rw [← HNg.out]; exact (List.getElem?_eq_some_iff.1 hj).1) (.inr hj))
          have CT := Lib.hid (twice_any (.slice a1 nf c1) f wr (HFr.out wr hbr) (by rw [HNf.out]; exact hfl))
          clear HSo
          by_cases hnd : f.Nodup
          · have hE : renE t f g = 0 := by
              unfold renE
              rw [if_neg (by rw [hc'.out]; simp), if_neg (by rw [HNf.out, HNg.out]; simp), if_neg (by rw [HAll.out]; simp), if_neg (by simp [hnd])]
            have HE := Lib.hid hE
            have hU : renU t f g = renL f g t := by unfold renU; rw [if_pos hE]
            rw [decide_eq_false (by simp [hnd])] at CT
            have HU := Lib.hid hU
            obtain ⟨gt, ot, ct, hv, hgt, hcl⟩ := HNd.out.some (chkT_ok hc'.out).2.1
            rw [HN.out] at hv
            obtain ⟨rfl, _, rfl⟩ := Value.slice.inj hv
            have h400 : n ≤ 400 := by rw [← HN.out]; exact (chkT_ok hc'.out).2.2.1
            have HCl := Lib.hid hcl
            clear hcl hv hE hU hnd HAll
            go_wp2_with fail
            -- MARK4
            refine CT.out.mono ?_
            rintro e w3 ⟨rfl, hb3⟩
            have hbr3 := hbr.trans (hb3.mono hbr.size)
            have CC := Lib.hid (clone_own gt ot c0 n t w3 HN.out (by omega) (fun j u hj => (hbr3.cell (p := ⟨gt, ot + j, none⟩) hgt).trans (HCl.out j u hj)) (Nat.lt_of_lt_of_le hgt hbr3.size))
            clear CT hb3 hbr
            go_wp2_with fail
            -- MARK5
            refine CC.out.mono ?_
            rintro e w4 ⟨vu, rfl, ho4, hb4⟩
            have hbr4 := hbr3.trans (hb4.mono hbr3.size)
            have hpos : 0 < n := by rw [← HN.out]; exact List.length_pos_iff.2 (chkT_ok hc'.out).2.1
            obtain ⟨gu, cu, rfl, hgu1, hgu2⟩ : ∃ gu cu, vu = .slice (some ⟨gu, 0, none⟩) n cu ∧ w3.heap.size ≤ gu ∧ gu < w4.heap.size := by
              rcases own_form ho4 with ⟨_, h0⟩ | h0
              · omega
              · exact h0
            have hBg : w.heap.size ≤ gu := Nat.le_trans hbr3.size hgu1
            have HO4 : Hid (w4.ownsRow w3.heap.size 40 4 (.slice (some ⟨gu, 0, none⟩) n cu) n (dcs (renK f g t 0))) := Lib.hid (by rw [renK_0]; exact ho4)
            clear CC hb4 ho4
            go_wp2_with fail
            -- MARK6
            go_loopw [51] (fun x51 wr => ∃ k : Nat, x51 = .int .i64 (k : Int) ∧ k ≤ n ∧ Hid (wr.ownsRow w3.heap.size 40 4 (.slice (some ⟨gu, 0, none⟩) n cu) n (dcs (renK f g t k))) ∧ Below w.heap.size w wr ∧ gu < wr.heap.size) (fun x51 _ => n - (intOf x51).toNat)
            case atStart => exact ⟨0, rfl, Nat.zero_le _, HO4, hbr4, hgu2⟩
            case round =>
              obtain ⟨k, rfl, hk, HO, hbr, hgur⟩ := hrel
              have hk0 : (0 : Int) ≤ (k : Int) := Int.natCast_nonneg _
              by_cases hlt : k < n
              · obtain ⟨x, hx⟩ : ∃ x, t[k]? = some x := ⟨_, List.getElem?_eq_getElem (by rw [HN.out]; exact hlt)⟩
                have hk1 : (k : Int) < (n : Int) := by omega
                have hd : decide ((k : Int) < (n : Int)) = true := decide_eq_true hk1
                obtain ⟨p0, p1, p2, p3⟩ := dcs_at t hx
                have d0 := (hbr.cell (p := ⟨gt, ot + k * 4, none⟩) hgt).trans (HCl.out _ _ p0)
                have d1 := (hbr.cell (p := ⟨gt, ot + (k * 4 + 1), none⟩) hgt).trans (HCl.out _ _ p1)
                have d2 := (hbr.cell (p := ⟨gt, ot + (k * 4 + 2), none⟩) hgt).trans (HCl.out _ _ p2)
                have d3 := (hbr.cell (p := ⟨gt, ot + (k * 4 + 3), none⟩) hgt).trans (HCl.out _ _ p3)
                have e3 := own_cell4 HO.out (dcs_at _ (renK_at (f := f) (g := g) hx)).2.2.2
                have f3 := HO.out.frozenAt (k * 4 + 3)
                have HSt := Lib.hid (renK_step (f := f) (g := g) hx)
                have HSm := Lib.hid (renK_same (f := f) (g := g) hx)
                have HS3 := Lib.hid (fun s => dcs_set3 _ k x s (renK_at (f := f) (g := g) hx))
                have hcas := renN_cases (f := f) (g := g) (x := x) (renE_0 HE.out).2.2.1 (renE_0 HE.out).2.1 ((chkT_ok hc'.out).2.2.2.1 x (List.mem_of_getElem? hx))
                obtain ⟨x0, x1, x2, x3⟩ := x
                simp only [← Nat.add_assoc] at d0 d1 d2 d3 e3 HSt HS3 HSm hcas
                have CP : Hid (∀ W, Below w.heap.size w W → Calls Tryz.prog 32 #[.slice a1 nf c1, .string (str x3)] W fun e w' => e = .returned (.int .i64 (plcS f x3)) ∧ W = w') := Lib.hid fun W hW => placeS_any _ f x3 W (HFr.out W hW) (by rw [HNf.out]; omega)
                have hbx : Below w.heap.size w (wr.alloc (.cells #[.int .i64 x0, .int .i64 x1, .int .i64 x2, .string (str x3)] 40)) := hbr.alloc hbr.size _
                have hgx : gu ≠ wr.heap.size := by omega
                clear hx p0 p1 p2 p3
                rcases hcas with ⟨e0, hno⟩ | ⟨hk3, j, j1, j2, j3, e0⟩
                · rw [plcS_none hno] at CP
                  have hsm := HSm.out e0
                  have HSm2 := Lib.hid hsm
                  clear hsm hno e0
                  go_wp2_with (go_at_call 32; refine (CP.out _ hbx).mono ?_; rintro e w5 ⟨rfl, rfl⟩)
                  -- MARK7
                  exact ⟨⟨k + 1, by go_num, by omega, Lib.hid (by rw [HSm2.out]; exact HO.out.alloc _), hbx, by rw [World.size_alloc]; omega⟩, by simp [intOf]; omega⟩
                · obtain ⟨s', hs'⟩ : ∃ s', g[j]? = some s' := ⟨_, List.getElem?_eq_getElem j2⟩
                  obtain ⟨g2, o2, rfl, hg2, q2⟩ := (HGr.out wr hbr).cellAt hs'
                  have q3 := (World.cell?_alloc_lt wr (.cells #[.int .i64 x0, .int .i64 x1, .int .i64 x2, .string (str x3)] 40) ⟨g2, o2 + j, none⟩ hg2).trans q2
                  have hgd : g.getD j [] = s' := by rw [List.getD_eq_getElem?_getD, hs']; rfl
                  rw [j3] at CP
                  rw [e0, hgd] at HSt
                  have hst2 := HS3.out s'
                  rw [← HSt.out] at hst2
                  have HSt2 := Lib.hid hst2
                  have hjn : j < nf := by rw [← HNg.out]; exact j2
                  have hj0 : (0 : Int) ≤ (j : Int) := Int.natCast_nonneg _
                  have hj1 : (j : Int) < (nf : Int) := by omega
                  obtain ⟨r1, r2⟩ := HO.out.stored (k * 4 + 3) (.string (str s'))
                  rw [HSt2.out] at r1
                  have HR1 := Lib.hid r1
                  have e4 := (World.cell?_alloc_lt wr (.cells #[.int .i64 x0, .int .i64 x1, .int .i64 x2, .string (str x3)] 40) ⟨gu, k * 4 + 3, none⟩ hgur).trans e3
                  obtain ⟨z, hz⟩ : ∃ z, str s' = z := ⟨_, rfl⟩
                  rw [hz] at q3 HR1 q2
                  clear j1 j2 j3 e0 hs' hgd hst2 r1 r2 hz hk3
                  go_wp2_with (go_at_call 32; refine (CP.out _ hbx).mono ?_; rintro e w5 ⟨rfl, rfl⟩)
                  -- MARK8
                  exact ⟨⟨k + 1, by go_num, by omega, Lib.hid (HR1.out.alloc _), (hbr.setCell (p := ⟨gu, k * 4 + 3, none⟩) hBg _).alloc (by rw [World.size_setCell]; exact hbr.size) _, by rw [World.size_alloc, World.size_setCell]; omega⟩, by simp [intOf]; omega⟩
              · obtain rfl : k = n := by omega
                have hd : decide ((k : Int) < (k : Int)) = false := decide_eq_false (Int.lt_irrefl _)
                have hall : renK f g t k = renL f g t := by rw [← HN.out]; exact renK_all f g t
                have hO := HO.out
                rw [hall] at hO
                have hln : (renL f g t).length = k := by unfold renL; rw [List.length_map, HN.out]
                obtain ⟨a9, c9, hv9, hN9, _⟩ := nds_own hO hln
                have HN9 := Lib.hid hN9
                have HLn := Lib.hid hln
                obtain ⟨rfl, _, rfl⟩ := Value.slice.inj hv9
                clear hall hO hln hN9 hv9 HO
                go_wp2_with fail
                go_ret2
                rw [HU.out, HE.out]
                refine ⟨some ⟨gu, 0, none⟩, cu, ?_, ?_, hbr⟩
                · show _ = Ending.returned (.tuple #[.slice _ (renL f g t).length _, _])
                  -- MARK9
                  rw [HLn.out]; rfl
                · rw [HLn.out]; exact HN9.out
          · have HE8 : Hid (renE t f g = 8) := Lib.hid (by
              unfold renE
              rw [if_neg (by rw [hc'.out]; simp), if_neg (by rw [HNf.out, HNg.out]; simp), if_neg (by rw [HAll.out]; simp), if_pos (by simpa using hnd)])
            rw [decide_eq_true (by simpa using hnd)] at CT
            clear HAll hnd
            go_wp2_with fail
            refine CT.out.mono ?_
            rintro e w3 ⟨rfl, hb3⟩
            go_wp2_with fail
            go_ret2
            exact HRet.out 8 _ HE8.out (by decide) (hbr.trans (hb3.mono hbr.size))
    · have HE2 : Hid (renE t f g = 2) := Lib.hid (by
        unfold renE
        rw [if_neg (by rw [hc'.out]; simp), if_pos (by rw [HNf.out, HNg.out]; exact hlen)])
      have hne : ((nf : Int) != (ng : Int)) = true := bne_iff_ne.2 (by omega)
      clear hlen hc
      go_enter Tryz.func12, Tryz.ntmps12
      go_wp2_with fail
      rw [← hW1]
      refine C1.out.mono ?_
      rintro e w2 ⟨rfl, hb2⟩
      go_wp2_with fail
      go_ret2
      exact HRet.out 2 _ HE2.out (by decide) (hb1.trans (hb2.mono hb1.size))
  · obtain ⟨e2, he2⟩ : ∃ e2, (chkT symS t).2 = e2 := ⟨_, rfl⟩
    have HEe : Hid (renE t f g = e2) := Lib.hid (by unfold renE; rw [if_pos hc]; exact he2)
    rw [he2] at C1 hc
    have hne : (e2 != 0) = true := bne_iff_ne.2 hc
    have HC := Lib.hid hc
    clear h KB T hnf hng hn hc he2
    go_enter Tryz.func12, Tryz.ntmps12
    go_wp2_with fail
    rw [← hW1]
    refine C1.out.mono ?_
    rintro e w2 ⟨rfl, hb2⟩
    go_wp2_with fail
    go_ret2
    exact HRet.out e2 _ HEe.out HC.out (hb1.trans (hb2.mono hb1.size))
end Go.Proofs.YtkngkajojcmmlaaGreatDoor

/- The reference's Strings. -/
namespace Go.Proofs.YtkngkajojcmmlaaGreatDoor
open Go.RowKit Go.PlainAid

theorem take_moreS {l m : Ls} {k : Nat} {x : List UInt8} (h : l.take k = m.take k) (h1 : l[k]? = some x) (h2 : m[k]? = some x) : l.take (k + 1) = m.take (k + 1) := by
  rw [List.take_add_one, List.take_add_one, h, h1, h2]
set_option maxRecDepth 50000 in
set_option maxHeartbeats 1600000 in
theorem strs4_any (v v' : Value) (l m : Ls) (w : World) (h : StrRow w v l) (h' : StrRow w v' m) (hl : l.length ≤ 1000000) :
    Calls Tryz.prog 11 #[v, v'] w fun e w' => e = .returned (.bool (decide (l = m))) ∧ Below w.heap.size w w' := by
  obtain ⟨a, c, rfl, hA⟩ := h
  obtain ⟨a', c', rfl, hA'⟩ := h'
  have HA := Lib.hid hA
  have HA' := Lib.hid hA'
  clear hA hA'
  by_cases hn : l.length = m.length
  · obtain ⟨n, hln⟩ : ∃ n, l.length = n := ⟨_, rfl⟩
    have hmn : m.length = n := hn ▸ hln
    have HL := Lib.hid hln
    have HM := Lib.hid hmn
    rw [hln] at hl
    rw [hln, hmn]
    clear hn hln hmn
    go_enter Tryz.func11, Tryz.ntmps11
    go_wp2_with fail
    go_loopw [5] (fun x5 wr => ∃ k : Nat, x5 = .int .i64 k ∧ k ≤ n ∧ Hid (l.take k = m.take k) ∧ Below w.heap.size w wr) (fun x5 _ => n - (intOf x5).toNat)
    case atStart => exact ⟨0, rfl, Nat.zero_le _, Lib.hid (by rw [List.take_zero, List.take_zero]), Below.refl _ _⟩
    case round =>
      obtain ⟨k, rfl, hk, HT, hbr⟩ := hrel
      by_cases hlt : k < n
      · obtain ⟨x, hx⟩ : ∃ x, l[k]? = some x := ⟨_, List.getElem?_eq_getElem (by rw [HL.out]; exact hlt)⟩
        obtain ⟨y, hy⟩ : ∃ y, m[k]? = some y := ⟨_, List.getElem?_eq_getElem (by rw [HM.out]; exact hlt)⟩
        rcases HA.out with hnil | ⟨g1, o1, rfl, hg1, hc1⟩
        · rw [hnil] at hx; cases hx
        rcases HA'.out with hnil | ⟨g2, o2, rfl, hg2, hc2⟩
        · rw [hnil] at hy; cases hy
        have d1 : wr.cell? ⟨g1, o1 + k, none⟩ = some (.string (str x)) := (hbr.cell (p := ⟨g1, o1 + k, none⟩) hg1).trans (hc1 _ _ hx)
        have d2 : wr.cell? ⟨g2, o2 + k, none⟩ = some (.string (str y)) := (hbr.cell (p := ⟨g2, o2 + k, none⟩) hg2).trans (hc2 _ _ hy)
        have hk0 : (0 : Int) ≤ (k : Int) := Int.natCast_nonneg _
        have hk1 : (k : Int) < (n : Int) := by omega
        by_cases hxy : x = y
        · subst hxy
          have HT2 := Lib.hid (take_moreS HT.out hx hy)
          have hbq := str_beq x x
          rw [decide_eq_true rfl] at hbq
          obtain ⟨u, hu⟩ : ∃ u, str x = u := ⟨_, rfl⟩
          rw [hu] at d1 d2 hbq
          clear hx hy hc1 hc2 hu
          go_wp2_with fail
          go_quiet (fail)
          go_wp2_with fail
          exact ⟨⟨k + 1, by go_num, by omega, HT2, ⟨hbr.os, hbr.tape, hbr.output, hbr.size, hbr.block⟩⟩, by simp [intOf]; omega⟩
        · have hbq := str_beq x y
          rw [decide_eq_false hxy] at hbq
          have HD : Hid (decide (l = m) = false) := Lib.hid (decide_eq_false (fun e => by rw [e, hy] at hx; exact hxy (Option.some.inj hx).symm))
          obtain ⟨u, hu⟩ : ∃ u, str x = u := ⟨_, rfl⟩
          obtain ⟨z, hz⟩ : ∃ z, str y = z := ⟨_, rfl⟩
          rw [hu] at d1 hbq
          rw [hz] at d2 hbq
          clear hx hy hc1 hc2 hxy hu hz
          go_wp2_with fail
          go_quiet (fail)
          go_wp2_with fail
          go_ret
          exact ⟨ret_bool (by rw [HD.out]), ⟨hbr.os, hbr.tape, hbr.output, hbr.size, hbr.block⟩⟩
      · obtain rfl : k = n := by omega
        have HD : Hid (decide (l = m) = true) := Lib.hid (decide_eq_true (by
          have := HT.out
          rwa [List.take_of_length_le (Nat.le_of_eq HL.out), List.take_of_length_le (Nat.le_of_eq HM.out)] at this))
        go_wp2_with fail
        go_ret
        exact ⟨ret_bool (by rw [HD.out]), hbr⟩
  · have HD : Hid (decide (l = m) = false) := Lib.hid (decide_eq_false (fun e => hn (by rw [e])))
    have hne : ((l.length : Int) != (m.length : Int)) = true := bne_iff_ne.2 (by omega)
    clear hn
    go_enter Tryz.func11, Tryz.ntmps11
    go_wp2_with fail
    go_ret
    exact ⟨ret_bool (by rw [HD.out]), Below.refl _ _⟩
end Go.Proofs.YtkngkajojcmmlaaGreatDoor

/- Names as arguments: a struct of two slices of strings. -/
namespace Go.Proofs.YtkngkajojcmmlaaGreatDoor
open Go.ChangeShapes Go.WideShapes Go.ChangeAt Go.RowKit Go.Deep

set_option maxRecDepth 100000 in
theorem open_strs_cs {H : Type} {enc : TypeId × Value → H} {W : World} {fuel : Nat} {cs : List Value} {x : DataW H × List MemPlace}
    (hf : DataW.trod enc Tryz.prog W 0 (fun _ => true) true fuel 23 cs = some x) :
    ∃ (v : Value) (l : List (List UInt8)), cs = [v] ∧ StrRow W v l ∧ l.length ≤ maxLen := by
  rcases open_slice Tryz.underlying23 hf with ⟨hcs, _⟩ | ⟨a, n0, c0, m, n, D, Pl, hcs, _, hl, hm, hmm, _, hx⟩
  · exact ⟨_, [], hcs, ⟨none, 0, rfl, .inl rfl⟩, Nat.zero_le _⟩
  · have hnm : n0 ≤ m := by rw [hmm]; simp; exact hl
    have hv : ∀ i, i < n0 → ∃ s : List UInt8, W.cell? (a.add i) = some (.string (str s)) := by
      intro i hi
      obtain ⟨cs', h1, h2⟩ := hx i (by omega)
      rw [cStr] at h1
      obtain ⟨_, hlen, hcell⟩ := World.cells?_some h1
      obtain ⟨y, e, _, _⟩ := DataW.trod_string Tryz.underlying9 h2
      subst e
      have q0 := hcell 0 (by omega)
      rw [add_add] at q0
      refine ⟨y.data.toList, ?_⟩
      rw [str_data]
      simpa using q0
    obtain ⟨F, hF⟩ := choose_lt hv
    refine ⟨_, (List.range n0).map F, hcs, ⟨some a, c0, by simp, ?_⟩, by simp; omega⟩
    by_cases h0 : n0 = 0
    · subst h0; exact .inl rfl
    · obtain ⟨b, off, spot⟩ := a
      have hspot : spot = none := by simpa [Addr.add] using World.cell?_spot (hF 0 (by omega))
      subst hspot
      refine .inr ⟨b, off, rfl, World.block_lt_of_cell? W ⟨b, off, none⟩ (by have := hF 0 (by omega); simpa [Addr.add] using this), fun j s hj => ?_⟩
      have hjl : j < n0 := by
        have := (List.getElem?_eq_some_iff.1 hj).1
        simpa using this
      rw [List.getElem?_map, List.getElem?_range hjl] at hj
      obtain rfl := Option.some.inj hj
      have f0 := hF j hjl
      rw [Go.WideShapes.add_plain] at f0
      exact f0
theorem cStrs : Tryz.prog.cellsOf 23 = 1 := by kernel_rfl
theorem cNames : Tryz.prog.cellsOf 25 = 2 := by kernel_rfl
set_option maxRecDepth 100000 in
theorem open_names {H : Type} {enc : TypeId × Value → H} {W : World} {base : Nat} {v : Value} {d : DataW H} {p : List MemPlace}
    (hval : Value.okWide Tryz.prog W .any base 25 v) (h : DataW.Trod enc Tryz.prog W 0 (fun _ => true) true 25 v d p) :
    ∃ (v0 v1 : Value) (l0 l1 : List (List UInt8)), v = .agg #[v0, v1] ∧ StrRow W v0 l0 ∧ StrRow W v1 l1 := by
  obtain ⟨cs, rfl, hsz⟩ := okWide_struct Tryz.underlying25 hval
  obtain ⟨fuel, hf⟩ := h
  have hf' : DataW.trod enc Tryz.prog W 0 (fun _ => true) true fuel 25 cs.toList = some (d, p) := hf
  obtain ⟨y0, y1, n, hx, hl, h0, h1⟩ := trod_struct2 Tryz.underlying25 hf'
  rw [cNames] at hl
  obtain ⟨c0, c1, hcs⟩ : ∃ c0 c1, cs.toList = [c0, c1] := by
    match hm : cs.toList, hl with
    | [c0, c1], _ => exact ⟨c0, c1, rfl⟩
  have hcs' : cs = #[c0, c1] := Array.toList_inj.1 hcs
  rw [hcs] at h0 h1
  simp only [cStrs] at h0 h1
  obtain ⟨v0, l0, e0, r0, _⟩ := open_strs_cs h0
  obtain ⟨v1, l1, e1, r1, _⟩ := open_strs_cs h1
  simp at e0 e1
  subst e0 e1
  exact ⟨_, _, l0, l1, by rw [hcs'], r0, r1⟩
end Go.Proofs.YtkngkajojcmmlaaGreatDoor
