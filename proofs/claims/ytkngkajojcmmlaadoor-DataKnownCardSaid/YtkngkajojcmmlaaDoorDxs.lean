import Derived.Test.YtkngkajojcmmlaaDoorDsub2
import Derived.Lib.SlicesCompact
import Derived.Test.YtkngkajojcmmlaaDoorDround
import Derived.Maps.AppendAt
import Derived.Test.YtkngkajojcmmlaaDoorShelfS
import Derived.Sort.OwnSorted
import Derived.Lib.RowBridge
import Derived.Test.YtkngkajojcmmlaaDoorDputs
/- Rows of strings; the law's many; the reference's Strings. -/
namespace Go.Proofs.YtkngkajojcmmlaaDoor
open Go.RowKit Go.PlainAid

/-- The slice value v holds the strings l. -/
def StrRow (w : World) (v : Value) (l : List (List UInt8)) : Prop := ∃ a c, v = .slice a l.length c ∧ (l = [] ∨ ∃ g off, a = some ⟨g, off, none⟩ ∧ g < w.heap.size ∧ ∀ (j : Nat) (s : List UInt8), l[j]? = some s → w.cell? ⟨g, off + j, none⟩ = some (.string (str s)))
theorem StrRow.below {w w' : World} {v : Value} {l : List (List UInt8)} (h : StrRow w v l) (hb : Below w.heap.size w w') : StrRow w' v l := by
  obtain ⟨a, c, e, h⟩ := h
  refine ⟨a, c, e, h.imp id ?_⟩
  rintro ⟨g, off, e, hg, hc⟩
  exact ⟨g, off, e, Nat.lt_of_lt_of_le hg hb.size, fun j s hj => (hb.cell (p := ⟨g, off + j, none⟩) hg).trans (hc j s hj)⟩
/-- What many returns. -/
def manyV (l : List (List UInt8)) (w : World) (e : Ending) (w' : World) : Prop := ∃ b, e = .returned (.bool b) ∧ (b = false → l.length ≤ 50 ∧ ∀ s ∈ l, s.length ≤ 100) ∧ Below w.heap.size w w'
set_option maxRecDepth 50000 in
set_option maxHeartbeats 1600000 in
theorem many_any (v : Value) (l : List (List UInt8)) (w : World) (h : StrRow w v l) : Calls Tryd.prog 41 #[v] w (manyV l w) := by
  obtain ⟨a, c, rfl, hA⟩ := h
  have HA : Hid (∀ W, Below w.heap.size w W → ∀ (k : Nat) (s : List UInt8), l[k]? = some s → ∃ g off, a = some ⟨g, off, none⟩ ∧ W.cell? ⟨g, off + k, none⟩ = some (.string (str s))) := Lib.hid fun W hW k s hs => by
    rcases hA with rfl | ⟨g, off, rfl, hg, hc⟩
    · cases hs
    · exact ⟨g, off, rfl, (hW.cell (p := ⟨g, off + k, none⟩) hg).trans (hc k s hs)⟩
  obtain ⟨n, hn⟩ : ∃ n, l.length = n := ⟨_, rfl⟩
  have HN := Lib.hid hn
  rw [hn]
  clear hA hn
  by_cases hbg : 50 < n
  · have hd : decide ((50 : Int) < (n : Int)) = true := decide_eq_true (by omega)
    go_enter Tryd.func41, Tryd.ntmps41
    go_wp2
    go_ret
    exact ⟨_, rfl, (fun e => by cases e), Below.refl _ _⟩
  · have hd : decide ((50 : Int) < (n : Int)) = false := decide_eq_false (by omega)
    go_enter Tryd.func41, Tryd.ntmps41
    go_wp2
    go_loopw [3] (fun i wr => ∃ k : Nat, k ≤ n ∧ i = .int .i64 k ∧ Hid (∀ (j : Nat) x, j < k → l[j]? = some x → x.length ≤ 100) ∧ Below w.heap.size w wr) (fun i _ => n - (intOf i).toNat)
    case atStart => exact ⟨0, Nat.zero_le _, rfl, Lib.hid (fun j x h => by omega), Below.refl _ _⟩
    case round =>
      obtain ⟨k, hk, rfl, hno, hbel⟩ := hrel
      have hk0 : (0 : Int) ≤ (k : Int) := Int.natCast_nonneg _
      by_cases hlt : k < n
      · obtain ⟨x, hxk⟩ : ∃ x, l[k]? = some x := ⟨_, List.getElem?_eq_getElem (by rw [HN.out]; exact hlt)⟩
        obtain ⟨g, off, rfl, c0⟩ := HA.out wr hbel k x hxk
        have hkl : (k : Int) < (n : Int) := by omega
        have HX := Lib.hid hxk
        clear hxk
        obtain ⟨z, hz⟩ : ∃ z, (str x).size = z := ⟨_, rfl⟩
        have HZ : Hid (x.length = z) := Lib.hid (by rw [← hz, str_size])
        by_cases hbig : 100 < z
        · have hd2 : decide ((100 : Int) < (z : Int)) = true := decide_eq_true (by omega)
          clear hbig
          go_wp2
          go_ret
          exact ⟨_, rfl, (fun e => by cases e), hbel⟩
        · have hd2 : decide ((100 : Int) < (z : Int)) = false := decide_eq_false (by omega)
          have HNo : Hid (∀ (j : Nat) x, j < k + 1 → l[j]? = some x → x.length ≤ 100) := Lib.hid (fun j y h1 h2 => by
            by_cases e : j = k
            · rw [e, HX.out] at h2; rw [← Option.some.inj h2, HZ.out]; omega
            · exact hno.out j y (by omega) h2)
          clear hbig
          go_wp2
          go_roundw
          case rel => exact ⟨k + 1, by omega, by go_num, HNo, hbel⟩
          case measure => simp [intOf]; omega
      · obtain rfl : k = n := by omega
        go_wp2
        go_ret
        exact ⟨_, rfl, (fun _ => ⟨by rw [HN.out]; omega, fun s hs => by
          obtain ⟨j, hj⟩ := List.getElem?_of_mem hs
          exact hno.out j s (by rw [← HN.out]; exact (List.getElem?_eq_some_iff.1 hj).1) hj⟩), hbel⟩
end Go.Proofs.YtkngkajojcmmlaaDoor

/- Sets of strings, in order: mathematics. -/
namespace Go.Proofs.YtkngkajojcmmlaaDoor

abbrev Ls := List (List UInt8)
def leB (x y : List UInt8) : Bool := decide (x ≤ y)
theorem s_irr (x : List UInt8) : ¬ x < x := List.lt_irrefl x
theorem s_trans {x y z : List UInt8} (h : x < y) (h' : y < z) : x < z := List.lt_trans h h'
theorem s_cases (x y : List UInt8) : x < y ∨ x = y ∨ y < x := by
  by_cases h : x ≤ y
  · by_cases h' : y ≤ x
    · exact .inr (.inl (List.le_antisymm h h'))
    · exact .inl (List.not_le.1 h')
  · exact .inr (.inr (List.not_le.1 h))
theorem s_le {x y : List UInt8} : x ≤ y ↔ x < y ∨ x = y := by
  constructor
  · intro h
    rcases s_cases x y with h1 | h1 | h1
    · exact .inl h1
    · exact .inr h1
    · exact absurd h (List.not_le.2 h1)
  · rintro (h | rfl)
    · exact List.le_of_lt h
    · exact List.le_refl x
theorem s_lt_le {x y z : List UInt8} (h : x ≤ y) (h' : y < z) : x < z := by
  rcases s_le.1 h with h1 | rfl
  · exact s_trans h1 h'
  · exact h'

/-- l' has just the strings of l, ascending, each once. -/
def SymS (l l' : Ls) : Prop := l'.Pairwise (· < ·) ∧ ∀ x, x ∈ l' ↔ x ∈ l
theorem asc_uniq : ∀ {a b : Ls}, a.Pairwise (· < ·) → b.Pairwise (· < ·) → (∀ x, x ∈ a ↔ x ∈ b) → a = b := by
  intro a
  induction a with
  | nil =>
    intro b _ _ h
    cases b with
    | nil => rfl
    | cons y b => have := (h y).2 (by simp); simp at this
  | cons x a ih =>
    intro b ha hb h
    cases b with
    | nil => have := (h x).1 (by simp); simp at this
    | cons y b =>
      obtain ⟨a1, a2⟩ := List.pairwise_cons.1 ha
      obtain ⟨b1, b2⟩ := List.pairwise_cons.1 hb
      have hxy : x = y := by
        rcases List.mem_cons.1 ((h x).1 (by simp)) with e | e
        · exact e
        · rcases List.mem_cons.1 ((h y).2 (by simp)) with e' | e'
          · exact e'.symm
          · exact absurd (s_trans (a1 y e') (b1 x e)) (s_irr x)
      subst hxy
      congr 1
      refine ih a2 b2 fun z => ⟨fun hz => ?_, fun hz => ?_⟩
      · rcases List.mem_cons.1 ((h z).1 (by simp [hz])) with e | e
        · exact absurd (e ▸ a1 z hz) (s_irr _)
        · exact e
      · rcases List.mem_cons.1 ((h z).2 (by simp [hz])) with e | e
        · exact absurd (e ▸ b1 z hz) (s_irr _)
        · exact e
theorem SymS.uniq {l a b : Ls} (ha : SymS l a) (hb : SymS l b) : a = b := asc_uniq ha.1 hb.1 fun x => (ha.2 x).trans (hb.2 x).symm

theorem sort_asc (l : Ls) : (l.mergeSort leB).Pairwise (· ≤ ·) := by
  have := List.pairwise_mergeSort (le := leB) (fun a b c h1 h2 => by
    unfold leB at *; simp only [decide_eq_true_eq] at *; exact List.le_trans h1 h2) (fun a b => by
    unfold leB; simp only [Bool.or_eq_true, decide_eq_true_eq]; exact List.le_total a b) l
  exact this.imp fun h => by unfold leB at h; simpa using h
theorem sort_mem (l : Ls) (x : List UInt8) : x ∈ l.mergeSort leB ↔ x ∈ l := List.mem_mergeSort
theorem sort_perm (l : Ls) : (l.mergeSort leB).Perm l := List.mergeSort_perm l leB

/-- The first m strings of a row that ascends, each once. -/
theorem upTo_asc {s : Ls} (h : s.Pairwise (· ≤ ·)) : ∀ m, m ≤ s.length → (Lib.compactUpTo s.toArray m).Pairwise (· < ·) ∧ ∀ x, x ∈ Lib.compactUpTo s.toArray m ↔ x ∈ s.take m := by
  intro m
  induction m with
  | zero => intro _; simp [Lib.compactUpTo]
  | succ m ih =>
    intro hm
    obtain ⟨h1, h2⟩ := ih (by omega)
    have hms : m < s.length := hm
    have hget : s.toArray[m]! = s[m] := by rw [getElem!_pos s.toArray m (by simpa using hms)]; simp
    have hle : ∀ j (hj : j < m), s[j] ≤ s[m] := fun j hj => List.pairwise_iff_getElem.1 h j m (by omega) hms hj
    rw [Lib.compactUpTo_succ, hget]
    have htk : s.take (m + 1) = s.take m ++ [s[m]] := List.take_succ_eq_append_getElem hms
    by_cases hk : Lib.keeps s.toArray m = true
    · rw [if_pos hk]
      refine ⟨List.pairwise_append.2 ⟨h1, by simp, fun x hx y hy => ?_⟩, fun x => by rw [List.mem_append, htk, List.mem_append, h2]⟩
      obtain rfl : y = s[m] := by simpa using hy
      obtain ⟨j, hj, rfl⟩ := List.mem_take_iff_getElem.1 ((h2 x).1 hx)
      have hjm : j < m := by omega
      unfold Lib.keeps at hk
      simp only [decide_eq_true_eq] at hk
      have hm0 : m ≠ 0 := by omega
      have hne : s[m] ≠ s[m - 1] := by
        rcases hk with e | e
        · exact absurd e hm0
        · rw [hget, getElem!_pos s.toArray (m - 1) (by simp; omega)] at e
          simpa using e
      have hp : s[m - 1] < s[m] := by
        rcases s_le.1 (hle (m - 1) (by omega)) with e | e
        · exact e
        · exact absurd e.symm hne
      by_cases hjm1 : j = m - 1
      · subst hjm1; exact hp
      · exact s_lt_le (List.pairwise_iff_getElem.1 h j (m - 1) (by omega) (by omega) (by omega)) hp
    · rw [if_neg hk, List.append_nil]
      refine ⟨h1, fun x => ?_⟩
      rw [h2, htk, List.mem_append]
      refine ⟨.inl, ?_⟩
      rintro (e | e)
      · exact e
      · obtain rfl : x = s[m] := by simpa using e
        unfold Lib.keeps at hk
        simp only [decide_eq_true_eq, not_or, Decidable.not_not] at hk
        obtain ⟨k1, k2⟩ := hk
        rw [hget, getElem!_pos s.toArray (m - 1) (by simp; omega)] at k2
        refine List.mem_take_iff_getElem.2 ⟨m - 1, by omega, ?_⟩
        simpa using k2.symm
theorem compact_asc {s : Ls} (h : s.Pairwise (· ≤ ·)) : SymS s (Lib.compact s) := by
  obtain ⟨h1, h2⟩ := upTo_asc h s.length (Nat.le_refl _)
  rw [List.take_length] at h2
  exact ⟨h1, h2⟩
theorem SymS.of_mem {l m a : Ls} (h : SymS l a) (hm : ∀ x, x ∈ l ↔ x ∈ m) : SymS m a := ⟨h.1, fun x => (h.2 x).trans (hm x)⟩
/-- What the program makes. -/
theorem prog_sym (l : Ls) : SymS l (Lib.compact (l.mergeSort leB)) := (compact_asc (sort_asc l)).of_mem fun x => sort_mem l x
theorem asc_nodup {l : Ls} (h : l.Pairwise (· < ·)) : l.Nodup := h.imp fun {a b} hab e => by subst e; exact s_irr a hab
theorem filter_all {α : Type} {p : α → Bool} : ∀ {l : List α}, (l.filter p).length = l.length → ∀ x ∈ l, p x = true := fun h x hx => by
  have h1 := List.length_filter_eq_length_iff.1 h
  exact h1 x hx
theorem compact_len (s : Ls) : (Lib.compact s).length = s.length ↔ Lib.compact s = s := by
  constructor
  · intro h
    refine Lib.compact_all s fun j hj => ?_
    unfold Lib.compact Lib.compactUpTo at h
    rw [List.length_map] at h
    exact filter_all (l := List.range s.length) (p := Lib.keeps s.toArray) (by rw [List.length_range]; exact h) j (List.mem_range.2 hj)
  · intro h; rw [h]
/-- How the program finds what is there twice. -/
theorem twice_iff (l : Ls) : (Lib.compact (l.mergeSort leB)).length < l.length ↔ ¬ l.Nodup := by
  have hl : (l.mergeSort leB).length = l.length := List.length_mergeSort l
  have hle : (Lib.compact (l.mergeSort leB)).length ≤ l.length := by
    rw [← hl]
    unfold Lib.compact Lib.compactUpTo
    rw [List.length_map]
    exact Nat.le_trans (List.length_filter_le _ _) (by rw [List.length_range]; exact Nat.le_refl _)
  have key : (Lib.compact (l.mergeSort leB)).length = l.length ↔ l.Nodup := by
    rw [← hl, compact_len]
    constructor
    · intro h
      have := asc_nodup (prog_sym l).1
      rw [h] at this
      exact (sort_perm l).nodup_iff.1 this
    · intro h
      have hn : (l.mergeSort leB).Nodup := (sort_perm l).nodup_iff.2 h
      refine Lib.compact_all _ fun j hj => ?_
      unfold Lib.keeps
      simp only [decide_eq_true_eq]
      by_cases hj0 : j = 0
      · exact .inl hj0
      · refine .inr ?_
        rw [getElem!_pos _ j (by simpa using hj), getElem!_pos _ (j - 1) (by simp; omega)]
        intro e
        have := (List.nodup_iff_pairwise_ne.1 hn)
        have h2 := List.pairwise_iff_getElem.1 this (j - 1) j (by omega) hj (by omega)
        exact h2 (by simpa using e.symm)
  constructor
  · intro h h'; rw [key.2 h'] at h; omega
  · intro h
    rcases Nat.lt_or_ge (Lib.compact (l.mergeSort leB)).length l.length with h1 | h1
    · exact h1
    · exact absurd (key.1 (Nat.le_antisymm hle h1)) h

/-- Where a string stands in a list, from k on; -1: nowhere. -/
def plcF (s : List UInt8) : Ls → Nat → Int
  | [], _ => -1
  | x :: r, k => if x = s then (k : Int) else plcF s r (k + 1)
def plcS (l : Ls) (s : List UInt8) : Int := plcF s l 0
theorem plcF_cases (s : List UInt8) : ∀ (l : Ls) (k : Nat), (plcF s l k = -1 ∧ s ∉ l) ∨ ∃ j : Nat, plcF s l k = ((k + j : Nat) : Int) ∧ l[j]? = some s ∧ ∀ i, i < j → l[i]? ≠ some s := by
  intro l
  induction l with
  | nil => intro k; exact .inl ⟨rfl, by simp⟩
  | cons x r ih =>
    intro k
    unfold plcF
    by_cases h : x = s
    · subst h; rw [if_pos rfl]; exact .inr ⟨0, rfl, rfl, fun i hi => by omega⟩
    · rw [if_neg h]
      rcases ih (k + 1) with ⟨h1, h2⟩ | ⟨j, h1, h2, h3⟩
      · exact .inl ⟨h1, by simp [h2]; exact fun e => h e.symm⟩
      · refine .inr ⟨j + 1, by rw [h1, show k + 1 + j = k + (j + 1) by omega], by simpa using h2, fun i hi => ?_⟩
        cases i with
        | zero => simp [h]
        | succ i => simpa using h3 i (by omega)
theorem plcS_cases (l : Ls) (s : List UInt8) : (plcS l s = -1 ∧ s ∉ l) ∨ ∃ j : Nat, plcS l s = (j : Int) ∧ l[j]? = some s ∧ ∀ i, i < j → l[i]? ≠ some s := by
  have := plcF_cases s l 0
  simpa [plcS] using this
theorem plcS_at {l : Ls} {s : List UInt8} {j : Nat} (h : l[j]? = some s) (hf : ∀ i, i < j → l[i]? ≠ some s) : plcS l s = (j : Int) := by
  rcases plcS_cases l s with ⟨_, h2⟩ | ⟨k, h1, h2, h3⟩
  · exact absurd (List.mem_of_getElem? h) h2
  · rw [h1]
    rcases Nat.lt_trichotomy j k with h4 | h4 | h4
    · exact absurd h (h3 j h4)
    · rw [h4]
    · exact absurd h2 (hf k h4)
theorem plcS_none {l : Ls} {s : List UInt8} (h : s ∉ l) : plcS l s = -1 := by
  rcases plcS_cases l s with ⟨h1, _⟩ | ⟨k, _, h2, _⟩
  · exact h1
  · exact absurd (List.mem_of_getElem? h2) h
/-- How the reference finds what is there twice. -/
theorem nodup_iff_plc (l : Ls) : l.Nodup ↔ ∀ (i : Nat) s, l[i]? = some s → (i : Int) ≤ plcS l s := by
  rw [List.nodup_iff_pairwise_ne, List.pairwise_iff_getElem]
  constructor
  · intro h i s hs
    rw [plcS_at hs fun k hk hks => ?_]
    · exact Int.le_refl _
    · obtain ⟨hi, rfl⟩ := List.getElem?_eq_some_iff.1 hs
      obtain ⟨hk', e⟩ := List.getElem?_eq_some_iff.1 hks
      exact h k i hk' hi hk e
  · intro h i j hi hj hij e
    have h1 := h j _ (List.getElem?_eq_getElem hj)
    rcases plcS_cases l l[j] with ⟨_, h2⟩ | ⟨k, h2, h3, h4⟩
    · exact h2 (List.getElem_mem hj)
    · rw [h2] at h1
      exact h4 i (by omega) (by rw [List.getElem?_eq_getElem hi, e])

/-- Renamed: the symbols of from, by those at the same places in to. -/
def renN (from' to : Ls) (x : Nd) : Nd := if 0 ≤ plcS from' x.2.2.2 then (x.1, x.2.1, x.2.2.1, to.getD (plcS from' x.2.2.2).toNat []) else x
def renL (from' to : Ls) (t : List Nd) : List Nd := t.map (renN from' to)
/-- The symbols of a datum. -/
def symL (t : List Nd) : Ls := (t.filter fun x => x.1 == 3).map fun x => x.2.2.2
/-- A row into which the reference puts a string. -/
def insS (l : Ls) (n : Nat) (s : List UInt8) : Ls := l.take n ++ s :: l.drop n
theorem ins_sym {l m : Ls} {n : Nat} {s : List UInt8} (h : SymS m l) (h1 : ∀ (i : Nat) x, i < n → l[i]? = some x → x < s) (h2 : ∀ (i : Nat) x, n ≤ i → l[i]? = some x → s < x) : SymS (m ++ [s]) (insS l n s) := by
  obtain ⟨ha, hm⟩ := h
  constructor
  · unfold insS
    refine List.pairwise_append.2 ⟨ha.sublist (List.take_sublist _ _), List.pairwise_cons.2 ⟨fun x hx => ?_, ha.sublist (List.drop_sublist _ _)⟩, fun x hx y hy => ?_⟩
    · obtain ⟨k, hk⟩ := List.getElem?_of_mem hx
      rw [List.getElem?_drop] at hk
      exact h2 (n + k) x (by omega) hk
    · obtain ⟨k, hk⟩ := List.getElem?_of_mem hx
      rw [List.getElem?_take] at hk
      split at hk
      · rename_i hkn
        have hxs := h1 k x hkn hk
        rcases List.mem_cons.1 hy with rfl | hy
        · exact hxs
        · obtain ⟨j, hj⟩ := List.getElem?_of_mem hy
          rw [List.getElem?_drop] at hj
          exact s_trans hxs (h2 (n + j) y (by omega) hj)
      · cases hk
  · intro x
    unfold insS
    rw [List.mem_append, List.mem_append, List.mem_cons, ← hm x]
    have : x ∈ l ↔ x ∈ l.take n ∨ x ∈ l.drop n := by rw [← List.mem_append, List.take_append_drop]
    rw [this]
    simp only [List.mem_singleton]
    constructor
    · rintro (h | h | h)
      · exact .inl (.inl h)
      · exact .inr h
      · exact .inl (.inr h)
    · rintro ((h | h) | h)
      · exact .inl h
      · exact .inr (.inr h)
      · exact .inr (.inl h)
theorem ins_none {l m : Ls} {s : List UInt8} (h : SymS m l) (hs : s ∈ l) : SymS (m ++ [s]) l := by
  refine ⟨h.1, fun x => ?_⟩
  rw [List.mem_append, ← h.2 x]
  constructor
  · exact .inl
  · rintro (e | e)
    · exact e
    · obtain rfl : x = s := by simpa using e
      exact hs
end Go.Proofs.YtkngkajojcmmlaaDoor

/- slices.Collect of an iterator over strings. -/
namespace Go.Proofs.YtkngkajojcmmlaaDoor
open Go.RowKit Go.Shelf Go.PlainAid

attribute [local go_sem] Oper.semAt_some

def strV (l : Ls) : List Value := l.map fun q : List UInt8 => Value.string (str q)
theorem strV_len (l : Ls) : (strV l).length = l.length := by unfold strV; rw [List.length_map]
theorem strV_at {l : Ls} {j : Nat} {q : List UInt8} (h : l[j]? = some q) : (strV l)[j]? = some (.string (str q)) := by unfold strV; rw [List.getElem?_map, h]; rfl
theorem infoStr : (Tryd.prog.info? 9).map (fun i => (i.zero, i.size, i.bytes)) = some (some (.string ⟨#[]⟩), 1, 16) := by kernel_rfl
theorem take_snocS {l : Ls} {k : Nat} {x : List UInt8} (h : l[k]? = some x) : l.take k ++ [x] = l.take (k + 1) := by
  rw [List.take_add_one, h]; rfl

set_option maxHeartbeats 400000 in
theorem vals_mk (a : Option Addr) (n c : Nat) (w : World) :
    Calls Tryd.prog 99 #[.slice a n c] w fun e w' => e = .returned (.func (.func 128) #[] #[.pointer (some ⟨w.heap.size, 0, none⟩)]) ∧
      w' = w.alloc (.cells #[.slice a n c] 53) := by
  have hmf : ∀ (fn : Fn) (first cap : Array Value) (w : World), (Instr.makeFunc fn first cap).run Tryd.prog w = .ok (.func fn first cap) w := fun _ _ _ _ => rfl
  go_enter Tryd.func99, Tryd.ntmps99
  go_wp2
  go_ret
  exact ⟨rfl, rfl⟩
set_option maxRecDepth 100000 in
set_option maxHeartbeats 4000000 in
/-- The iterator's contract. -/
theorem vals_seq (Bs n c : Nat) (a : Option Addr) (l' : Ls) (P₀ : Nat → Prop) (N : Nat) (hN : 1 ≤ N) (w : World) (hP : P₀ Bs ∧ (l' ≠ [] → ∀ g o, a = some ⟨g, o, none⟩ → P₀ g)) (hn₀ : ∀ k, P₀ k → k < w.heap.size)
    (hb : w.heap[Bs]? = some (.cells #[.slice a n c] 53 (0, 0))) (hn : l'.length = n) (hl : n ≤ 1000)
    (hc : ∀ (j : Nat) (q : List UInt8), l'[j]? = some q → ∃ g o, a = some ⟨g, o, none⟩ ∧ w.cell? ⟨g, o + j, none⟩ = some (.string (str q))) :
    SeqO N Tryd.prog 128 #[.pointer (some ⟨Bs, 0, none⟩)] (fun x : List UInt8 => #[.string (str x)]) P₀ (fun _ => False) (fun ys => ys = l') (fun pre => pre <+: l') (fun pre x => pre ++ [x] <+: l') w := by
  intro l J Jx W hW hJ hJx hY h0
  have HF : Hid (∀ wr : World, (∀ k, P₀ k → wr.heap[k]? = W.heap[k]?) → ∀ (j : Nat) (q : List UInt8), l'[j]? = some q → ∃ g o, a = some ⟨g, o, none⟩ ∧ wr.cell? ⟨g, o + j, none⟩ = some (.string (str q))) := Lib.hid fun wr hwr j q hj => by
    obtain ⟨g, o, ha, hq⟩ := hc j q hj
    refine ⟨g, o, ha, ?_⟩
    have hne : l' ≠ [] := by rintro rfl; cases hj
    have h1 := (hwr _ (hP.2 hne g o ha)).trans (hW.block _ (hn₀ _ (hP.2 hne g o ha)))
    have h2 : wr.cell? ⟨g, o + j, none⟩ = w.cell? ⟨g, o + j, none⟩ := by simp [World.cell?, h1]
    rw [h2]; exact hq
  have hbW := (hW.block _ (hn₀ _ hP.1)).trans hb
  have c0 : W.cell? ⟨Bs, 0, none⟩ = some (.slice a n c) := by simp [World.cell?, hbW]
  have HN := Lib.hid hn
  clear hb hc hn hbW
  refine callsIn_of_wp Tryd.func128 rfl trivial ?_ rfl
  simp only [Tryd.ntmps128, List.size_toArray, List.length_cons, List.length_nil, Nat.reduceAdd, Nat.reduceSub, Array.replicate_succ, Array.replicate_zero, List.push_toArray, List.append_toArray, List.nil_append, List.cons_append]
  gi_wp2
  -- MARK1
  gi_loopw [7] (fun x7 wr => ∃ k : Nat, x7 = .int .i64 (k : Int) ∧ k ≤ n ∧ J (l'.take k) wr ∧ Hid (∀ b, P₀ b → wr.heap[b]? = W.heap[b]?) ∧ W.heap.size ≤ wr.heap.size) (fun x7 _ => n - (intOf x7).toNat)
  case atStart => exact ⟨0, rfl, Nat.zero_le _, h0, Lib.hid (fun _ _ => rfl), Nat.le_refl _⟩
  case round =>
    obtain ⟨k, rfl, hk, hJ1, HB, hz⟩ := hrel
    have hk0 : (0 : Int) ≤ (k : Int) := Int.natCast_nonneg _
    by_cases hlt : k < n
    · obtain ⟨x, hx⟩ : ∃ x, l'[k]? = some x := ⟨_, List.getElem?_eq_getElem (by rw [HN.out]; exact hlt)⟩
      obtain ⟨g, o, rfl, d0⟩ := HF.out wr HB.out k x hx
      have hk1 : (k : Int) < (n : Int) := by omega
      have hlp : decide ((k : Int) < (n : Int)) = true := decide_eq_true hk1
      have hpre := take_snocS hx
      have HPre := Lib.hid hpre
      have hG : l'.take k ++ [x] <+: l' := by rw [hpre]; exact List.take_prefix _ _
      clear hx hpre
      obtain ⟨fn, tmps, assign, body, hy, hR⟩ := hY _ x wr hJ1 hz hG
      clear hG
      gi_wp2
      -- MARK2
      refine hR.mono ?_
      rintro e W3 (⟨rfl, hJ3, hk3⟩ | ⟨rfl, hJx3⟩)
      · have HB3 := Lib.hid (fun b (hb : P₀ b) => (hk3.2 b hb).trans (HB.out b hb))
        rw [HPre.out] at hJ3
        have hz3 := Nat.le_trans hz hk3.1
        gi_wp2
        -- MARK3
        go_roundw
        case rel => exact ⟨k + 1, by go_num, by omega, hJ3, HB3, hz3⟩
        case measure => simp [intOf]; omega
      · rw [HPre.out] at hJx3
        gi_wp2
        -- MARK4
        refine bodyPost_ret (results_none rfl _ _ _) rfl ?_
        exact ⟨⟨_, rfl⟩, .inr ⟨_, List.take_prefix _ _, hJx3⟩⟩
    · obtain rfl : k = n := by omega
      have hlp : decide ((k : Int) < (k : Int)) = false := decide_eq_false (Int.lt_irrefl _)
      gi_wp2
      -- MARK5
      go_end0
      refine ⟨⟨_, rfl⟩, .inl ⟨_, rfl, ?_⟩⟩
      rw [List.take_of_length_le (Nat.le_of_eq HN.out)] at hJ1
      exact hJ1
theorem strV_app (a b : Ls) : strV (a ++ b) = strV a ++ strV b := by unfold strV; rw [List.map_append]
/-- The list's cell, and all below, in the loop. -/
def SolI (A : Nat) (w : World) (pre : Ls) (W : World) : Prop :=
  Below A w W ∧ ∃ v, W.heap[A]? = some (.cells #[v] 53 (0, 0)) ∧ W.ownsRow (A + 3) 9 1 v pre.length (strV pre)
theorem solI_bears (A : Nat) (w : World) : BearsO (fun k => k = A + 1 ∨ k = A + 2) (SolI A w) := by
  intro pre W W' row h hg hr
  obtain ⟨h1, v, h2, h3⟩ := h
  have hr' : ∀ r, row = some r → A < r ∧ r < A + 3 := fun r e => by rcases hr r e with h | h <;> omega
  refine ⟨h1.grown hg (Nat.le_of_lt (Array.getElem?_eq_some_iff.1 h2).1) (fun k e => by have := hr' _ e; omega), v, (hg.block A (Array.getElem?_eq_some_iff.1 h2).1 fun e => by have := hr' _ e.symm; omega).trans h2, h3.kept hg ?_⟩
  cases hv : v.ownBlock with
  | none => exact .inl rfl
  | some r => exact .inr fun e => by have h4 := hr' _ e.symm; have h5 := (h3.lt r hv).1; omega
/-- Within a round. -/
def SolA (A : Nat) (w : World) (pre : Ls) (x : List UInt8) (a : Act) (W : World) : Prop :=
  SolI A w pre W ∧ ∃ (u0 u1 u3 u4 u6 u7 u8 u9 u10 u11 u12 : Value), a = { tmps := #[u0, u1, .pointer (some ⟨A, 0, none⟩), u3, u4, .string (str x), u6, u7, u8, u9, u10, u11, u12], defers := [] }
theorem solA_bears (A : Nat) (w : World) (pre : Ls) (x : List UInt8) : BearsO (fun k => k = A + 1 ∨ k = A + 2) (SolA A w pre x) := by
  intro a W W' row h hg hr
  exact ⟨solI_bears A w pre W W' row h.1 hg hr, h.2⟩
theorem scollect_form {w : World} {B n : Nat} {e : TypeId} {v : Value} {l : Ls} (h : w.ownsRow B e 1 v n (strV l)) (hn : l.length = n) : ∃ a c, v = .slice a n c ∧ (l = [] ∨ ∃ g, a = some ⟨g, 0, none⟩ ∧ B ≤ g ∧ g < w.heap.size ∧ ∀ (j : Nat) (q : List UInt8), l[j]? = some q → w.cell? ⟨g, j, none⟩ = some (.string (str q))) := by
  rcases own_form h with ⟨rfl, h0⟩ | ⟨g, c, rfl, h1, h2⟩
  · exact ⟨none, 0, by rw [h0], .inl (List.length_eq_zero_iff.1 (by omega))⟩
  · exact ⟨_, c, rfl, .inr ⟨g, rfl, h1, h2, fun j q hj => own_cell h (strV_at hj)⟩⟩

set_option maxRecDepth 50000 in
set_option maxHeartbeats 1600000 in
theorem sappend_seq (gf : Nat) (lb : Array Value) (P₀ : Nat → Prop) (ys : Ls) (w : World) (hn₀ : ∀ k, P₀ k → k < w.heap.size) (hys : ys.length ≤ 1000) (eg : ∀ args w, (callFunc gf args).run Tryd.prog w = .ok (.enter gf args) w)
    (hseq : ∀ W, Below w.heap.size w W → SeqO 3 Tryd.prog gf lb (fun x : List UInt8 => #[.string (str x)]) P₀ (fun _ => False) (fun l => l = ys) (fun pre => pre <+: ys) (fun pre x => pre ++ [x] <+: ys) W) :
    CallsIn Fence.wide 4 Tryd.prog 143 #[.slice none 0 0, .func (.func gf) #[] lb] w fun e w' => ∃ v, e = .returned v ∧ w'.ownsRow w.heap.size 9 1 v ys.length (strV ys) ∧ Below w.heap.size w w' := by
  have HSeq := Lib.hid hseq
  have HY := Lib.hid hys
  clear hseq hys
  refine callsIn_of_wp_marks Tryd.func143 rfl trivial ?_ rfl
  simp only [Tryd.ntmps143, List.size_toArray, List.length_cons, List.length_nil, Nat.reduceAdd, Nat.reduceSub, Array.replicate_succ, Array.replicate_zero, List.push_toArray, List.append_toArray, List.nil_append, List.cons_append]
  gi_wp2
  -- MARK1
  obtain ⟨W0, hW0⟩ : ∃ W0, W0 = w.alloc (.cells #[.slice none 0 0] 53) := ⟨_, rfl⟩
  rw [← hW0]
  have hsz : W0.heap.size = w.heap.size + 1 := by rw [hW0]; simp
  have hbel : Below w.heap.size w W0 := by rw [hW0]; exact below_b1 _ _
  have ha0 : W0.heap[w.heap.size]? = some (.cells #[.slice none 0 0] 53 (0, 0)) := by rw [hW0]; exact World.alloc_heap_new _ _
  clear hW0
  obtain ⟨A, hA⟩ : ∃ A, w.heap.size = A := ⟨_, rfl⟩
  have hseq0 := HSeq.out W0 hbel
  rw [hA] at hsz hbel ha0 hn₀
  rw [hA]
  refine wpIn_rangeO (by omega) rfl eg hseq0 (Below.refl _ _) (fun k hk => by have := hn₀ k hk; omega) (fun k hk => hk.elim) (fun _ => rfl) (SolI A w) (fun _ _ _ => False)
    (fun pre W W' row h hg hr => solI_bears A w pre W W' row h hg (fun r e => by rcases hr r e with h | h | h; exact h.elim; exact .inl (by omega); exact .inr (by omega))) (fun c pre W W' row h _ _ => h) ?_ (SolA A w)
    (fun pre x a W W' row h hg hr => solA_bears A w pre x a W W' row h hg (fun r e => by rcases hr r e with h | h | h; exact h.elim; exact .inl (by omega); exact .inr (by omega))) ?_ ?_ ?_ ?_
  · exact ⟨hbel, _, ha0, rfl, .inl ⟨rfl, rfl⟩⟩
  · intro l pre x W K hI hW hK
    gi_wp2
    exact hK _ _ (KeepsP.refl _ _) ⟨hI, _, _, _, _, _, _, _, _, _, _, _, rfl⟩
  · obtain ⟨i0, hi, hj0, hj1, hj2⟩ := info_parts2 infoStr
    intro l pre x a' W hSolA hW hG
    have hlen : pre.length < ys.length := by
      have := hG.length_le
      rw [List.length_append] at this
      exact this
    have hyb := HY.out
    have hpl : pre.length < 1000 := by omega
    clear hG
    obtain ⟨⟨hbW, v, hv, hown⟩, u0, u1, u3, u4, u6, u7, u8, u9, u10, u11, u12, rfl⟩ := hSolA
    rw [hsz] at hW
    have hc0 : W.cell? ⟨A, 0, none⟩ = some v := by simp [World.cell?, hv]
    have hltA : A < W.heap.size := (Array.getElem?_eq_some_iff.1 hv).1
    gi_wp2_with (gi_at_builtin; refine wpListIn_append_own _ rfl _ _ 53 rfl (A + 3) 9 i0 (.string ⟨#[]⟩) 1 16 Tryd.underlying53 hi hj0 hj1 hj2 rfl (by decide) v pre.length (strV pre) rfl (hown.alloc _) ⟨W.heap.size, 0, none⟩ 1 1 [.string (str x)] rfl rfl (new_cells W [.string (str x)] _) (by simp [Value.oneCell']) (by unfold maxLen; omega) (by omega) (by rw [World.size_alloc]; omega) ?_; intro v' w7 hown7 hgrow7 _; obtain ⟨sa, sm, sc, rfl⟩ := own_slice hown7; have hv7 := (hgrow7.block A (by rw [World.size_alloc]; omega) (fun e => by have := (hown.lt A e.symm).1; omega)).trans ((Below.heap_alloc _ _ _ hltA).trans hv); have hc7 : w7.cell? ⟨A, 0, none⟩ = some v := (by simp [World.cell?, hv7]); have hz7 : w7.frozen? ⟨A, 0, none⟩ = false := (by simp [World.frozen?, hv7]))
    -- MARK2
    have hkk : ∀ k, k < A + 3 → w7.heap[k]? = W.heap[k]? := fun k hk =>
      (hgrow7.block k (by rw [World.size_alloc]; omega) (fun e => by have := (hown.lt k e.symm).1; omega)).trans (Below.heap_alloc _ _ _ (by omega))
    have hne : ∀ g, (Value.slice sa sm sc).ownBlock = some g → A + 3 ≤ g := fun g hg => (hown7.lt g hg).1
    refine ⟨⟨?_, fun k hk => ?_⟩, ?_, _, set_block _ hv7, ?_⟩
    · rw [World.size_setCell]; have := hgrow7.size; rw [World.size_alloc] at this; omega
    · rw [hsz] at hk
      have hk' : k ≠ A ∧ k < A + 3 := by
        rcases hk with hk | hk
        · have := hn₀ k hk; omega
        · omega
      exact (set_other _ hk'.1).trans (hkk k hk'.2)
    · exact ((hbW.alloc (by omega) _).grown hgrow7 (by rw [World.size_alloc]; omega) (fun k hk => by have := (hown.lt k hk).1; omega)).setCell (Nat.le_refl A) _
    · have hw3 := hown7.kept (grown_set w7 A 0 (.slice sa sm sc)) (.inr fun e => by have := hne _ e; omega)
      rw [List.length_append, strV_app]
      exact hw3
  · intro xs W hS hI hD
    rw [hsz] at hD
    subst hS
    obtain ⟨hbW, v, hv, hown⟩ := hI
    have hc0 : W.cell? ⟨A, 0, none⟩ = some v := by simp [World.cell?, hv]
    obtain ⟨sa, sm, sc, rfl⟩ := own_slice hown
    rw [hsz]
    gi_wp2
    -- MARK3
    refine ⟨by simp, .inl ⟨_, _, rfl, run_takeDeferred hD, ?_⟩⟩
    refine ⟨.slice sa sm sc, by simp [results, Tryd.results143, go_sem], .slice sa sm sc, rfl, ?_, ?_⟩
    · have hne : ∀ g, (Value.slice sa sm sc).ownBlock = some g → A + 3 ≤ g := fun g hg => (hown.lt g hg).1
      rw [hA]
      exact own_mono (B := A + 3) (hown.kept (grownBy_putObj' _ (A + 1) _) (.inr fun e => by have := hne _ e; omega)) (by omega)
    · rw [hA]
      exact hbW.grown (grownBy_putObj' _ _ _) (Nat.le_of_lt (Array.getElem?_eq_some_iff.1 hv).1) (fun k e => by cases e; omega)
  · intro c pre W _ h _
    exact h.elim

set_option maxRecDepth 50000 in
set_option maxHeartbeats 400000 in
theorem scollect_any (gf : Nat) (lb : Array Value) (P₀ : Nat → Prop) (ys : Ls) (w : World) (hn₀ : ∀ k, P₀ k → k < w.heap.size) (hys : ys.length ≤ 1000) (eg : ∀ args w, (callFunc gf args).run Tryd.prog w = .ok (.enter gf args) w)
    (hseq : ∀ W, Below w.heap.size w W → SeqO 3 Tryd.prog gf lb (fun x : List UInt8 => #[.string (str x)]) P₀ (fun _ => False) (fun l => l = ys) (fun pre => pre <+: ys) (fun pre x => pre ++ [x] <+: ys) W) :
    Calls Tryd.prog 127 #[.func (.func gf) #[] lb] w fun e w' => ∃ v, e = .returned v ∧ w'.ownsRow w.heap.size 9 1 v ys.length (strV ys) ∧ Below w.heap.size w w' := by
  have C := Lib.hid (callsIn_wide.1 (sappend_seq gf lb P₀ ys w hn₀ hys eg hseq))
  clear hseq eg hys hn₀
  go_enter Tryd.func127, Tryd.ntmps127
  go_wp2_with fail
  -- MARK4
  refine C.out.mono ?_
  rintro e w1 ⟨v, rfl, ho, hb⟩
  obtain ⟨sa, sm, sc, rfl⟩ := own_slice ho
  go_wp2_with fail
  go_ret
  exact ⟨_, rfl, ho, hb⟩
end Go.Proofs.YtkngkajojcmmlaaDoor

/- slices.Sort and slices.Compact of rows of strings that the call owns. -/
namespace Go.Proofs.YtkngkajojcmmlaaDoor
open Go.RowKit Go.PlainAid Go.Sort

theorem strV_enc (l : Ls) : strV l = l.map encStr := rfl
theorem sort_own (B : Nat) (v : Value) (l : Ls) (w : World) (h : w.ownsRow B 9 1 v l.length (strV l)) (hl : l.length ≤ 1000000) (hB : B ≤ w.heap.size) :
    Calls Tryd.prog 73 #[v] w fun e w' => e = .returned (.tuple #[]) ∧ w'.ownsRow B 9 1 v l.length (strV (l.mergeSort leB)) ∧ Below B w w' := by
  rcases h.2 with ⟨rfl, h0⟩ | ⟨g, cap, cur, rfl, hg, hb, h1, h2, h3, h4⟩
  · have hnil : l = [] := List.length_eq_zero_iff.1 h0
    subst hnil
    refine (Tryd.slices_Sort_string_none none 0 w).mono ?_
    rintro e w' ⟨rfl, rfl⟩
    exact ⟨rfl, by simpa using h, Below.refl _ _⟩
  · refine (Tryd.slices_Sort_string g 0 cap l w (holds_of_block hb (by rw [Nat.mul_one] at h4; exact h4)) (Array.getElem?_eq_some_iff.1 hb).1 (by omega)).mono ?_
    rintro e w' ⟨rfl, n, os, rfl⟩
    exact ⟨rfl, ownsRow_sorted (ts := l.mergeSort leB) (List.length_mergeSort l) hg hb h1 h2 h3, (Below.refl B w).grown (grownBy_sorted _) hB (fun j hj => by cases hj; exact hg)⟩
theorem compact_own (B : Nat) (v : Value) (l : Ls) (w : World) (h : w.ownsRow B 9 1 v l.length (strV l)) (hl : l.length ≤ 1000000) (hB : B ≤ w.heap.size) :
    Calls Tryd.prog 74 #[v] w fun e w' => ∃ a c, e = .returned (.slice a (Lib.compact l).length c) ∧ w'.ownsRow B 9 1 (.slice a (Lib.compact l).length c) (Lib.compact l).length (strV (Lib.compact l)) ∧ Below B w w' := by
  rcases h.2 with ⟨rfl, h0⟩ | ⟨g, cap, cur, rfl, hg, hb, h1, h2, h3, h4⟩
  · have hnil : l = [] := List.length_eq_zero_iff.1 h0
    subst hnil
    refine (Tryd.slices_Compact_string_empty none 0 w).mono ?_
    rintro e w' ⟨rfl, rfl⟩
    exact ⟨none, 0, rfl, h, Below.refl _ _⟩
  · have hle : (Lib.compact l).length ≤ l.length := Lib.compact_length_le l
    refine (Tryd.slices_Compact_string g 0 cap l w (holds_of_block hb (by rw [Nat.mul_one] at h4; exact h4)) (by omega) h1).mono ?_
    rintro e w' ⟨rfl, q, rfl⟩
    obtain ⟨ts, hts⟩ : ∃ ts, Lib.compact l ++ List.replicate (l.length - (Lib.compact l).length) [] = ts := ⟨_, rfl⟩
    have hlen : ts.length = l.length := by rw [← hts, List.length_append, List.length_replicate]; omega
    rw [hts]
    have ho := ownsRow_sorted (w := w) (n := q) (os := #[]) (ts := ts) hlen hg hb h1 h2 h3
    have hgr := grownBy_sorted (w := w) (g := g) (n := q) (os := #[]) ts.toArray
    rw [grow_empty] at ho hgr
    refine ⟨_, _, rfl, ?_, (Below.refl B w).grown hgr hB (fun j hj => by cases hj; exact hg)⟩
    have hc := own_cut ho hle
    have e : (ts.map encStr).take (Lib.compact l).length = strV (Lib.compact l) := by
      rw [← hts, ← List.map_take, List.take_left']
      · rfl
      · rfl
    rw [e] at hc
    exact hc
/-- A row of strings that the call owns. -/
theorem str_own {w : World} {B n : Nat} {v : Value} {l : Ls} (h : w.ownsRow B 9 1 v n (strV l)) (hn : l.length = n) : StrRow w v l := by
  obtain ⟨a, c, rfl, hA⟩ := scollect_form h hn
  refine ⟨a, c, by rw [hn], hA.imp id ?_⟩
  rintro ⟨g, rfl, _, hg, hc⟩
  exact ⟨g, 0, rfl, hg, fun j s hj => by rw [Nat.zero_add]; exact hc j s hj⟩
end Go.Proofs.YtkngkajojcmmlaaDoor

/- twice: whether a string is in a list twice. -/
namespace Go.Proofs.YtkngkajojcmmlaaDoor
open Go.RowKit Go.PlainAid

theorem scoll_at (Bs n c : Nat) (a : Option Addr) (l : Ls) (w : World) (hb : w.heap[Bs]? = some (.cells #[.slice a n c] 53 (0, 0))) (hn : l.length = n) (hl : n ≤ 1000)
    (hc : l = [] ∨ ∃ g off, a = some ⟨g, off, none⟩ ∧ g < w.heap.size ∧ ∀ (j : Nat) (s : List UInt8), l[j]? = some s → w.cell? ⟨g, off + j, none⟩ = some (.string (str s))) :
    Calls Tryd.prog 127 #[.func (.func 128) #[] #[.pointer (some ⟨Bs, 0, none⟩)]] w fun e w' => ∃ v, e = .returned v ∧ w'.ownsRow w.heap.size 9 1 v l.length (strV l) ∧ Below w.heap.size w w' := by
  have hlb := (Array.getElem?_eq_some_iff.1 hb).1
  have hP : ∀ k, (k = Bs ∨ l ≠ [] ∧ ∃ o, a = some ⟨k, o, none⟩) → k < w.heap.size := fun k hk => by
    rcases hk with rfl | ⟨hne, o, ho⟩
    · exact hlb
    · rcases hc with h | ⟨g, off, ha, hg, _⟩
      · exact absurd h hne
      · rw [ha] at ho; cases ho; exact hg
  refine scollect_any 128 _ (fun k => k = Bs ∨ l ≠ [] ∧ ∃ o, a = some ⟨k, o, none⟩) l w hP (by omega) (enters_of Tryd.func128 (by kernel_rfl) rfl) fun W3 hb3 => ?_
  refine vals_seq Bs n c a l _ 3 (by omega) W3 ⟨.inl rfl, fun hne g o ha => .inr ⟨hne, o, ha⟩⟩ (fun k hk => by have := hP k hk; have := hb3.size; omega) ((hb3.block _ hlb).trans hb) hn hl (fun j q hj => ?_)
  rcases hc with h | ⟨g, off, ha, hg, hcc⟩
  · rw [h] at hj; cases hj
  · exact ⟨g, off, ha, (hb3.cell (p := ⟨g, off + j, none⟩) hg).trans (hcc j q hj)⟩
set_option maxRecDepth 50000 in
set_option maxHeartbeats 1600000 in
theorem sorted_any (Bs n c : Nat) (a : Option Addr) (l : Ls) (w : World) (hb : w.heap[Bs]? = some (.cells #[.slice a n c] 53 (0, 0))) (hn : l.length = n) (hl : n ≤ 1000)
    (hc : l = [] ∨ ∃ g off, a = some ⟨g, off, none⟩ ∧ g < w.heap.size ∧ ∀ (j : Nat) (s : List UInt8), l[j]? = some s → w.cell? ⟨g, off + j, none⟩ = some (.string (str s))) :
    Calls Tryd.prog 98 #[.func (.func 128) #[] #[.pointer (some ⟨Bs, 0, none⟩)]] w fun e w' => ∃ v, e = .returned v ∧ w'.ownsRow w.heap.size 9 1 v l.length (strV (l.mergeSort leB)) ∧ Below w.heap.size w w' := by
  have CC := Lib.hid (scoll_at Bs n c a l w hb hn hl hc)
  have hl' : l.length ≤ 1000000 := by omega
  clear hb hn hl hc
  go_enter Tryd.func98, Tryd.ntmps98
  go_wp2_with fail
  refine CC.out.mono ?_
  rintro e w1 ⟨v, rfl, ho, hb1⟩
  have CS := Lib.hid (sort_own w.heap.size v l w1 ho hl' hb1.size)
  obtain ⟨sa, sm, sc, rfl⟩ := own_slice ho
  clear ho
  go_wp2_with fail
  refine CS.out.mono ?_
  rintro e w2 ⟨rfl, ho2, hb2⟩
  go_wp2_with fail
  go_ret
  exact ⟨_, rfl, ho2, hb1.trans hb2⟩
set_option maxRecDepth 50000 in
set_option maxHeartbeats 1600000 in
theorem twice_any (v : Value) (l : Ls) (w : World) (h : StrRow w v l) (hl : l.length ≤ 1000) :
    Calls Tryd.prog 75 #[v] w fun e w' => e = .returned (.bool (decide (¬ l.Nodup))) ∧ Below w.heap.size w w' := by
  obtain ⟨a, c, rfl, hc⟩ := h
  obtain ⟨n, hn⟩ : ∃ n, l.length = n := ⟨_, rfl⟩
  have hcW : l = [] ∨ ∃ g off, a = some ⟨g, off, none⟩ ∧ g < (w.alloc (.cells #[.slice a n c] 53)).heap.size ∧ ∀ (j : Nat) (s : List UInt8), l[j]? = some s → (w.alloc (.cells #[.slice a n c] 53)).cell? ⟨g, off + j, none⟩ = some (.string (str s)) := by
    refine hc.imp id ?_
    rintro ⟨g, off, ha, hg, hcc⟩
    exact ⟨g, off, ha, by rw [World.size_alloc]; omega, fun j s hj => (World.cell?_alloc_lt _ _ _ hg).trans (hcc j s hj)⟩
  have CS := Lib.hid (sorted_any w.heap.size n c a l _ (World.alloc_heap_new w (.cells #[.slice a n c] 53)) hn (by omega) hcW)
  obtain ⟨W1, hW1⟩ : ∃ W1, W1 = w.alloc (.cells #[.slice a n c] 53) := ⟨_, rfl⟩
  have hb1 : Below w.heap.size w W1 := by rw [hW1]; exact below_b1 _ _
  have CV := Lib.hid (vals_mk a n c w)
  rw [← hW1] at CS CV
  have HN := Lib.hid hn
  have hln : n ≤ 1000 := by omega
  have HTw : Hid (decide ((Lib.compact (l.mergeSort leB)).length < n) = decide (¬ l.Nodup)) := Lib.hid (by
    rw [← hn]
    exact decide_eq_decide.2 (twice_iff l))
  rw [hn]
  clear hc hcW hn hl hW1
  go_enter Tryd.func75, Tryd.ntmps75
  go_wp2_with fail
  refine CV.out.mono ?_
  rintro e w1 ⟨rfl, rfl⟩
  go_wp2_with fail
  refine CS.out.mono ?_
  rintro e w2 ⟨v2, rfl, ho, hb2⟩
  have hls : (l.mergeSort leB).length = l.length := List.length_mergeSort l
  have CC := Lib.hid (compact_own w1.heap.size v2 (l.mergeSort leB) w2 (by rw [hls]; exact ho) (by rw [hls, HN.out]; omega) hb2.size)
  obtain ⟨sa, sm, sc, rfl⟩ := own_slice ho
  clear ho hls
  go_wp2_with fail
  refine CC.out.mono ?_
  rintro e w3 ⟨a3, c3, rfl, _, hb3⟩
  obtain ⟨q, hq⟩ : ∃ q, (Lib.compact (l.mergeSort leB)).length = q := ⟨_, rfl⟩
  rw [hq] at HTw ⊢
  clear hq
  go_wp2_with fail
  -- MARK1
  go_ret
  exact ⟨by rw [← HTw.out]; rfl, hb1.trans ((hb2.trans hb3).mono hb1.size)⟩
end Go.Proofs.YtkngkajojcmmlaaDoor

/- Symbols. -/
namespace Go.Proofs.YtkngkajojcmmlaaDoor
open Go.RowKit Go.PlainAid

theorem rows1 (v1 : Value) (t : List Nd) (W : World) (T : TypeId) (h1 : NdsAt W v1 t) : RowsAt (W.alloc (.cells #[v1] T)) (.slice (some ⟨W.heap.size, 0, none⟩) 1 1) [t] := by
  have hnew := new_cells W [v1] T
  refine ⟨_, 1, rfl, .inr ⟨W.heap.size, 0, rfl, by rw [World.size_alloc]; omega, fun j x hj => ?_⟩⟩
  have hj2 : j < 1 := by have := (List.getElem?_eq_some_iff.1 hj).1; simpa using this
  obtain rfl : j = 0 := by omega
  obtain rfl : t = x := by simpa using hj
  have := hnew 0 v1 rfl
  rw [Go.WideShapes.add_plain] at this
  exact ⟨v1, this, h1.below (below_b1 W _) (Nat.le_refl _)⟩
theorem chkAll_1 (sy : List UInt8 → Bool) (t : List Nd) : chkAllS sy [t] = (chkT sy t).2 := by
  unfold chkAllS
  by_cases h : (chkT sy t).2 = 0
  · rw [if_neg (by rw [h]; simp), h]; rfl
  · rw [if_pos h]
theorem symL_take {t : List Nd} {k : Nat} {x : Nd} (h : t[k]? = some x) : symL (t.take (k + 1)) = symL (t.take k) ++ (if x.1 = 3 then [x.2.2.2] else []) := by
  unfold symL
  rw [List.take_add_one, h, Option.toList_some, List.filter_append, List.map_append]
  congr 1
  by_cases h3 : x.1 = 3
  · rw [if_pos h3, List.filter_cons, if_pos (by simpa using h3)]; rfl
  · rw [if_neg h3, List.filter_cons, if_neg (by simpa using h3)]; rfl
theorem symL_len (t : List Nd) : (symL t).length ≤ t.length := by unfold symL; rw [List.length_map]; exact List.length_filter_le _ _
/-- What Symbols returns. -/
def SymV (t : List Nd) (w : World) (e : Ending) (w' : World) : Prop :=
  ∃ (l : Ls) (a : Option Addr) (c : Nat), e = .returned (.tuple #[.slice a l.length c, .int .i64 (chkT symS t).2]) ∧ StrRow w' (.slice a l.length c) l ∧ ((chkT symS t).2 = 0 → SymS (symL t) l) ∧ ((chkT symS t).2 ≠ 0 → l = []) ∧ l.length ≤ 1000 ∧ Below w.heap.size w w'
set_option maxRecDepth 50000 in
set_option maxHeartbeats 3200000 in
theorem Symbols_any (v : Value) (t : List Nd) (w : World) (h : NdsAt w v t) (KB : KidsB t) (T : STabs w) :
    Calls Tryd.prog 42 #[v] w (SymV t w) := by
  have C1 := Lib.hid (checkAll_any symS _ [t] _ (rows1 v t w 22 h) (Lib.hid (symAll_of (T.below (below_b1 w _)))) (Lib.hid (fun x hx => by rw [show x = t by simpa using hx]; exact KB)) (by simp))
  rw [chkAll_1] at C1
  by_cases hc : (chkT symS t).2 = 0
  · have h400 := (chkT_ok hc).2.2.1
    obtain ⟨g, o, c, rfl, hg, hcl⟩ := h.some (chkT_ok hc).2.1
    obtain ⟨W1, hW1⟩ : ∃ W1, W1 = w.alloc (.cells #[.slice (some ⟨g, o, none⟩) t.length c] 22) := ⟨_, rfl⟩
    have hb1 : Below w.heap.size w W1 := by rw [hW1]; exact below_b1 _ _
    rw [← hW1] at C1
    have HC := Lib.hid hcl
    have HK := Lib.hid hc
    rw [hc] at C1
    obtain ⟨n, hn⟩ : ∃ n, t.length = n := ⟨_, rfl⟩
    have HN := Lib.hid hn
    rw [hn] at hW1 h400 ⊢
    clear hn h hcl hc KB T
    go_enter Tryd.func42, Tryd.ntmps42
    go_wp2_with fail
    -- MARK1
    rw [← hW1]
    refine C1.out.mono ?_
    rintro e w2 ⟨rfl, hb2⟩
    have hB2 := hb1.trans (hb2.mono hb1.size)
    clear hW1 hb1 hb2 C1
    go_wp2_with fail
    -- MARK2
    obtain ⟨B, hB⟩ : ∃ B, w2.heap.size = B := ⟨_, rfl⟩
    have HB0 : Hid (w2.heap.size = B) := Lib.hid hB
    have HwB : Hid (w.heap.size ≤ B) := Lib.hid (by rw [← hB]; exact hB2.size)
    have hbel0 : Below B w2 w2 := Below.refl _ _
    clear hB
    go_loopw [5, 16] (fun x5 x16 wr => ∃ (k m : Nat) (b : Option Addr) (cb : Nat), x16 = .int .i64 (k : Int) ∧ x5 = .slice b m cb ∧ k ≤ n ∧ m ≤ k ∧ Hid ((symL (t.take k)).length = m) ∧ Hid (wr.ownsRow B 9 1 (.slice b m cb) m (strV (symL (t.take k)))) ∧ Hid (Below B w2 wr)) (fun _ x16 _ => n - (intOf x16).toNat)
    case atStart => exact ⟨0, 0, none, 0, rfl, rfl, Nat.zero_le _, Nat.le_refl _, Lib.hid rfl, Lib.hid ⟨rfl, .inl ⟨rfl, rfl⟩⟩, Lib.hid hbel0⟩
    case round =>
      obtain ⟨k, m, b, cb, rfl, rfl, hk, hmk, HM, HO, HBr⟩ := hrel
      have hBr := HBr.out
      have hbw : Below w.heap.size w wr := hB2.trans (hBr.mono HwB.out)
      have hszB : B ≤ wr.heap.size := by have := hBr.size; have := HB0.out; omega
      have hk0 : (0 : Int) ≤ (k : Int) := Int.natCast_nonneg _
      by_cases hlt : k < n
      · obtain ⟨x, hx⟩ : ∃ x, t[k]? = some x := ⟨_, List.getElem?_eq_getElem (by rw [HN.out]; exact hlt)⟩
        obtain ⟨d0, d1, d2, d3⟩ := dcs_at t hx
        have c0 := (hbw.cell (p := ⟨g, o + k * 4, none⟩) hg).trans (HC.out _ _ d0)
        have c1 := (hbw.cell (p := ⟨g, o + (k * 4 + 1), none⟩) hg).trans (HC.out _ _ d1)
        have c2 := (hbw.cell (p := ⟨g, o + (k * 4 + 2), none⟩) hg).trans (HC.out _ _ d2)
        have c3 := (hbw.cell (p := ⟨g, o + (k * 4 + 3), none⟩) hg).trans (HC.out _ _ d3)
        have HS := Lib.hid (symL_take hx)
        obtain ⟨x0, x1, x2, x3⟩ := x
        simp only [← Nat.add_assoc] at c0 c1 c2 c3 HS
        have hk1 : (k : Int) < (n : Int) := by omega
        clear d0 d1 d2 d3 hx hB2 hbel0
        by_cases h3 : x0 = 3
        · subst h3
          have hst : symL (t.take (k + 1)) = symL (t.take k) ++ [x3] := by rw [HS.out, if_pos rfl]
          have HSt := Lib.hid hst
          clear hst
          have HO6 : Hid ((wr.alloc (.cells #[.int .i64 3, .int .i64 x1, .int .i64 x2, .string (str x3)] 48)).ownsRow B 9 1 (.slice b m cb) m (strV (symL (t.take k)))) := Lib.hid (HO.out.alloc _)
          have hbr6 : Below B w2 (wr.alloc (.cells #[.int .i64 3, .int .i64 x1, .int .i64 x2, .string (str x3)] 48)) := hBr.alloc hszB _
          obtain ⟨i0, hi, hj0, hj1, hj2⟩ := info_parts2 infoStr
          go_wp2_with (at_builtin; refine wpList_append_own _ rfl _ _ 53 rfl B 9 i0 (.string ⟨#[]⟩) 1 16 Tryd.underlying53 hi hj0 hj1 hj2 rfl (by decide) _ _ _ rfl (HO6.out.alloc _) ⟨wr.heap.size + 1, 0, none⟩ 1 1 [.string (str x3)] rfl rfl (new_cells1 _ _ _ _ (by rw [World.size_alloc])) (by simp [Value.oneCell']) (by unfold maxLen; omega) (by omega) (by rw [World.size_alloc, World.size_alloc]; omega) ?_; intro v' w8 hown8 hgrow8 _; have HB8 : Below B w2 w8 := (hbr6.alloc (by rw [World.size_alloc]; omega) _).grown hgrow8 (by rw [World.size_alloc, World.size_alloc]; omega) (fun j hj => (HO6.out.lt j hj).1); obtain ⟨ab8, cb8, rfl⟩ := own_len hown8; have HO8 := Lib.hid hown8; clear hown8 hgrow8)
          -- MARK3
          exact ⟨⟨k + 1, m + 1, _, _, by go_num, rfl, by omega, by omega, Lib.hid (by rw [HSt.out, List.length_append, HM.out]; rfl), Lib.hid (by rw [HSt.out, strV_app]; exact HO8.out), Lib.hid HB8⟩, by simp [intOf]; omega⟩
        · have hne : (x0 == 3) = false := beq_eq_false_iff_ne.2 h3
          have hst : symL (t.take (k + 1)) = symL (t.take k) := by rw [HS.out, if_neg h3, List.append_nil]
          have HSt := Lib.hid hst
          clear hst h3
          go_wp2_with fail
          -- MARK4
          exact ⟨⟨k + 1, m, _, _, by go_num, rfl, by omega, by omega, Lib.hid (by rw [HSt.out, HM.out]), Lib.hid (by rw [HSt.out]; exact HO.out.alloc _), Lib.hid (hBr.alloc hszB _)⟩, by simp [intOf]; omega⟩
      · obtain rfl : k = n := by omega
        have HAll : Hid (t.take k = t) := Lib.hid (List.take_of_length_le (Nat.le_of_eq HN.out))
        have HM2 : Hid ((symL t).length = m) := Lib.hid (by rw [← HM.out, HAll.out])
        have CS := Lib.hid (sort_own B (.slice b m cb) (symL t) wr (by have := HO.out; rw [HAll.out] at this; rw [HM2.out]; exact this) (by rw [HM2.out]; omega) hszB)
        have hls : ((symL t).mergeSort leB).length = m := by rw [List.length_mergeSort, HM2.out]
        have HLs := Lib.hid hls
        clear hB2 hbel0 hls
        go_wp2_with fail
        -- MARK5
        refine CS.out.mono ?_
        rintro e w5 ⟨rfl, ho5, hb5⟩
        have hbB5 : Below B w2 w5 := hBr.trans hb5
        have CK := Lib.hid (compact_own B (.slice b m cb) ((symL t).mergeSort leB) w5 (by rw [HLs.out]; rw [HM2.out] at ho5; exact ho5) (by rw [HLs.out]; omega) (by have := hb5.size; omega))
        clear ho5
        go_wp2_with fail
        -- MARK6
        refine CK.out.mono ?_
        rintro e w6 ⟨a6, c6, rfl, ho6, hb6⟩
        have HRow := Lib.hid (str_own ho6 rfl)
        have hfin : Below w.heap.size w w6 := hbw.trans ((hb5.trans hb6).mono HwB.out)
        have HLen : Hid ((Lib.compact ((symL t).mergeSort leB)).length ≤ 1000) := Lib.hid (by have := Lib.compact_length_le ((symL t).mergeSort leB); rw [HLs.out] at this; omega)
        clear ho6
        go_wp2_with fail
        go_ret2
        -- MARK7
        exact ⟨_, a6, c6, by rw [HK.out]; rfl, HRow.out, fun _ => prog_sym (symL t), fun h => absurd HK.out h, HLen.out, hfin⟩
  · obtain ⟨e2, he2⟩ : ∃ e2, (chkT symS t).2 = e2 := ⟨_, rfl⟩
    have HE := Lib.hid he2
    have HC2 := Lib.hid hc
    rw [he2] at C1 hc
    have hne : (e2 != 0) = true := bne_iff_ne.2 hc
    obtain ⟨a0, c0, rfl⟩ := h.slice
    obtain ⟨W1, hW1⟩ : ∃ W1, W1 = w.alloc (.cells #[.slice a0 t.length c0] 22) := ⟨_, rfl⟩
    have hb1 : Below w.heap.size w W1 := by rw [hW1]; exact below_b1 _ _
    rw [← hW1] at C1
    clear h KB T hc he2
    go_enter Tryd.func42, Tryd.ntmps42
    go_wp2_with fail
    rw [← hW1]
    refine C1.out.mono ?_
    rintro e w2 ⟨rfl, hb2⟩
    go_wp2_with fail
    go_ret2
    exact ⟨[], none, 0, by rw [HE.out]; rfl, ⟨none, 0, rfl, .inl rfl⟩, fun h => absurd h HC2.out, fun _ => rfl, by simp, hb1.trans (hb2.mono hb1.size)⟩
end Go.Proofs.YtkngkajojcmmlaaDoor
