/- words.List. -/
import Derived.BigQuiet
import Derived.Deep.RegionHeld3
import Derived.BigGuardPart
import Derived.Test.YtbmgpenllpbioaaGreatDoorDigits
namespace Go.Proofs.YtbmgpenllpbioaaGreatDoor
open Go.RowKit Go.PlainAid

/-- The slice value v holds the numbers l. -/
def IntsAt (w : World) (v : Value) (l : List Int) : Prop :=
  (v = .slice none 0 0 ∧ l = []) ∨ ∃ g off cap, v = .slice (some ⟨g, off, none⟩) l.length cap ∧ g < w.heap.size ∧ ∀ (j : Nat) (n : Int), l[j]? = some n → w.cell? ⟨g, off + j, none⟩ = some (.int .i64 n)
theorem IntsAt.below {B : Nat} {w w' : World} {v : Value} {l : List Int} (h : IntsAt w v l) (hb : Below B w w') (hB : w.heap.size ≤ B) : IntsAt w' v l := by
  rcases h with h | ⟨g, off, cap, e, hg, hc⟩
  · exact .inl h
  · exact .inr ⟨g, off, cap, e, Nat.lt_of_lt_of_le hg hb.size, fun j u hj => (hb.cell (p := ⟨g, off + j, none⟩) (by show g < B; omega)).trans (hc j u hj)⟩

/-- The text of a run. -/
def runT (a b : Int) : List UInt8 := if a = b then Lib.itoa a else Lib.itoa a ++ [45] ++ Lib.itoa b
/-- How many follow a, one by one. -/
def runN : Int → List Int → Nat
  | _, [] => 0
  | a, b :: l => if b = a + 1 then runN b l + 1 else 0
theorem runN_le : ∀ (l : List Int) (a : Int), runN a l ≤ l.length := by
  intro l
  induction l with
  | nil => intro a; exact Nat.le_refl _
  | cons b l ih =>
    intro a; unfold runN; split
    · simp [ih b]
    · simp
/-- Where the run that begins at p ends. -/
def runE (l : List Int) (p : Nat) : Nat := match l[p]? with | some a => p + 1 + runN a (l.drop (p + 1)) | none => p + 1
def runsFrom : Nat → List Int → Nat → List (List UInt8)
  | 0, _, _ => []
  | f + 1, l, p => match l[p]?, l[runE l p - 1]? with
    | some a, some b => runT a b :: runsFrom f l (runE l p)
    | _, _ => []
def badNum (l : List Int) : Bool := l.any fun n => decide (n < 0) || decide (1000000000 < n)
def ascB : List Int → Bool
  | a :: b :: l => decide (a < b) && ascB (b :: l)
  | _ => true
def listS (l : List Int) : List UInt8 × Int :=
  if 500 < l.length then ([], 3) else if badNum l then ([], 7) else if ascB l = false then ([], 6)
  else if l = [] then ([45], 0) else (Lib.join (runsFrom l.length l 0) [44], 0)

theorem ascB_at : ∀ (l : List Int), ascB l = true ↔ ∀ (i : Nat) (a b : Int), l[i]? = some a → l[i + 1]? = some b → a < b := by
  intro l
  induction l with
  | nil => simp [ascB]
  | cons x l ih =>
    cases l with
    | nil => simp [ascB]
    | cons y l =>
      rw [ascB, Bool.and_eq_true, ih, decide_eq_true_iff]
      constructor
      · rintro ⟨h1, h2⟩ i a b ha hb
        cases i with
        | zero => simp at ha hb; omega
        | succ i => exact h2 i a b (by simpa using ha) (by simpa using hb)
      · intro h
        exact ⟨h 0 x y rfl rfl, fun i a b ha hb => h (i + 1) a b (by simpa using ha) (by simpa using hb)⟩

/-- A run that begins at p goes on to q. -/
theorem runE_step {l : List Int} {p q : Nat} {a b : Int} (hb : l[q]? = some b) (hab : b = a + 1) (hs : runE l p = q + runN a (l.drop q)) :
    runE l p = (q + 1) + runN b (l.drop (q + 1)) := by
  rw [hs]
  have hq := (List.getElem?_eq_some_iff.1 hb)
  rw [List.drop_eq_getElem_cons hq.1, hq.2, runN, if_pos hab]; omega
theorem runE_stop {l : List Int} {p q : Nat} {a : Int} (hs : runE l p = q + runN a (l.drop q)) (h : l.length ≤ q ∨ ∃ b, l[q]? = some b ∧ b ≠ a + 1) : runE l p = q := by
  rw [hs]
  rcases h with h | ⟨b, hb, hne⟩
  · rw [List.drop_of_length_le h]; rfl
  · have hq := (List.getElem?_eq_some_iff.1 hb)
    rw [List.drop_eq_getElem_cons hq.1, hq.2, runN, if_neg hne]; rfl
theorem runE_start {l : List Int} {p : Nat} {a : Int} (ha : l[p]? = some a) : runE l p = (p + 1) + runN a (l.drop (p + 1)) := by unfold runE; rw [ha]
theorem runE_le {l : List Int} {p : Nat} (hp : p < l.length) : p + 1 ≤ runE l p ∧ runE l p ≤ l.length := by
  rw [runE_start (List.getElem?_eq_getElem hp)]
  have := runN_le (l.drop (p + 1)) l[p]
  rw [List.length_drop] at this
  omega

set_option maxHeartbeats 1600000 in
theorem runEnd_any (g off cap : Nat) (l : List Int) (p : Nat) (w : World) (hp : p < l.length) (hl : l.length ≤ 1000000) (hx : ∀ n ∈ l, 0 ≤ n ∧ n ≤ 1000000000)
    (hc : ∀ (j : Nat) (n : Int), l[j]? = some n → w.cell? ⟨g, off + j, none⟩ = some (.int .i64 n)) :
    Calls Tryz.prog 132 #[.slice (some ⟨g, off, none⟩) l.length cap, .int .i64 (p : Int)] w fun e w' => e = .returned (.int .i64 (runE l p : Int)) ∧ Below w.heap.size w w' := by
  obtain ⟨a0, ha0⟩ : ∃ a, l[p]? = some a := ⟨_, List.getElem?_eq_getElem hp⟩
  go_enter Tryz.func132, Tryz.ntmps132
  go_wp2
  go_loopw [5] (fun i wr => ∃ (k : Nat) (a : Int), p ≤ k ∧ k < l.length ∧ i = .int .i64 (k + 1) ∧ Hid (l[k]? = some a ∧ runE l p = k + 1 + runN a (l.drop (k + 1))) ∧ Below w.heap.size w wr ∧ wr.heap = w.heap) (fun i _ => l.length + 1 - (intOf i).toNat)
  case atStart => exact ⟨p, a0, by omega, by omega, by go_num, Lib.hid ⟨ha0, runE_start ha0⟩, Below.refl _ _, rfl⟩
  case round =>
    obtain ⟨k, a, hpq, hql, rfl, H, hbel, hheap⟩ := hrel
    obtain ⟨ha, hs⟩ := H.out
    have hcc : ∀ (j : Nat) (n : Int), l[j]? = some n → wr.cell? ⟨g, off + j, none⟩ = some (.int .i64 n) := fun j n h => by
      rw [show wr.cell? ⟨g, off + j, none⟩ = w.cell? ⟨g, off + j, none⟩ by simp [World.cell?, hheap]]; exact hc j n h
    by_cases hlt : k + 1 < l.length
    · obtain ⟨b, hb⟩ : ∃ b, l[k + 1]? = some b := ⟨_, List.getElem?_eq_getElem hlt⟩
      have c0 := hcc _ _ ha
      have c1 := hcc _ _ hb
      have ra := hx a (List.mem_of_getElem? ha)
      have hd : decide ((k : Int) + 1 < (l.length : Int)) = true := decide_eq_true (by omega)
      by_cases hab : b = a + 1
      · have HN := Lib.hid (And.intro hb (runE_step hb hab hs))
        clear H ha hs hb hcc hc
        subst hab
        go_wp2
        go_quiet (fail)
        go_wp2
        exact ⟨⟨k + 1, a + 1, by omega, hlt, by go_num, HN, ⟨hbel.os, hbel.tape, hbel.output, hbel.size, hbel.block⟩, hheap⟩, by simp [intOf]; omega⟩
      · have HN := Lib.hid (runE_stop hs (.inr ⟨b, hb, hab⟩))
        have he : ((b : Int) == a + 1) = false := by rw [beq_eq_false_iff_ne]; exact hab
        clear H ha hs hb hcc hc
        go_wp2
        go_quiet (fail)
        go_wp2
        go_ret
        exact ⟨ret_int (by rw [HN.out]; go_num), ⟨hbel.os, hbel.tape, hbel.output, hbel.size, hbel.block⟩⟩
    · have HN := Lib.hid (runE_stop hs (.inl (by omega)))
      have hd : decide ((k : Int) + 1 < (l.length : Int)) = false := decide_eq_false (by omega)
      clear H ha hs hcc hc
      go_wp2
      go_quiet (fail)
      go_wp2
      go_ret
      exact ⟨ret_int (by rw [HN.out]; go_num), ⟨hbel.os, hbel.tape, hbel.output, hbel.size, hbel.block⟩⟩

set_option maxRecDepth 50000 in
set_option maxHeartbeats 800000 in
theorem runText_any (a b : Int) (w : World) (ha : i64r a) (hb : i64r b) (hp : PowIs w) (hpw : 1 < w.heap.size) :
    Calls Tryz.prog 133 #[.int .i64 a, .int .i64 b] w fun e w' => e = .returned (.string (str (runT a b))) ∧ Below w.heap.size w w' := by
  have C := Lib.hid (digits_any a w ha hp)
  have C2 := Lib.hid (fun w1 (hb1 : Below w.heap.size w w1) => digits_any b w1 hb (pow_below hp hb1 hpw))
  clear hp
  by_cases hab : a = b
  · have hE : Hid (runT a b = Lib.itoa a) := Lib.hid (by unfold runT; rw [if_pos hab])
    subst hab
    go_enter Tryz.func133, Tryz.ntmps133
    go_wp2_with (go_at_call 153; refine C.out.mono ?_; rintro e w1 ⟨rfl, hb1⟩)
    go_ret
    exact ⟨by rw [hE.out]; rfl, hb1⟩
  · have hE : Hid (runT a b = Lib.itoa a ++ [45] ++ Lib.itoa b) := Lib.hid (by unfold runT; rw [if_neg hab])
    have he : ((a : Int) == b) = false := by rw [beq_eq_false_iff_ne]; exact hab
    have hz1 : (str (Lib.itoa a)).size ≤ 21 := by rw [str_size]; exact Lib.itoa_length_le _ ha.1 ha.2
    have hz2 : (str (Lib.itoa b)).size ≤ 21 := by rw [str_size]; exact Lib.itoa_length_le _ hb.1 hb.2
    go_enter Tryz.func133, Tryz.ntmps133
    go_wp2_with (first | (go_at_call 153; refine (C2.out _ hb1).mono ?_; rintro e w2 ⟨rfl, hb2⟩) | (go_at_call 153; refine C.out.mono ?_; rintro e w1 ⟨rfl, hb1⟩))
    go_ret
    exact ⟨by rw [hE.out]; rfl, hb1.trans (hb2.mono hb1.size)⟩

theorem runT_len {a b : Int} (ha : i64r a) (hb : i64r b) : (runT a b).length ≤ 43 := by
  have h1 := Lib.itoa_length_le a ha.1 ha.2
  have h2 := Lib.itoa_length_le b hb.1 hb.2
  unfold runT; split
  · omega
  · simp only [List.length_append, List.length_cons, List.length_nil]; omega
theorem infoS : (Tryz.prog.info? 9).map (fun i => (i.zero, i.size, i.bytes)) = some (some (.string ⟨#[]⟩), 1, 16) := by kernel_rfl
theorem info_parts3 {P : Program} {t : TypeId} {z : Value} {n b : Nat} (h : (P.info? t).map (fun i => (i.zero, i.size, i.bytes)) = some (some z, n, b)) :
    ∃ i, P.info? t = some i ∧ i.zero = some z ∧ i.size = n ∧ i.bytes = b := by
  cases hi : P.info? t with
  | none => rw [hi] at h; cases h
  | some i =>
    rw [hi] at h
    simp only [Option.map_some, Option.some.injEq, Prod.mk.injEq] at h
    exact ⟨i, rfl, h.1, h.2.1, h.2.2⟩
/-- What the first loop has seen. -/
def noBad (l : List Int) (k : Nat) : Prop := ∀ n ∈ l.take k, 0 ≤ n ∧ n ≤ 1000000000
theorem noBad_succ {l : List Int} {k : Nat} {n : Int} (h : noBad l k) (hk : l[k]? = some n) (h0 : 0 ≤ n) (h1 : n ≤ 1000000000) : noBad l (k + 1) := by
  intro m hm
  rw [List.take_add_one, hk] at hm
  rcases List.mem_append.1 hm with hm | hm
  · exact h m hm
  · simp at hm; subst hm; exact ⟨h0, h1⟩
theorem bad_yes {l : List Int} {n : Int} (hm : n ∈ l) (h : n < 0 ∨ 1000000000 < n) : badNum l = true := by
  unfold badNum; rw [List.any_eq_true]; refine ⟨n, hm, ?_⟩; simpa using h
theorem bad_no {l : List Int} (h : noBad l l.length) : badNum l = false := by
  unfold badNum; rw [List.any_eq_false]; intro n hn
  have := h n (by rw [List.take_length]; exact hn)
  simp; omega
/-- What the second loop has seen. -/
def ascTo (l : List Int) (k : Nat) : Prop := ∀ (i : Nat) (a b : Int), i < k → l[i]? = some a → l[i + 1]? = some b → a < b

/-- The third loop: what is written, and what is left. -/
def RunsTo (l : List Int) (p : Nat) (ts : List (List UInt8)) : Prop := (∃ f, l.length ≤ f + p ∧ runsFrom l.length l 0 = ts ++ runsFrom f l p) ∧ ∀ t ∈ ts, t.length ≤ 43
theorem runsTo_step {l : List Int} {p : Nat} {ts : List (List UInt8)} {a b : Int} (h : RunsTo l p ts) (hp : p < l.length) (ha : l[p]? = some a) (hb : l[runE l p - 1]? = some b) (hra : i64r a) (hrb : i64r b) :
    RunsTo l (runE l p) (ts ++ [runT a b]) := by
  obtain ⟨⟨f, hf, he⟩, ht⟩ := h
  have hle := runE_le hp
  obtain ⟨f, rfl⟩ : ∃ g, f = g + 1 := ⟨f - 1, by omega⟩
  refine ⟨⟨f, by omega, ?_⟩, fun t hm => ?_⟩
  · rw [he, runsFrom, ha, hb, List.append_assoc]; rfl
  · rcases List.mem_append.1 hm with hm | hm
    · exact ht t hm
    · rw [List.mem_singleton.1 hm]; exact runT_len hra hrb
theorem runsFrom_end : ∀ (f : Nat) (l : List Int) (p : Nat), l.length ≤ p → runsFrom f l p = [] := by
  intro f l p h
  cases f with
  | zero => rfl
  | succ f => rw [runsFrom, List.getElem?_eq_none h]
theorem runsTo_end {l : List Int} {p : Nat} {ts : List (List UInt8)} (h : RunsTo l p ts) (hp : l.length ≤ p) : runsFrom l.length l 0 = ts := by
  obtain ⟨⟨f, hf, he⟩, ht⟩ := h
  rw [he, runsFrom_end f l p hp, List.append_nil]
theorem lens_le : ∀ (ts : List (List UInt8)), (∀ t ∈ ts, t.length ≤ 43) → Lib.lens ts ≤ 43 * ts.length := by
  intro ts
  induction ts with
  | nil => intro _; exact Nat.le_refl _
  | cons t ts ih =>
    intro h
    have h1 := h t (List.mem_cons_self ..)
    have h2 := ih fun u hu => h u (List.mem_cons_of_mem _ hu)
    unfold Lib.lens at *
    simp only [List.map_cons, List.sum_cons, List.length_cons]; omega
theorem join_le {ts : List (List UInt8)} (h : ∀ t ∈ ts, t.length ≤ 43) : (Lib.join ts [44]).length ≤ 44 * ts.length := by
  cases ts with
  | nil => exact Nat.le_refl _
  | cons t ts =>
    rw [Lib.join_length]
    have := lens_le _ h
    simp only [List.length_cons, List.length_nil] at *; omega

def ListV (l : List Int) (w : World) (e : Ending) (w' : World) : Prop := e = .returned (.tuple #[.string (str (listS l).1), .int .i64 (listS l).2]) ∧ Below w.heap.size w w'
theorem listS_3 {l : List Int} (h : 500 < l.length) : listS l = ([], 3) := by unfold listS; rw [if_pos h]
theorem listS_7 {l : List Int} (h : ¬ 500 < l.length) (hb : badNum l = true) : listS l = ([], 7) := by unfold listS; rw [if_neg h, if_pos hb]
theorem listS_6 {l : List Int} (h : ¬ 500 < l.length) (hb : badNum l = false) (ha : ascB l = false) : listS l = ([], 6) := by unfold listS; rw [if_neg h, if_neg (by rw [hb]; decide), if_pos ha]
theorem listS_0 {l : List Int} (h : l = []) : listS l = ([45], 0) := by subst h; rfl
theorem listS_ok {l : List Int} (h : ¬ 500 < l.length) (hb : badNum l = false) (ha : ascB l = true) (hn : l ≠ []) : listS l = (Lib.join (runsFrom l.length l 0) [44], 0) := by
  unfold listS; rw [if_neg h, if_neg (by rw [hb]; decide), if_neg (by rw [ha]; decide), if_neg hn]
theorem listV_of {l : List Int} {w w' : World} {x : List UInt8} {c : Int} {t : ByteArray} (h : listS l = (x, c)) (ht : t = str x) (hb : Below w.heap.size w w') : ListV l w (.returned (.tuple #[.string t, .int .i64 c])) w' := by
  unfold ListV; rw [h, ht]; exact ⟨rfl, hb⟩
theorem asc_no {l : List Int} {i : Nat} {a b : Int} (ha : l[i]? = some a) (hb : l[i + 1]? = some b) (h : b ≤ a) : ascB l = false := by
  cases hx : ascB l with
  | false => rfl
  | true => have := (ascB_at l).1 hx i a b ha hb; omega

set_option maxRecDepth 50000 in
set_option maxHeartbeats 3200000 in
theorem list_some (g off cap : Nat) (l : List Int) (w : World) (hl : l.length ≤ 1000000) (hg : g < w.heap.size) (hr : ∀ n ∈ l, i64r n) (hp : PowIs w) (hpw : 1 < w.heap.size)
    (hc : ∀ (j : Nat) (n : Int), l[j]? = some n → w.cell? ⟨g, off + j, none⟩ = some (.int .i64 n)) :
    Calls Tryz.prog 119 #[.slice (some ⟨g, off, none⟩) l.length cap] w (ListV l w) := by
  by_cases h500 : 500 < l.length
  · have hV := Lib.hid (listS_3 h500)
    have hd : decide ((500 : Int) < (l.length : Int)) = true := decide_eq_true (by omega)
    go_enter Tryz.func119, Tryz.ntmps119
    go_wp2
    go_ret2
    exact listV_of hV.out rfl (Below.refl _ _)
  · have HS := Lib.hid h500
    have HC := Lib.hid hc
    clear hc
    have hd : decide ((500 : Int) < (l.length : Int)) = false := decide_eq_false (by omega)
    go_enter Tryz.func119, Tryz.ntmps119
    go_wp2
    go_loop [15] (fun i => ∃ k : Nat, k ≤ l.length ∧ i = .int .i64 k ∧ noBad l k) (fun i => l.length - (intOf i).toNat)
    case atStart => exact ⟨0, Nat.zero_le _, rfl, fun n hn => by simp at hn⟩
    case round =>
      obtain ⟨k, hk, rfl, hno⟩ := hrel
      by_cases hlt : k < l.length
      · obtain ⟨n, hn⟩ : ∃ n, l[k]? = some n := ⟨_, List.getElem?_eq_getElem hlt⟩
        have c0 := HC.out _ _ hn
        have hm := List.mem_of_getElem? hn
        by_cases hb : n < 0 ∨ 1000000000 < n
        · have hV := Lib.hid (listS_7 h500 (bad_yes hm hb))
          clear hno hn hm
          go_wp2
          all_goals first | (exfalso; omega) | (go_ret2; exact listV_of hV.out rfl (Below.refl _ _))
        · have h0 : 0 ≤ n := by omega
          have h1 : n ≤ 1000000000 := by omega
          have HN := noBad_succ hno hn h0 h1
          clear hno hn hm hb
          go_wp2
          all_goals first | (exfalso; omega) | (go_round <;> first | exact ⟨k + 1, by omega, by go_num, HN⟩ | (simp [intOf]; omega))
      · obtain rfl : k = l.length := by omega
        have HB := Lib.hid (bad_no hno)
        have HX := Lib.hid hno
        clear hno
        go_wp2
        go_loopw [6] (fun i wr => ∃ k : Nat, i = .int .i64 (k + 1) ∧ ascTo l k ∧ k ≤ l.length ∧ wr.heap = w.heap ∧ Below w.heap.size w wr) (fun i _ => l.length + 1 - (intOf i).toNat)
        case atStart => exact ⟨0, rfl, fun i _ _ hi => absurd hi (Nat.not_lt_zero _), Nat.zero_le _, rfl, Below.refl _ _⟩
        case round =>
          obtain ⟨k, rfl, hasc, hkl, hheap, hbel⟩ := hrel
          by_cases hlt : k + 1 < l.length
          · obtain ⟨a, ha⟩ : ∃ a, l[k]? = some a := ⟨_, List.getElem?_eq_getElem (by omega)⟩
            obtain ⟨b, hb⟩ : ∃ b, l[k + 1]? = some b := ⟨_, List.getElem?_eq_getElem hlt⟩
            have c0 : wr.cell? ⟨g, off + k, none⟩ = some (.int .i64 a) := by
              rw [show wr.cell? ⟨g, off + k, none⟩ = w.cell? ⟨g, off + k, none⟩ by simp [World.cell?, hheap]]; exact HC.out _ _ ha
            have c1 : wr.cell? ⟨g, off + (k + 1), none⟩ = some (.int .i64 b) := by
              rw [show wr.cell? ⟨g, off + (k + 1), none⟩ = w.cell? ⟨g, off + (k + 1), none⟩ by simp [World.cell?, hheap]]; exact HC.out _ _ hb
            have hdl : decide ((k : Int) + 1 < (l.length : Int)) = true := decide_eq_true (by omega)
            by_cases hab : b ≤ a
            · have hV := Lib.hid (listS_6 h500 HB.out (asc_no ha hb hab))
              have hge : decide (b ≤ a) = true := decide_eq_true hab
              clear ha hb hasc
              go_wp2
              go_quiet (fail)
              go_wp2
              go_ret2
              exact listV_of hV.out rfl ⟨hbel.os, hbel.tape, hbel.output, hbel.size, hbel.block⟩
            · have hge : decide (b ≤ a) = false := decide_eq_false hab
              have HN : ascTo l (k + 1) := fun i x y hi hx hy => by
                rcases Nat.lt_succ_iff_lt_or_eq.1 hi with hi | rfl
                · exact hasc i x y hi hx hy
                · rw [ha] at hx; rw [hb] at hy; cases hx; cases hy; omega
              clear ha hb hasc
              go_wp2
              go_quiet (fail)
              go_wp2
              exact ⟨⟨k + 1, by go_num, HN, by omega, hheap, ⟨hbel.os, hbel.tape, hbel.output, hbel.size, hbel.block⟩⟩, by simp [intOf]; omega⟩
          · have hA : ascB l = true := (ascB_at l).2 fun i a b ha hb => hasc i a b (by have := (List.getElem?_eq_some_iff.1 hb).1; omega) ha hb
            clear hasc
            by_cases hn : l = []
            · have hV := Lib.hid (listS_0 hn)
              have hl0 : l.length = 0 := by rw [hn]; rfl
              clear hA
              go_wp2
              all_goals first | (exfalso; omega) | (go_ret2; exact listV_of hV.out rfl hbel)
            · have hl0 : 0 < l.length := List.length_pos_iff.2 hn
              have hV := Lib.hid (listS_ok h500 HB.out hA hn)
              have hne : ((l.length : Int) == 0) = false := by rw [beq_eq_false_iff_ne]; omega
              clear hA hn hheap
              have CT : Hid (∀ a b w1, i64r a → i64r b → Below w.heap.size w w1 → Calls Tryz.prog 133 #[.int .i64 a, .int .i64 b] w1 fun e w' => e = .returned (.string (str (runT a b))) ∧ Below w1.heap.size w1 w') :=
                Lib.hid fun a b w1 ha hb hb1 => runText_any a b w1 ha hb (pow_below hp hb1 hpw) (Nat.lt_of_lt_of_le hpw hb1.size)
              have HR := Lib.hid hr
              clear hp hr
              go_wp2
              go_loopw [7, 8] (fun vb i wr => ∃ (p : Nat) (ts : List (List UInt8)), p ≤ l.length ∧ i = .int .i64 p ∧ ts.length ≤ p ∧ wr.ownsRow w.heap.size 9 1 vb ts.length (ts.map fun t => .string (str t)) ∧ Hid (RunsTo l p ts) ∧ Below w.heap.size w wr) (fun _ i _ => l.length - (intOf i).toNat)
              case atStart => exact ⟨0, [], Nat.zero_le _, rfl, Nat.le_refl _, World.ownsRow_nil _ _ _ _, Lib.hid ⟨⟨l.length, by omega, rfl⟩, fun t ht => by cases ht⟩, hbel⟩
              case round =>
                obtain ⟨p, ts, hpl, rfl, htp, hown, HT, hbel3⟩ := hrel
                by_cases hlt3 : p < l.length
                · obtain ⟨q, hq⟩ : ∃ q, runE l p = q + 1 := ⟨runE l p - 1, by have := runE_le hlt3; omega⟩
                  have hqle := runE_le hlt3
                  rw [hq] at hqle
                  have hq1 : q < l.length := by omega
                  have hwq : IntKind.i64.wrap (q : Int) = (q : Int) := IntWalk.i64_in _ ⟨by omega, by omega⟩
                  have hq0 : 0 ≤ (q : Int) ∧ (q : Int) < (l.length : Int) := by omega
                  obtain ⟨a, ha⟩ : ∃ a, l[p]? = some a := ⟨_, List.getElem?_eq_getElem hlt3⟩
                  obtain ⟨b, hb⟩ : ∃ b, l[q]? = some b := ⟨_, List.getElem?_eq_getElem (by omega)⟩
                  have hra := HR.out a (List.mem_of_getElem? ha)
                  have hrb := HR.out b (List.mem_of_getElem? hb)
                  have HN := Lib.hid (runsTo_step HT.out hlt3 ha (by rw [hq]; exact hb) hra hrb)
                  rw [hq] at HN
                  have CE := Lib.hid (runEnd_any g off cap l p wr hlt3 hl (fun n hn => HX.out n (by rw [List.take_length]; exact hn)) (fun j n h => (hbel3.cell (p := ⟨g, off + j, none⟩) hg).trans (HC.out j n h)))
                  rw [hq] at CE
                  have c0 := (hbel3.cell (p := ⟨g, off + p, none⟩) hg).trans (HC.out _ _ ha)
                  have c1 := (hbel3.cell (p := ⟨g, off + q, none⟩) hg).trans (HC.out _ _ hb)
                  have hgr : g < wr.heap.size := Nat.lt_of_lt_of_le hg hbel3.size
                  clear ha hb hq
                  go_wp2_with (go_at_call 132; refine CE.out.mono ?_; rintro e w1 ⟨rfl, hb1⟩; have d0 := (hb1.cell (p := ⟨g, off + p, none⟩) hgr).trans c0; have d1 := (hb1.cell (p := ⟨g, off + q, none⟩) hgr).trans c1; have hown1 := own_below hown hb1; have hbel4 := hbel3.trans (hb1.mono hbel3.size))
                  have HBD : Hid (Below w.heap.size w w1.drew) := Lib.hid ⟨hbel4.os, hbel4.tape, hbel4.output, hbel4.size, hbel4.block⟩
                  have hownD : Hid (w1.drew.ownsRow w.heap.size 9 1 u7 ts.length (ts.map fun t => .string (str t))) := Lib.hid hown1
                  obtain ⟨i0, hi, hj0, hj1, hj2⟩ := info_parts3 infoS
                  have hbs : w.heap.size ≤ w1.heap.size := hbel4.size
                  have hgr1 : g < w1.heap.size := Nat.lt_of_lt_of_le hgr hb1.size
                  have hp0 : (0 : Int) ≤ (p : Int) := Int.natCast_nonneg _
                  have hp1 : (p : Int) < (l.length : Int) := by omega
                  have hq2 : (0 : Int) ≤ (q : Int) := Int.natCast_nonneg _
                  have hq3 : (q : Int) < (l.length : Int) := by omega
                  go_region_held3 (fun w' => w'.cell? ⟨g, off + p, none⟩ = some (.int .i64 a) ∧ w'.cell? ⟨g, off + q, none⟩ = some (.int .i64 b)) (go_keep)
                    (first
                      | (go_at_call 133; refine (CT.out a b _ hra hrb HBD.out).mono ?_; rintro e w2 ⟨rfl, hb2⟩; have hown2 := own_below hownD.out hb2; have hs2 : w1.heap.size ≤ w2.heap.size := hb2.size; have e0 : w2.cell? ⟨g, off + p, none⟩ = some (.int .i64 a) := (hb2.cell (p := ⟨g, off + p, none⟩) hgr1).trans d0; have e1 : w2.cell? ⟨g, off + q, none⟩ = some (.int .i64 b) := (hb2.cell (p := ⟨g, off + q, none⟩) hgr1).trans d1)
                      | (refine step_append_own rfl _ _ 111 rfl w.heap.size 9 i0 (.string ⟨#[]⟩) 1 16 Tryz.underlying111 hi hj0 hj1 hj2 rfl (by decide) _ _ _ rfl (hown2.alloc _) ⟨w2.heap.size, 0, none⟩ 1 1 [.string (str (runT a b))] rfl rfl (new_cells w2 [.string (str (runT a b))] _) (by simp [Value.oneCell']) (by unfold maxLen; omega) (by omega) (by simp; omega) ?_; intro v' w3 hown3 hgrow3 _; have k3 : w3.heap[g]? = w2.heap[g]? := (hgrow3.block g (by rw [World.size_alloc]; omega) (fun e => by have := (hown2.lt g e.symm).1; omega)).trans (Below.heap_alloc _ _ _ (by omega)); have f0 : w3.cell? ⟨g, off + p, none⟩ = some (.int .i64 a) := (cell_b k3).trans e0; have f1 : w3.cell? ⟨g, off + q, none⟩ = some (.int .i64 b) := (cell_b k3).trans e1))
                  all_goals go_wp2
                  refine ⟨⟨q + 1, ts ++ [runT a b], by omega, by go_num, by simp; omega, ?_, HN, ?_⟩, by simp [intOf]; omega⟩
                  · rw [List.length_append, List.map_append]; exact hown3
                  · exact ((HBD.out.trans (hb2.mono hbs)).alloc (by omega) _).grown hgrow3 (by rw [World.size_alloc]; omega) (fun k hk => (hown2.lt k hk).1)
                · obtain rfl : p = l.length := by omega
                  have HE := Lib.hid (runsTo_end HT.out (Nat.le_refl _))
                  have hj := join_le HT.out.2
                  obtain ⟨hlen1, hsh⟩ := hown
                  rcases hsh with ⟨rfl, hts⟩ | ⟨g', cap', cur, rfl, hg', hblk, hn1, hn2, hn3, hn4⟩
                  · have hE2 : Hid ((str (Lib.join (runsFrom l.length l 0) [44])) = ⟨#[]⟩) := Lib.hid (by rw [HE.out, List.eq_nil_of_length_eq_zero hts]; rfl)
                    clear hlen1 hts hj
                    go_wp2_with (go_at_call 134; refine (Tryz.strings_Join_none none 0 ⟨#[44]⟩ wr).mono ?_; rintro e w1 ⟨rfl, rfl⟩)
                    go_ret2
                    exact listV_of hV.out hE2.out.symm hbel3
                  · have hgl : g' < wr.heap.size := (Array.getElem?_eq_some_iff.1 hblk).1
                    have CJ : Hid (Calls Tryz.prog 134 #[.slice (some ⟨g', 0, none⟩) ts.length cap', .string ⟨#[44]⟩] wr fun e w' => e = .returned (.string (str (Lib.join (runsFrom l.length l 0) [44]))) ∧ Below wr.heap.size wr w') := Lib.hid (by
                      have h := Tryz.strings_Join g' 0 cap' (ts.map str) ⟨#[44]⟩ wr (fun j x hx => ?_) hgl (by simp; omega) (by simpa using hn1) (by
                        rw [List.map_map, show ((fun (b : ByteArray) => b.data.toList) ∘ str) = id from funext fun x => str_list x, List.map_id]
                        exact Nat.le_trans hj (by omega))
                      · rw [List.map_map, show ((fun (b : ByteArray) => b.data.toList) ∘ str) = id from funext fun x => str_list x, List.map_id, List.length_map] at h
                        rw [HE.out]; exact h
                      · have hm : (ts.map fun t => Value.string (str t))[j]? = some (.string x) := by
                          rw [List.getElem?_map] at hx ⊢
                          cases ht : ts[j]? with
                          | none => rw [ht] at hx; cases hx
                          | some t => rw [ht] at hx; have := Option.some.inj hx; subst this; rfl
                        rw [← hn4] at hm
                        have hm' : cur.toList[j]? = some (.string x) := by
                          rw [List.getElem?_take] at hm
                          split at hm
                          · exact hm
                          · cases hm
                        simp only [World.cell?, hblk, Nat.zero_add, Option.isSome_none]
                        simpa using hm')
                    clear hlen1 hn4 hn3 hn2 hj hblk
                    go_wp2_with (go_at_call 134; refine CJ.out.mono ?_; rintro e w1 ⟨rfl, hb1⟩)
                    go_ret2
                    exact listV_of hV.out rfl (hbel3.trans (hb1.mono hbel3.size))

set_option maxHeartbeats 800000 in
theorem list_nil (w : World) : Calls Tryz.prog 119 #[.slice none 0 0] w (ListV [] w) := by
  have hV := Lib.hid (listS_0 (l := []) rfl)
  go_enter Tryz.func119, Tryz.ntmps119
  go_wp2
  go_loop [15] (fun i => i = .int .i64 0) (fun _ => 0)
  case atStart => rfl
  case round =>
    subst hrel
    go_wp2
    go_loop [6] (fun i => i = .int .i64 1) (fun _ => 0)
    case atStart => rfl
    case round =>
      subst hrel
      go_wp2
      go_ret2
      exact listV_of hV.out rfl (Below.refl _ _)

theorem list_any (v : Value) (l : List Int) (w : World) (h : IntsAt w v l) (hl : l.length ≤ 1000000) (hr : ∀ n ∈ l, i64r n) (hp : PowIs w) (hpw : 1 < w.heap.size) :
    Calls Tryz.prog 119 #[v] w (ListV l w) := by
  rcases h with ⟨rfl, rfl⟩ | ⟨g, off, cap, rfl, hg, hc⟩
  · exact list_nil w
  · exact list_some g off cap l w hl hg hr hp hpw hc

end Go.Proofs.YtbmgpenllpbioaaGreatDoor
