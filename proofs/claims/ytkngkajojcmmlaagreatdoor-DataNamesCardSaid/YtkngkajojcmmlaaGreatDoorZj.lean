import Derived.Test.YtkngkajojcmmlaaGreatDoorZi
import Derived.Laws.Cover1
import Derived.Deep.RegionHeld3
/- cmp.Compare of numbers, cmp.Or. -/
namespace Go.Proofs.YtkngkajojcmmlaaGreatDoor
open Go.RowKit Go.PlainAid

/-- -1, 0 or 1. -/
def sgn (x y : Int) : Int := if x < y then -1 else if y < x then 1 else 0
set_option maxRecDepth 50000 in
theorem nan_int (x : Int) (w : World) : Calls Tryz.prog 74 #[.int .i64 x] w fun e w' => e = .returned (.bool false) ∧ w = w' := by
  have h : (x != x) = false := by simp
  go_enter Tryz.func74, Tryz.ntmps74
  go_wp2_with fail
  go_ret
  exact ⟨rfl, rfl⟩
set_option maxRecDepth 50000 in
theorem nan_i64 (x : Int) (w : World) : Calls Tryz.prog 75 #[.int .i64 x] w fun e w' => e = .returned (.bool false) ∧ w = w' := by
  have h : (x != x) = false := by simp
  go_enter Tryz.func75, Tryz.ntmps75
  go_wp2_with fail
  go_ret
  exact ⟨rfl, rfl⟩
set_option maxRecDepth 50000 in
theorem cmp_int (x y : Int) (w : World) : Calls Tryz.prog 49 #[.int .i64 x, .int .i64 y] w fun e w' => e = .returned (.int .i64 (sgn x y)) ∧ w = w' := by
  have C := Lib.hid (nan_int)
  by_cases h1 : x < y
  · have HV : Hid (sgn x y = -1) := Lib.hid (by unfold sgn; rw [if_pos h1])
    have d1 : decide (x < y) = true := decide_eq_true h1
    go_enter Tryz.func49, Tryz.ntmps49
    go_wp2_with (go_at_call 74; refine (C.out _ _).mono ?_; rintro e w' ⟨rfl, rfl⟩)
    go_ret
    exact ⟨by rw [HV.out]; rfl, rfl⟩
  · have d1 : decide (x < y) = false := decide_eq_false h1
    by_cases h2 : y < x
    · have HV : Hid (sgn x y = 1) := Lib.hid (by unfold sgn; rw [if_neg h1, if_pos h2])
      have d2 : decide (y < x) = true := decide_eq_true h2
      go_enter Tryz.func49, Tryz.ntmps49
      go_wp2_with (go_at_call 74; refine (C.out _ _).mono ?_; rintro e w' ⟨rfl, rfl⟩)
      go_ret
      exact ⟨by rw [HV.out]; rfl, rfl⟩
    · have HV : Hid (sgn x y = 0) := Lib.hid (by unfold sgn; rw [if_neg h1, if_neg h2])
      have d2 : decide (y < x) = false := decide_eq_false h2
      go_enter Tryz.func49, Tryz.ntmps49
      go_wp2_with (go_at_call 74; refine (C.out _ _).mono ?_; rintro e w' ⟨rfl, rfl⟩)
      go_ret
      exact ⟨by rw [HV.out]; rfl, rfl⟩
set_option maxRecDepth 50000 in
theorem cmp_i64 (x y : Int) (w : World) : Calls Tryz.prog 50 #[.int .i64 x, .int .i64 y] w fun e w' => e = .returned (.int .i64 (sgn x y)) ∧ w = w' := by
  have C := Lib.hid (nan_i64)
  by_cases h1 : x < y
  · have HV : Hid (sgn x y = -1) := Lib.hid (by unfold sgn; rw [if_pos h1])
    have d1 : decide (x < y) = true := decide_eq_true h1
    go_enter Tryz.func50, Tryz.ntmps50
    go_wp2_with (go_at_call 75; refine (C.out _ _).mono ?_; rintro e w' ⟨rfl, rfl⟩)
    go_ret
    exact ⟨by rw [HV.out]; rfl, rfl⟩
  · have d1 : decide (x < y) = false := decide_eq_false h1
    by_cases h2 : y < x
    · have HV : Hid (sgn x y = 1) := Lib.hid (by unfold sgn; rw [if_neg h1, if_pos h2])
      have d2 : decide (y < x) = true := decide_eq_true h2
      go_enter Tryz.func50, Tryz.ntmps50
      go_wp2_with (go_at_call 75; refine (C.out _ _).mono ?_; rintro e w' ⟨rfl, rfl⟩)
      go_ret
      exact ⟨by rw [HV.out]; rfl, rfl⟩
    · have HV : Hid (sgn x y = 0) := Lib.hid (by unfold sgn; rw [if_neg h1, if_neg h2])
      have d2 : decide (y < x) = false := decide_eq_false h2
      go_enter Tryz.func50, Tryz.ntmps50
      go_wp2_with (go_at_call 75; refine (C.out _ _).mono ?_; rintro e w' ⟨rfl, rfl⟩)
      go_ret
      exact ⟨by rw [HV.out]; rfl, rfl⟩
/-- The first that is not 0. -/
def orS : List Int → Int
  | [] => 0
  | x :: r => if x ≠ 0 then x else orS r
theorem or_step {l : List Int} {k : Nat} {x : Int} (h : l[k]? = some x) : orS (l.drop k) = if x ≠ 0 then x else orS (l.drop (k + 1)) := by
  obtain ⟨hk, rfl⟩ := List.getElem?_eq_some_iff.1 h
  rw [List.drop_eq_getElem_cons hk, orS]
set_option maxRecDepth 50000 in
set_option maxHeartbeats 1600000 in
theorem or_any (v : Value) (l : List Int) (w : World) (h : IntRow w v l) (hl : l.length ≤ 1000000) : Calls Tryz.prog 48 #[v] w fun e w' => e = .returned (.int .i64 (orS l)) ∧ w = w' := by
  obtain ⟨a, c, rfl, hA⟩ := h
  have HA := Lib.hid hA
  obtain ⟨n, hn⟩ : ∃ n, l.length = n := ⟨_, rfl⟩
  have HN := Lib.hid hn
  rw [hn] at hl
  rw [hn]
  clear hA hn
  go_enter Tryz.func48, Tryz.ntmps48
  go_wp2_with fail
  -- MARK1
  go_loop [8] (fun x => ∃ k : Nat, x = .int .i64 (k : Int) ∧ k ≤ n ∧ Hid (orS (l.drop k) = orS l)) (fun x => n - (intOf x).toNat)
  case atStart => exact ⟨0, rfl, Nat.zero_le _, Lib.hid (by rw [List.drop_zero])⟩
  case round =>
    obtain ⟨k, rfl, hk, HE⟩ := hrel
    have hk0 : (0 : Int) ≤ (k : Int) := Int.natCast_nonneg _
    by_cases hlt : k < n
    · obtain ⟨x, hx⟩ : ∃ x, l[k]? = some x := ⟨_, List.getElem?_eq_getElem (by rw [HN.out]; exact hlt)⟩
      have hk1 : (k : Int) < (n : Int) := by omega
      rcases HA.out with hnil | ⟨g, off, rfl, hg, hc⟩
      · rw [hnil] at hx; cases hx
      have d0 := hc k x hx
      have hst := or_step hx
      rw [HE.out] at hst
      have HSt := Lib.hid hst
      clear hx hst hc
      by_cases h0 : x = 0
      · subst h0
        have HE2 : Hid (orS (l.drop (k + 1)) = orS l) := Lib.hid (by rw [HSt.out, if_neg (by simp)])
        go_wp2_with fail
        go_round
        case rel => exact ⟨k + 1, by go_num, by omega, HE2⟩
        case measure => simp [intOf]; omega
      · have hb : (x != 0) = true := bne_iff_ne.2 h0
        have HF : Hid (orS l = x) := Lib.hid (by rw [HSt.out, if_pos h0])
        clear h0
        go_wp2_with fail
        go_ret
        exact ⟨by rw [HF.out]; rfl, rfl⟩
    · obtain rfl : k = n := by omega
      have HF : Hid (orS l = 0) := Lib.hid (by rw [← HE.out, List.drop_of_length_le (Nat.le_of_eq HN.out)]; rfl)
      go_wp2_with fail
      go_ret
      exact ⟨by rw [HF.out]; rfl, rfl⟩
end Go.Proofs.YtkngkajojcmmlaaGreatDoor

/- Rows of strings; the law's many; the reference's Strings. -/
namespace Go.Proofs.YtkngkajojcmmlaaGreatDoor
open Go.RowKit Go.PlainAid

/-- The slice value v holds the strings l. -/
def StrRow (w : World) (v : Value) (l : List (List UInt8)) : Prop := ∃ a c, v = .slice a l.length c ∧ (l = [] ∨ ∃ g off, a = some ⟨g, off, none⟩ ∧ g < w.heap.size ∧ ∀ (j : Nat) (s : List UInt8), l[j]? = some s → w.cell? ⟨g, off + j, none⟩ = some (.string (str s)))
theorem StrRow.below {w w' : World} {v : Value} {l : List (List UInt8)} (h : StrRow w v l) (hb : Below w.heap.size w w') : StrRow w' v l := by
  obtain ⟨a, c, e, h⟩ := h
  refine ⟨a, c, e, h.imp id ?_⟩
  rintro ⟨g, off, e, hg, hc⟩
  exact ⟨g, off, e, Nat.lt_of_lt_of_le hg hb.size, fun j s hj => (hb.cell (p := ⟨g, off + j, none⟩) hg).trans (hc j s hj)⟩
/-- What many returns. -/
def manyV (l : List (List UInt8)) (w : World) (e : Ending) (w' : World) : Prop := ∃ b, e = .returned (.bool b) ∧ (b = false → l.length ≤ 50 ∧ ∀ s ∈ l, s.length ≤ 100) ∧ Below w.heap.size w w'
set_option maxRecDepth 50000 in
set_option maxHeartbeats 1600000 in
theorem many_any (v : Value) (l : List (List UInt8)) (w : World) (h : StrRow w v l) : Calls Tryz.prog 5 #[v] w (manyV l w) := by
  obtain ⟨a, c, rfl, hA⟩ := h
  have HA : Hid (∀ W, Below w.heap.size w W → ∀ (k : Nat) (s : List UInt8), l[k]? = some s → ∃ g off, a = some ⟨g, off, none⟩ ∧ W.cell? ⟨g, off + k, none⟩ = some (.string (str s))) := Lib.hid fun W hW k s hs => by
    rcases hA with rfl | ⟨g, off, rfl, hg, hc⟩
    · cases hs
    · exact ⟨g, off, rfl, (hW.cell (p := ⟨g, off + k, none⟩) hg).trans (hc k s hs)⟩
  obtain ⟨n, hn⟩ : ∃ n, l.length = n := ⟨_, rfl⟩
  have HN := Lib.hid hn
  rw [hn]
  clear hA hn
  by_cases hbg : 50 < n
  · have hd : decide ((50 : Int) < (n : Int)) = true := decide_eq_true (by omega)
    go_enter Tryz.func5, Tryz.ntmps5
    go_wp2
    go_ret
    exact ⟨_, rfl, (fun e => by cases e), Below.refl _ _⟩
  · have hd : decide ((50 : Int) < (n : Int)) = false := decide_eq_false (by omega)
    go_enter Tryz.func5, Tryz.ntmps5
    go_wp2
    go_loopw [3] (fun i wr => ∃ k : Nat, k ≤ n ∧ i = .int .i64 k ∧ Hid (∀ (j : Nat) x, j < k → l[j]? = some x → x.length ≤ 100) ∧ Below w.heap.size w wr) (fun i _ => n - (intOf i).toNat)
    case atStart => exact ⟨0, Nat.zero_le _, rfl, Lib.hid (fun j x h => by omega), Below.refl _ _⟩
    case round =>
      obtain ⟨k, hk, rfl, hno, hbel⟩ := hrel
      have hk0 : (0 : Int) ≤ (k : Int) := Int.natCast_nonneg _
      by_cases hlt : k < n
      · obtain ⟨x, hxk⟩ : ∃ x, l[k]? = some x := ⟨_, List.getElem?_eq_getElem (by rw [HN.out]; exact hlt)⟩
        obtain ⟨g, off, rfl, c0⟩ := HA.out wr hbel k x hxk
        have hkl : (k : Int) < (n : Int) := by omega
        have HX := Lib.hid hxk
        clear hxk
        obtain ⟨z, hz⟩ : ∃ z, (str x).size = z := ⟨_, rfl⟩
        have HZ : Hid (x.length = z) := Lib.hid (by rw [← hz, str_size])
        by_cases hbig : 100 < z
        · have hd2 : decide ((100 : Int) < (z : Int)) = true := decide_eq_true (by omega)
          clear hbig
          go_wp2
          go_ret
          exact ⟨_, rfl, (fun e => by cases e), hbel⟩
        · have hd2 : decide ((100 : Int) < (z : Int)) = false := decide_eq_false (by omega)
          have HNo : Hid (∀ (j : Nat) x, j < k + 1 → l[j]? = some x → x.length ≤ 100) := Lib.hid (fun j y h1 h2 => by
            by_cases e : j = k
            · rw [e, HX.out] at h2; rw [← Option.some.inj h2, HZ.out]; omega
            · exact hno.out j y (by omega) h2)
          clear hbig
          go_wp2
          go_roundw
          case rel => exact ⟨k + 1, by omega, by go_num, HNo, hbel⟩
          case measure => simp [intOf]; omega
      · obtain rfl : k = n := by omega
        go_wp2
        go_ret
        exact ⟨_, rfl, (fun _ => ⟨by rw [HN.out]; omega, fun s hs => by
          obtain ⟨j, hj⟩ := List.getElem?_of_mem hs
          exact hno.out j s (by rw [← HN.out]; exact (List.getElem?_eq_some_iff.1 hj).1) hj⟩), hbel⟩
end Go.Proofs.YtkngkajojcmmlaaGreatDoor

/- The order of data: mathematics. -/
namespace Go.Proofs.YtkngkajojcmmlaaGreatDoor

/-- What three comparisons have to do with each other: x of a and b, z of b and c, w of a and c. -/
def Tri (x z w : Int) : Prop := (x ≤ 0 → z ≤ 0 → w ≤ 0) ∧ (x ≤ 0 → z ≤ 0 → x + z < 0 → w < 0) ∧ (0 ≤ x → 0 ≤ z → 0 ≤ w) ∧ (0 ≤ x → 0 ≤ z → 0 < x + z → 0 < w)
theorem tri_0 : Tri 0 0 0 := by unfold Tri; omega
theorem tri_lex {x z w x' z' w' : Int} (h : Tri x z w) (h' : Tri x' z' w') : Tri (if x ≠ 0 then x else x') (if z ≠ 0 then z else z') (if w ≠ 0 then w else w') := by
  unfold Tri at *
  split <;> split <;> split <;> omega
theorem sgn_tri (a b c : Int) : Tri (sgn a b) (sgn b c) (sgn a c) := by
  unfold Tri sgn
  repeat' split
  all_goals omega
theorem sgn_flip (a b : Int) : sgn b a = - sgn a b := by
  unfold sgn
  repeat' split
  all_goals omega
theorem sgn_bd (a b : Int) : -1 ≤ sgn a b ∧ sgn a b ≤ 1 := by
  unfold sgn
  repeat' split
  all_goals omega
theorem sgn_0 {a b : Int} : sgn a b = 0 ↔ a = b := by
  unfold sgn
  repeat' split
  all_goals omega

/-- Lists, compared element by element. -/
def cmpL (c : Nat → Nat → Int) : List Nat → List Nat → Int
  | [], [] => 0
  | [], _ :: _ => -1
  | _ :: _, [] => 1
  | x :: l, y :: m => if c x y ≠ 0 then c x y else cmpL c l m
theorem cmpL_tri {c1 c2 c3 : Nat → Nat → Int} (h : ∀ i j k, Tri (c1 i j) (c2 j k) (c3 i k)) : ∀ l m n : List Nat, Tri (cmpL c1 l m) (cmpL c2 m n) (cmpL c3 l n) := by
  intro l
  induction l with
  | nil =>
    intro m n
    cases m <;> cases n <;> unfold Tri <;> simp only [cmpL] <;> (try split) <;> omega
  | cons x l ih =>
    intro m n
    cases m with
    | nil => cases n <;> unfold Tri <;> simp only [cmpL] <;> (try split) <;> omega
    | cons y m =>
      cases n with
      | nil => unfold Tri; simp only [cmpL]; split <;> omega
      | cons z n => simp only [cmpL]; exact tri_lex (h x y z) (ih m n)
theorem cmpL_flip {c1 c2 : Nat → Nat → Int} (h : ∀ i j, c2 j i = - c1 i j) : ∀ l m : List Nat, cmpL c2 m l = - cmpL c1 l m := by
  intro l
  induction l with
  | nil => intro m; cases m <;> simp [cmpL]
  | cons x l ih =>
    intro m
    cases m with
    | nil => simp [cmpL]
    | cons y m =>
      simp only [cmpL]
      rw [h x y, ih m]
      split <;> split <;> omega
theorem cmpL_bd {c : Nat → Nat → Int} (h : ∀ i j, -1 ≤ c i j ∧ c i j ≤ 1) : ∀ l m : List Nat, -1 ≤ cmpL c l m ∧ cmpL c l m ≤ 1 := by
  intro l
  induction l with
  | nil => intro m; cases m <;> simp [cmpL]
  | cons x l ih =>
    intro m
    cases m with
    | nil => simp [cmpL]
    | cons y m =>
      simp only [cmpL]
      split
      · exact h x y
      · exact ih m
theorem cmpL_refl {c : Nat → Nat → Int} (h : ∀ i, c i i = 0) : ∀ l : List Nat, cmpL c l l = 0 := by
  intro l
  induction l with
  | nil => rfl
  | cons x l ih => simp only [cmpL]; rw [h x, if_neg (by simp), ih]
theorem cmpL_0 {c : Nat → Nat → Int} : ∀ {l m : List Nat}, cmpL c l m = 0 → l.length = m.length ∧ ∀ (k x y : Nat), l[k]? = some x → m[k]? = some y → c x y = 0 := by
  intro l
  induction l with
  | nil =>
    intro m h
    cases m with
    | nil => exact ⟨rfl, fun k x y h => by simp at h⟩
    | cons y m => cases h
  | cons x l ih =>
    intro m h
    cases m with
    | nil => cases h
    | cons y m =>
      simp only [cmpL] at h
      split at h
      · rename_i hc; exact absurd h hc
      · rename_i hc
        obtain ⟨h1, h2⟩ := ih h
        refine ⟨by simp [h1], fun k x' y' hx hy => ?_⟩
        cases k with
        | zero => simp at hx hy; subst hx; subst hy; exact Decidable.not_not.1 hc
        | succ k => exact h2 k x' y' (by simpa using hx) (by simpa using hy)
/-- How far lists are alike. -/
theorem cmpL_at {c : Nat → Nat → Int} {l m : List Nat} {x y : Nat} {k : Nat} (hx : l[k]? = some x) (hy : m[k]? = some y) : cmpL c (l.drop k) (m.drop k) = if c x y ≠ 0 then c x y else cmpL c (l.drop (k + 1)) (m.drop (k + 1)) := by
  obtain ⟨h1, rfl⟩ := List.getElem?_eq_some_iff.1 hx
  obtain ⟨h2, rfl⟩ := List.getElem?_eq_some_iff.1 hy
  rw [List.drop_eq_getElem_cons h1, List.drop_eq_getElem_cons h2, cmpL]
theorem cmpL_end {c : Nat → Nat → Int} {l m : List Nat} {k : Nat} (h : l.length ≤ k ∨ m.length ≤ k) (h1 : k ≤ l.length) (h2 : k ≤ m.length) : cmpL c (l.drop k) (m.drop k) = sgn l.length m.length := by
  have e : ∀ r : List Nat, k < r.length → ∃ y s, r.drop k = y :: s := fun r hr => ⟨_, _, List.drop_eq_getElem_cons hr⟩
  by_cases ha : k < l.length
  · obtain ⟨y, s, hy⟩ := e l ha
    rw [hy, List.drop_of_length_le (by omega)]
    simp only [cmpL, sgn]
    rw [if_neg (by omega), if_pos (by omega)]
  · rw [List.drop_of_length_le (l := l) (by omega)]
    by_cases hb : k < m.length
    · obtain ⟨y, s, hy⟩ := e m hb
      rw [hy]
      simp only [cmpL, sgn]
      rw [if_pos (by omega)]
    · rw [List.drop_of_length_le (by omega)]
      simp only [cmpL, sgn]
      rw [if_neg (by omega), if_neg (by omega)]

/-- Strings, compared byte by byte. -/
def strS : List UInt8 → List UInt8 → Int
  | [], [] => 0
  | [], _ :: _ => -1
  | _ :: _, [] => 1
  | x :: l, y :: m => if sgn (x.toNat : Int) (y.toNat : Int) ≠ 0 then sgn (x.toNat : Int) (y.toNat : Int) else strS l m
theorem strS_tri : ∀ l m n : List UInt8, Tri (strS l m) (strS m n) (strS l n) := by
  intro l
  induction l with
  | nil =>
    intro m n
    cases m <;> cases n <;> unfold Tri <;> simp only [strS] <;> (try split) <;> omega
  | cons x l ih =>
    intro m n
    cases m with
    | nil => cases n <;> unfold Tri <;> simp only [strS] <;> (try split) <;> omega
    | cons y m =>
      cases n with
      | nil => unfold Tri; simp only [strS]; split <;> omega
      | cons z n => simp only [strS]; exact tri_lex (sgn_tri _ _ _) (ih m n)
theorem strS_flip : ∀ l m : List UInt8, strS m l = - strS l m := by
  intro l
  induction l with
  | nil => intro m; cases m <;> simp [strS]
  | cons x l ih =>
    intro m
    cases m with
    | nil => simp [strS]
    | cons y m =>
      simp only [strS]
      rw [sgn_flip, ih m]
      split <;> split <;> omega
theorem strS_bd : ∀ l m : List UInt8, -1 ≤ strS l m ∧ strS l m ≤ 1 := by
  intro l
  induction l with
  | nil => intro m; cases m <;> simp [strS]
  | cons x l ih =>
    intro m
    cases m with
    | nil => simp [strS]
    | cons y m =>
      simp only [strS]
      split
      · exact sgn_bd _ _
      · exact ih m
theorem strS_refl : ∀ l : List UInt8, strS l l = 0 := by
  intro l
  induction l with
  | nil => rfl
  | cons x l ih => simp only [strS]; rw [sgn_0.2 rfl, if_neg (by simp), ih]
theorem strS_0 : ∀ {l m : List UInt8}, strS l m = 0 → l = m := by
  intro l
  induction l with
  | nil => intro m h; cases m with | nil => rfl | cons y m => cases h
  | cons x l ih =>
    intro m h
    cases m with
    | nil => cases h
    | cons y m =>
      simp only [strS] at h
      split at h
      · rename_i hc; exact absurd h hc
      · rename_i hc
        have h1 := sgn_0.1 (Decidable.not_not.1 hc)
        rw [ih h, UInt8.toNat_inj.1 (Int.ofNat_inj.1 h1)]
theorem strS_cons (x y : UInt8) (l m : List UInt8) : strS (x :: l) (y :: m) = if sgn (x.toNat : Int) (y.toNat : Int) ≠ 0 then sgn (x.toNat : Int) (y.toNat : Int) else strS l m := rfl
theorem strS_less : ∀ l m : List UInt8, Op.bytesLess l m = decide (strS l m < 0) := by
  intro l
  induction l with
  | nil => intro m; cases m <;> simp [strS, Op.bytesLess]
  | cons x l ih =>
    intro m
    cases m with
    | nil => simp [strS, Op.bytesLess]
    | cons y m =>
      by_cases h1 : x < y
      · have h2 : x.toNat < y.toNat := UInt8.lt_iff_toNat_lt.1 h1
        have h3 : sgn (x.toNat : Int) (y.toNat : Int) = -1 := by unfold sgn; rw [if_pos (by omega)]
        have e : strS (x :: l) (y :: m) = -1 := by rw [strS_cons, h3]; rfl
        rw [e, Op.bytesLess]; simp [h1]
      · have h2 : ¬ x.toNat < y.toNat := fun h => h1 (UInt8.lt_iff_toNat_lt.2 h)
        by_cases h4 : x = y
        · subst h4
          have e : strS (x :: l) (x :: m) = strS l m := by rw [strS_cons, sgn_0.2 rfl]; rfl
          rw [e, Op.bytesLess, ih m]; simp [h1]
        · have h5 : y.toNat < x.toNat := by
            have : x.toNat ≠ y.toNat := fun e => h4 (UInt8.toNat_inj.1 e)
            omega
          have h3 : sgn (x.toNat : Int) (y.toNat : Int) = 1 := by unfold sgn; rw [if_neg (by omega), if_pos (by omega)]
          have e : strS (x :: l) (y :: m) = 1 := by rw [strS_cons, h3]; rfl
          rw [e, Op.bytesLess]; simp [h1, h4]

/-- Nodes, but for their children. -/
def ndS (x y : Nd) : Int := orS [sgn x.1 y.1, sgn x.2.2.1 y.2.2.1, strS x.2.2.2 y.2.2.2]
theorem ndS_eq (x y : Nd) : ndS x y = if sgn x.1 y.1 ≠ 0 then sgn x.1 y.1 else if sgn x.2.2.1 y.2.2.1 ≠ 0 then sgn x.2.2.1 y.2.2.1 else if strS x.2.2.2 y.2.2.2 ≠ 0 then strS x.2.2.2 y.2.2.2 else 0 := rfl
theorem ndS_tri (x y z : Nd) : Tri (ndS x y) (ndS y z) (ndS x z) := by
  rw [ndS_eq, ndS_eq, ndS_eq]
  exact tri_lex (sgn_tri _ _ _) (tri_lex (sgn_tri _ _ _) (tri_lex (strS_tri _ _ _) tri_0))
theorem ndS_flip (x y : Nd) : ndS y x = - ndS x y := by
  rw [ndS_eq, ndS_eq, sgn_flip x.1, sgn_flip x.2.2.1, strS_flip x.2.2.2]
  repeat' split
  all_goals omega
theorem ndS_bd (x y : Nd) : -1 ≤ ndS x y ∧ ndS x y ≤ 1 := by
  have h1 := sgn_bd x.1 y.1
  have h2 := sgn_bd x.2.2.1 y.2.2.1
  have h3 := strS_bd x.2.2.2 y.2.2.2
  rw [ndS_eq]
  repeat' split
  all_goals omega
theorem ndS_refl (x : Nd) : ndS x x = 0 := by rw [ndS_eq, sgn_0.2 rfl, sgn_0.2 rfl, strS_refl]; rfl
theorem ndS_0 {x y : Nd} (h : ndS x y = 0) : x.1 = y.1 ∧ x.2.2.1 = y.2.2.1 ∧ x.2.2.2 = y.2.2.2 := by
  rw [ndS_eq] at h
  split at h
  · rename_i h1; exact absurd h h1
  · rename_i h1
    split at h
    · rename_i h2; exact absurd h h2
    · rename_i h2
      split at h
      · rename_i h3; exact absurd h h3
      · rename_i h3
        exact ⟨sgn_0.1 (Decidable.not_not.1 h1), sgn_0.1 (Decidable.not_not.1 h2), strS_0 (Decidable.not_not.1 h3)⟩

def ndAt (t : List Nd) (i : Nat) : Nd := t.getD i (0, 0, 0, [])
theorem ndAt_of {t : List Nd} {i : Nat} {x : Nd} (h : t[i]? = some x) : ndAt t i = x := by unfold ndAt; rw [List.getD_eq_getElem?_getD, h]; rfl
/-- The subtrees of i in a and of j in b, compared. -/
def ordF (a b : List Nd) : Nat → Nat → Nat → Int
  | 0, _, _ => 0
  | f + 1, i, j => if ndS (ndAt a i) (ndAt b j) ≠ 0 then ndS (ndAt a i) (ndAt b j) else cmpL (ordF a b f) (kidsN (kidsL a) i) (kidsN (kidsL b) j)
theorem ordF_tri (a b c : List Nd) : ∀ f i j k, Tri (ordF a b f i j) (ordF b c f j k) (ordF a c f i k) := by
  intro f
  induction f with
  | zero => intro i j k; exact tri_0
  | succ f ih => intro i j k; exact tri_lex (ndS_tri _ _ _) (cmpL_tri ih _ _ _)
theorem ordF_flip (a b : List Nd) : ∀ f i j, ordF b a f j i = - ordF a b f i j := by
  intro f
  induction f with
  | zero => intro i j; rfl
  | succ f ih =>
    intro i j
    simp only [ordF]
    rw [ndS_flip, cmpL_flip ih]
    split <;> split <;> omega
theorem ordF_bd (a b : List Nd) : ∀ f i j, -1 ≤ ordF a b f i j ∧ ordF a b f i j ≤ 1 := by
  intro f
  induction f with
  | zero => intro i j; simp [ordF]
  | succ f ih =>
    intro i j
    simp only [ordF]
    split
    · exact ndS_bd _ _
    · exact cmpL_bd ih _ _
theorem ordF_refl (a : List Nd) : ∀ f i, ordF a a f i i = 0 := by
  intro f
  induction f with
  | zero => intro i; rfl
  | succ f ih => intro i; simp only [ordF]; rw [ndS_refl, if_neg (by simp), cmpL_refl ih]
/-- A subtree is its node, and those of its children. -/
theorem subS_cons {t : List Nd} (hT : Tr (kidsL t)) {i : Nat} {x : Nd} (hx : t[i]? = some x) : subS t i = x :: ((kidsN (kidsL t) i).map (subS t)).flatten := by
  obtain ⟨hi, hxe⟩ := List.getElem?_eq_some_iff.1 hx
  have hil : i < (kidsL t).length := by rw [kidsL_len]; exact hi
  obtain ⟨e1, e2⟩ := hT.end_bd hil
  have h1 : (kidsN (kidsL t) i).map (subS t) = partsN t i (cnt (kidsL t) i) := by unfold kidsN partsN; rw [List.map_map]; rfl
  rw [h1, partsN_flat hT hi _ (Nat.le_refl _), hT.pos_end hil]
  unfold subS
  have hgi : (t.take (endN (kidsL t) i))[i]? = some x := by rw [List.getElem?_take, if_pos e1, hx]
  obtain ⟨hil2, hxe2⟩ := List.getElem?_eq_some_iff.1 hgi
  rw [List.drop_eq_getElem_cons hil2, hxe2]
/-- What is alike has the same nodes. -/
theorem ordF_0 {a b : List Nd} (ha : Tr (kidsL a)) (hb : Tr (kidsL b)) (ka : ∀ x ∈ a, 0 ≤ x.2.1) (kb : ∀ x ∈ b, 0 ≤ x.2.1) : ∀ f i j, a.length - i < f → i < a.length → j < b.length → ordF a b f i j = 0 → subS a i = subS b j := by
  intro f
  induction f with
  | zero => intro i j h; omega
  | succ f ih =>
    intro i j hf hi hj h
    obtain ⟨x, hx⟩ : ∃ x, a[i]? = some x := ⟨_, List.getElem?_eq_getElem hi⟩
    obtain ⟨y, hy⟩ : ∃ y, b[j]? = some y := ⟨_, List.getElem?_eq_getElem hj⟩
    have hil : i < (kidsL a).length := by rw [kidsL_len]; exact hi
    have hjl : j < (kidsL b).length := by rw [kidsL_len]; exact hj
    simp only [ordF] at h
    rw [ndAt_of hx, ndAt_of hy] at h
    split at h
    · rename_i h1; exact absurd h h1
    · rename_i h1
      obtain ⟨n1, n2, n3⟩ := ndS_0 (Decidable.not_not.1 h1)
      obtain ⟨l1, l2⟩ := cmpL_0 h
      rw [kidsN_len, kidsN_len] at l1
      have hcx : cnt (kidsL a) i = x.2.1.toNat := cnt_of (by unfold kidsL; rw [List.getElem?_map, hx]; rfl)
      have hcy : cnt (kidsL b) j = y.2.1.toNat := cnt_of (by unfold kidsL; rw [List.getElem?_map, hy]; rfl)
      have gx := ka x (List.mem_of_getElem? hx)
      have gy := kb y (List.mem_of_getElem? hy)
      have hxy : x = y := by
        obtain ⟨x0, x1, x2, x3⟩ := x
        obtain ⟨y0, y1, y2, y3⟩ := y
        simp only at n1 n2 n3 gx gy hcx hcy
        rw [n1, n2, n3, show x1 = y1 by omega]
      rw [subS_cons ha hx, subS_cons hb hy, hxy]
      congr 2
      apply List.ext_getElem?
      intro k
      by_cases hk : k < cnt (kidsL a) i
      · obtain ⟨p1, p2, p3⟩ := ha.pos_step hil hk
        obtain ⟨q1, q2, q3⟩ := hb.pos_step hjl (k := k) (by omega)
        rw [kidsL_len] at p2 q2
        have e1 := kidsN_at hk
        have e2 := kidsN_at (ks := kidsL b) (i := j) (k := k) (by omega)
        rw [List.getElem?_map, List.getElem?_map, e1, e2, Option.map_some, Option.map_some, ih _ _ (by omega) p2 q2 (l2 k _ _ e1 e2)]
      · rw [List.getElem?_eq_none (by rw [List.length_map, kidsN_len]; omega), List.getElem?_eq_none (by rw [List.length_map, kidsN_len]; omega)]
/-- Two data, compared. -/
def ordT (a b : List Nd) : Int := ordF a b 401 0 0
theorem subS_0 {t : List Nd} (hT : Tr (kidsL t)) : subS t 0 = t := by unfold subS; rw [hT.end_0, kidsL_len, List.take_length, List.drop_zero]
theorem ordT_0 {sy : List UInt8 → Bool} {a b : List Nd} (ha : (chkT sy a).2 = 0) (hb : (chkT sy b).2 = 0) : ordT a b = 0 ↔ a = b := by
  obtain ⟨a1, a2, a3, _⟩ := chkT_ok ha
  obtain ⟨b1, b2, b3, _⟩ := chkT_ok hb
  constructor
  · intro h
    have := ordF_0 a1 b1 (chkT_kids ha) (chkT_kids hb) 401 0 0 (by omega) (List.length_pos_iff.2 a2) (List.length_pos_iff.2 b2) h
    rwa [subS_0 a1, subS_0 b1] at this
  · rintro rfl; exact ordF_refl a 401 0
end Go.Proofs.YtkngkajojcmmlaaGreatDoor

/- cmp.Compare of strings. -/
namespace Go.Proofs.YtkngkajojcmmlaaGreatDoor
open Go.RowKit Go.PlainAid

set_option maxRecDepth 50000 in
theorem nan_str (x : ByteArray) (w : World) : Calls Tryz.prog 76 #[.string x] w fun e w' => e = .returned (.bool false) ∧ w = w' := by
  have h : (x.toList == x.toList) = true := by simp
  go_enter Tryz.func76, Tryz.ntmps76
  go_wp2_with fail
  go_ret
  exact ⟨rfl, rfl⟩
theorem str_bless (x y : List UInt8) : Op.bytesLess (str x).toList (str y).toList = decide (strS x y < 0) := by
  rw [ByteArray.toList_eq, ByteArray.toList_eq, str_list, str_list, strS_less]
theorem str_same (x y : List UInt8) : ((str x).toList == (str y).toList) = decide (strS x y = 0) := by
  rw [ByteArray.toList_eq, ByteArray.toList_eq, str_list, str_list, Bool.eq_iff_iff, beq_iff_eq, decide_eq_true_eq]
  exact ⟨fun e => by rw [e]; exact strS_refl y, strS_0⟩
set_option maxRecDepth 50000 in
theorem cmp_str (x y : List UInt8) (w : World) : Calls Tryz.prog 51 #[.string (str x), .string (str y)] w fun e w' => e = .returned (.int .i64 (strS x y)) ∧ w = w' := by
  have C := Lib.hid (nan_str)
  have t1 := str_bless x y
  have t2 := str_same x y
  obtain ⟨X, hX⟩ : ∃ X, str x = X := ⟨_, rfl⟩
  obtain ⟨Y, hY⟩ : ∃ Y, str y = Y := ⟨_, rfl⟩
  obtain ⟨q, hq⟩ : ∃ q, strS x y = q := ⟨_, rfl⟩
  have hb := strS_bd x y
  rw [hX, hY] at t1 t2 ⊢
  rw [hq] at t1 t2 hb ⊢
  clear hX hY hq
  rcases (show q = -1 ∨ q = 0 ∨ q = 1 by omega) with rfl | rfl | rfl <;> simp only [show ((-1 : Int) < 0) = True by simp, show ((-1 : Int) = 0) = False by simp, show ((1 : Int) < 0) = False by simp, show ((1 : Int) = 0) = False by simp, show ((0 : Int) < 0) = False by simp, decide_true, decide_false] at t1 t2 <;> (
    go_enter Tryz.func51, Tryz.ntmps51
    go_wp2_with (go_at_call 76; refine (C.out _ _).mono ?_; rintro e w' ⟨rfl, rfl⟩)
    go_ret
    exact ⟨rfl, rfl⟩)
end Go.Proofs.YtkngkajojcmmlaaGreatDoor

/- The reference's sign; its end, on what is behind a node. -/
namespace Go.Proofs.YtkngkajojcmmlaaGreatDoor
open Go.RowKit Go.PlainAid

set_option maxRecDepth 50000 in
theorem sign_any (b : Bool) (w : World) : Calls Tryz.prog 56 #[.bool b] w fun e w' => e = .returned (.int .i64 (if b then -1 else 1)) ∧ w = w' := by
  cases b <;> (
    go_enter Tryz.func56, Tryz.ntmps56
    go_wp2_with fail
    go_ret
    exact ⟨rfl, rfl⟩)

set_option maxRecDepth 50000 in
set_option maxHeartbeats 1600000 in
/-- The reference's end, on what is behind node p. -/
theorem rend_sh (g o n p m cp : Nat) (ks : List Nat) (w : World) (hn : ks.length = n) (hT : Tr ks) (hl : n ≤ 400) (hm : p + m = n) (HK : Hid (∀ i, i < m → w.cell? ⟨g, o + i * 4 + 1, none⟩ = some (.int .i64 (cnt ks (p + i) : Int)))) :
    ∀ (f i q : Nat), m - i ≤ f → i < m → endN ks (p + i) = p + q → Calls Tryz.prog 57 #[.slice (some ⟨g, o, none⟩) m cp, .int .i64 (i : Int)] w fun e w' => e = .returned (.int .i64 (q : Int)) ∧ w = w' := by
  intro f
  induction f with
  | zero => intro i q hf hi; omega
  | succ f ih =>
    intro i q hf hi hqe
    have hil : p + i < ks.length := by omega
    have hcl := cnt_le hT hil
    obtain ⟨c, hc⟩ : ∃ c, cnt ks (p + i) = c := ⟨_, rfl⟩
    have d0 := HK.out i hi
    rw [hc] at d0 hcl
    have IH : Hid (∀ k r, k < c → posK ks (p + i) k = p + r → r < m ∧ ∃ r', posK ks (p + i) (k + 1) = p + r' ∧ Calls Tryz.prog 57 #[.slice (some ⟨g, o, none⟩) m cp, .int .i64 (r : Int)] w fun e w' => e = .returned (.int .i64 (r' : Int)) ∧ w = w') := Lib.hid fun k r hk hr => by
      obtain ⟨p1, p2, p3⟩ := hT.pos_step hil (k := k) (by omega)
      have p4 := hT.pos_next hil (k := k) (by omega)
      refine ⟨by omega, posK ks (p + i) (k + 1) - p, by omega, ih r _ (by omega) (by omega) ?_⟩
      rw [← hr, p3]; omega
    have HE : Hid (posK ks (p + i) c = p + q) := Lib.hid (by rw [← hc, ← hqe]; exact hT.pos_end hil)
    have H0 : Hid (posK ks (p + i) 0 = p + (i + 1)) := Lib.hid (by rw [posK_start hil]; omega)
    have hi0 : (0 : Int) ≤ (i : Int) := Int.natCast_nonneg _
    have hi1 : (i : Int) < (m : Int) := by omega
    have hc4 : c ≤ 400 := by omega
    have hm4 : m ≤ 400 := by omega
    clear ih HK hT hn hil hc hcl hm hqe hl
    go_enter Tryz.func57, Tryz.ntmps57
    go_wp2_with fail
    -- MARK1
    go_loop [5, 6] (fun x5 x6 => ∃ k r : Nat, x6 = .int .i64 (k : Int) ∧ k ≤ c ∧ x5 = .int .i64 (r : Int) ∧ Hid (posK ks (p + i) k = p + r)) (fun _ x6 => c - (intOf x6).toNat)
    case atStart => exact ⟨0, i + 1, rfl, Nat.zero_le _, by go_num, H0⟩
    case round =>
      obtain ⟨k, r, rfl, hk, rfl, HP⟩ := hrel
      by_cases hlt : k < c
      · obtain ⟨q1, r', q2, q3⟩ := IH.out k r hlt HP.out
        have HC := Lib.hid q3
        have hd : decide ((k : Int) < (c : Int)) = true := decide_eq_true (by omega)
        have HP2 := Lib.hid q2
        clear q1 q2 q3
        go_wp2_with (go_at_call 57; refine HC.out.mono ?_; rintro e w' ⟨rfl, rfl⟩)
        -- MARK2
        all_goals go_round
        case rel => exact ⟨k + 1, r', by go_num, by omega, rfl, HP2⟩
        case measure => simp [intOf]; omega
      · obtain rfl : k = c := by omega
        have hd : decide ((k : Int) < (k : Int)) = false := decide_eq_false (by omega)
        have HF : Hid ((r : Int) = (q : Int)) := Lib.hid (by have h1 := HP.out; have h2 := HE.out; omega)
        go_wp2_with fail
        go_ret
        exact ⟨by rw [← HF.out]; rfl, rfl⟩
end Go.Proofs.YtkngkajojcmmlaaGreatDoor

/- slices.CompareFunc with compareAt's closure. -/
namespace Go.Proofs.YtkngkajojcmmlaaGreatDoor
open Go.RowKit Go.PlainAid

def natI (l : List Nat) : List Int := l.map fun q : Nat => (q : Int)
theorem natI_at {l : List Nat} {k x : Nat} (h : l[k]? = some x) : (natI l)[k]? = some (x : Int) := by unfold natI; rw [List.getElem?_map, h]; rfl
set_option maxRecDepth 50000 in
set_option maxHeartbeats 3200000 in
theorem cmpFunc_any (BA BB : Nat) (va vb : Value) (la lb : List Nat) (c : Nat → Nat → Int) (w : World) (ha : IntRow w va (natI la)) (hb : IntRow w vb (natI lb)) (hl : la.length ≤ 1000)
    (HC : Hid (∀ (k x y : Nat), la[k]? = some x → lb[k]? = some y → ∀ W, Below w.heap.size w W → Calls Tryz.prog 53 #[.int .i64 (x : Int), .int .i64 (y : Int), .pointer (some ⟨BA, 0, none⟩), .pointer (some ⟨BB, 0, none⟩)] W fun e w' => e = .returned (.int .i64 (c x y)) ∧ Below W.heap.size W w')) :
    Calls Tryz.prog 52 #[va, vb, .func (.func 53) #[] #[.pointer (some ⟨BA, 0, none⟩), .pointer (some ⟨BB, 0, none⟩)]] w fun e w' => e = .returned (.int .i64 (cmpL c la lb)) ∧ Below w.heap.size w w' := by
  obtain ⟨a1, c1, rfl, hA⟩ := ha
  obtain ⟨a2, c2, rfl, hB⟩ := hb
  have HA : Hid (∀ W, Below w.heap.size w W → ∀ (k x : Nat), la[k]? = some x → ∃ g o, a1 = some ⟨g, o, none⟩ ∧ W.cell? ⟨g, o + k, none⟩ = some (.int .i64 (x : Int))) := Lib.hid fun W hW k x hx => by
    rcases hA with h | ⟨g, off, rfl, hg, hc⟩
    · have := natI_at hx; rw [h] at this; cases this
    · exact ⟨g, off, rfl, (hW.cell (p := ⟨g, off + k, none⟩) hg).trans (hc k _ (natI_at hx))⟩
  have HB : Hid (∀ W, Below w.heap.size w W → ∀ (k x : Nat), lb[k]? = some x → ∃ g o, a2 = some ⟨g, o, none⟩ ∧ W.cell? ⟨g, o + k, none⟩ = some (.int .i64 (x : Int))) := Lib.hid fun W hW k x hx => by
    rcases hB with h | ⟨g, off, rfl, hg, hc⟩
    · have := natI_at hx; rw [h] at this; cases this
    · exact ⟨g, off, rfl, (hW.cell (p := ⟨g, off + k, none⟩) hg).trans (hc k _ (natI_at hx))⟩
  have e1 : (natI la).length = la.length := List.length_map _
  have e2 : (natI lb).length = lb.length := List.length_map _
  rw [e1, e2]
  obtain ⟨n, hn⟩ : ∃ n, la.length = n := ⟨_, rfl⟩
  obtain ⟨m, hm⟩ : ∃ m, lb.length = m := ⟨_, rfl⟩
  have HN := Lib.hid hn
  have HM := Lib.hid hm
  rw [hn, hm]
  rw [hn] at hl
  obtain ⟨R, hR⟩ : ∃ R, cmpL c la lb = R := ⟨_, rfl⟩
  have HR := Lib.hid hR
  rw [hR]
  have HEnd : Hid (∀ k, (n ≤ k ∨ m ≤ k) → k ≤ n → k ≤ m → cmpL c (la.drop k) (lb.drop k) = sgn (n : Int) (m : Int)) := Lib.hid fun k h1 h2 h3 => by
    rw [cmpL_end (by rw [HN.out, HM.out]; exact h1) (by rw [HN.out]; exact h2) (by rw [HM.out]; exact h3), HN.out, HM.out]
  clear hA hB e1 e2 hn hm hR
  go_enter Tryz.func52, Tryz.ntmps52
  go_wp2_with fail
  -- MARK1
  go_loopw [13] (fun x wr => ∃ k : Nat, x = .int .i64 (k : Int) ∧ k ≤ n ∧ k ≤ m ∧ Hid (cmpL c (la.drop k) (lb.drop k) = R) ∧ Below w.heap.size w wr) (fun x _ => n - (intOf x).toNat)
  case atStart => exact ⟨0, rfl, Nat.zero_le _, Nat.zero_le _, Lib.hid (by rw [List.drop_zero, List.drop_zero]; exact HR.out), Below.refl _ _⟩
  case round =>
    obtain ⟨k, rfl, hkn, hkm, HE, hbr⟩ := hrel
    have hk0 : (0 : Int) ≤ (k : Int) := Int.natCast_nonneg _
    by_cases hlt : k < n
    · obtain ⟨x, hx⟩ : ∃ x, la[k]? = some x := ⟨_, List.getElem?_eq_getElem (by rw [HN.out]; exact hlt)⟩
      obtain ⟨g, o, rfl, d0⟩ := HA.out wr hbr k x hx
      have hk1 : (k : Int) < (n : Int) := by omega
      by_cases hmt : k < m
      · obtain ⟨y, hy⟩ : ∃ y, lb[k]? = some y := ⟨_, List.getElem?_eq_getElem (by rw [HM.out]; exact hmt)⟩
        obtain ⟨g2, o2, rfl, d1⟩ := HB.out wr hbr k y hy
        have hk2 : (k : Int) < (m : Int) := by omega
        have hk3 : ¬ (m : Int) ≤ (k : Int) := by omega
        have hd : decide ((m : Int) ≤ (k : Int)) = false := decide_eq_false hk3
        have CC := Lib.hid (HC.out k x y hx hy wr hbr)
        have hst := cmpL_at (c := c) hx hy
        rw [HE.out] at hst
        obtain ⟨q, hq⟩ : ∃ q, c x y = q := ⟨_, rfl⟩
        rw [hq] at hst CC
        have HSt := Lib.hid hst
        clear hx hy hst hq
        by_cases hq0 : q = 0
        · subst hq0
          have HE2 : Hid (cmpL c (la.drop (k + 1)) (lb.drop (k + 1)) = R) := Lib.hid (by rw [HSt.out, if_neg (by simp)])
          go_wp2_with (go_at_call 53; refine CC.out.mono ?_; rintro e w1 ⟨rfl, hb1⟩)
          -- MARK2
          go_roundw
          case rel => exact ⟨k + 1, by go_num, by omega, by omega, HE2, hbr.trans (hb1.mono hbr.size)⟩
          case measure => simp [intOf]; omega
        · have hne : (q != 0) = true := bne_iff_ne.2 hq0
          have HF : Hid (R = q) := Lib.hid (by rw [HSt.out, if_pos hq0])
          clear hq0
          go_wp2_with (go_at_call 53; refine CC.out.mono ?_; rintro e w1 ⟨rfl, hb1⟩)
          go_ret
          exact ⟨by rw [HF.out]; rfl, hbr.trans (hb1.mono hbr.size)⟩
      · obtain rfl : k = m := by omega
        have hd : decide ((k : Int) ≤ (k : Int)) = true := decide_eq_true (Int.le_refl _)
        have HF : Hid (R = 1) := Lib.hid (by rw [← HE.out, HEnd.out k (.inr (Nat.le_refl _)) hkn (Nat.le_refl _)]; unfold sgn; rw [if_neg (by omega), if_pos (by omega)])
        clear hx
        go_wp2_with fail
        go_ret
        exact ⟨by rw [HF.out]; rfl, hbr⟩
    · obtain rfl : k = n := by omega
      have hd0 : decide ((k : Int) < (k : Int)) = false := decide_eq_false (Int.lt_irrefl _)
      have hend := HEnd.out k (.inl (Nat.le_refl _)) (Nat.le_refl _) hkm
      rw [HE.out] at hend
      by_cases hmt : k < m
      · have HF : Hid (R = -1) := Lib.hid (by rw [hend]; unfold sgn; rw [if_pos (by omega)])
        have hd : decide ((k : Int) < (m : Int)) = true := decide_eq_true (by omega)
        clear hend
        go_wp2_with fail
        go_ret
        exact ⟨by rw [HF.out]; rfl, hbr⟩
      · have HF : Hid (R = 0) := Lib.hid (by rw [hend]; unfold sgn; rw [if_neg (by omega), if_neg (by omega)])
        have hd : decide ((k : Int) < (m : Int)) = false := decide_eq_false (by omega)
        clear hend
        go_wp2_with fail
        go_ret
        exact ⟨by rw [HF.out]; rfl, hbr⟩
end Go.Proofs.YtkngkajojcmmlaaGreatDoor

/- compareAt: what it is made of. -/
namespace Go.Proofs.YtkngkajojcmmlaaGreatDoor
open Go.RowKit Go.Shelf Go.PlainAid

theorem or_3 (a b c : Int) (W : World) : Calls Tryz.prog 48 #[.slice (some ⟨W.heap.size, 0, none⟩) 3 3] (W.alloc (.cells #[.int .i64 a, .int .i64 b, .int .i64 c] 3)).drew fun e w' => e = .returned (.int .i64 (orS [a, b, c])) ∧ (W.alloc (.cells #[.int .i64 a, .int .i64 b, .int .i64 c] 3)).drew = w' := by
  refine or_any _ [a, b, c] _ ⟨_, 3, rfl, .inr ⟨W.heap.size, 0, rfl, by show W.heap.size < (W.alloc _).heap.size; simp, fun j n hj => ?_⟩⟩ (by simp)
  have h2 : ([a, b, c].map (Value.int .i64))[j]? = some (.int .i64 n) := by rw [List.getElem?_map, hj]; rfl
  have := new_cells W ([a, b, c].map (Value.int .i64)) 3 j _ h2
  rw [Go.WideShapes.add_plain] at this
  exact this
/-- A tree in memory: its nodes and the ends of its subtrees. -/
structure TreeAt (w : World) (g o n ge : Nat) (t : List Nd) : Prop where
  len : t.length = n
  tr : Tr (kidsL t)
  le : n ≤ 400
  lt : g < w.heap.size
  nds : ∀ j u, (dcs t)[j]? = some u → w.cell? ⟨g, o + j, none⟩ = some u
  lte : ge < w.heap.size
  ends : ∀ (j q : Nat), (endsL (kidsL t))[j]? = some q → w.cell? ⟨ge, j, none⟩ = some (.int .i64 (q : Int))
theorem TreeAt.below {w w' : World} {g o n ge : Nat} {t : List Nd} (h : TreeAt w g o n ge t) (hb : Below w.heap.size w w') : TreeAt w' g o n ge t :=
  ⟨h.len, h.tr, h.le, Nat.lt_of_lt_of_le h.lt hb.size, fun j u hj => (hb.cell (p := ⟨g, o + j, none⟩) h.lt).trans (h.nds j u hj), Nat.lt_of_lt_of_le h.lte hb.size, fun j q hj => (hb.cell (p := ⟨ge, j, none⟩) h.lte).trans (h.ends j q hj)⟩
theorem kids_rowA {w : World} {B k : Nat} {v : Value} {l : List Nat} (h : w.ownsRow B 3 1 v k (natV l)) (hl : l.length = k) : ∃ a c, v = .slice a k c ∧ IntRow w (.slice a k c) (l.map fun q : Nat => (q : Int)) := by
  obtain ⟨a6, c6, rfl, h6⟩ := collect_form h hl
  refine ⟨a6, c6, rfl, a6, c6, by rw [List.length_map, hl], h6.imp (fun e => by rw [e]; rfl) ?_⟩
  rintro ⟨g, rfl, _, hg, hc⟩
  refine ⟨g, 0, rfl, hg, fun j n hj => ?_⟩
  rw [List.getElem?_map] at hj
  cases hq : l[j]? with
  | none => rw [hq] at hj; cases hj
  | some q =>
    rw [hq] at hj
    rw [Nat.zero_add, hc j q hq]
    cases hj; rfl
/-- slices.Collect of the children of a node, wherever their iterator was made. -/
theorem coll_at (a : Option Addr) (c o g ge n p Bd Bi : Nat) (t : List Nd) (W : World) (h : TreeAt W g o n ge t) (hp : p < n)
    (h1 : W.heap[Bd]? = some (.cells #[.slice a n c, .slice (some ⟨ge, 0, none⟩) n n] 52 (0, 0))) (h2 : W.heap[Bi]? = some (.cells #[.int .i64 (p : Int)] 3 (0, 0))) :
    Calls Tryz.prog 39 #[.func (.func 67) #[] #[.pointer (some ⟨Bi, 0, none⟩), .pointer (some ⟨Bd, 0, none⟩)]] W
      fun e w' => ∃ g c, e = .returned (.slice g (kidsN (kidsL t) p).length c) ∧ Below W.heap.size W w' ∧ Hid (∀ W4, Below w'.heap.size w' W4 → IntRow W4 (.slice g (kidsN (kidsL t) p).length c) (natI (kidsN (kidsL t) p))) := by
  have hkl : (kidsL t).length = n := by rw [kidsL_len, h.len]
  have l1 := (Array.getElem?_eq_some_iff.1 h1).1
  have l2 := (Array.getElem?_eq_some_iff.1 h2).1
  have l3 := h.lte
  refine (collect_any 67 _ (fun k => k = Bd ∨ k = Bi ∨ k = ge) (kidsN (kidsL t) p) W (fun k hk => by omega) (by have := kidsN_le h.tr (i := p) (by omega); have := h.le; omega) (enters_of Tryz.func67 (by kernel_rfl) rfl) fun W3 hb3 => ?_).mono ?_
  · exact kids_seq Bd Bi ge n p _ t _ 3 (by omega) W3 ⟨.inl rfl, .inr (.inl rfl), .inr (.inr rfl)⟩ (fun k hk => by have := hb3.size; omega)
      ((hb3.block _ l1).trans h1) ((hb3.block _ l2).trans h2) h.len h.tr hp h.le
      (fun j q hj => (hb3.cell (p := ⟨ge, j, none⟩) l3).trans (h.ends j q hj))
  · rintro e w' ⟨v, rfl, ho, hb4⟩
    obtain ⟨a6, c6, rfl, h6⟩ := kids_rowA ho rfl
    exact ⟨a6, c6, rfl, hb4, Lib.hid fun W4 hb => h6.below hb⟩
/-- The iterator is made, and what Collect will say of it. -/
theorem kids_at (a : Option Addr) (c o g ge n p : Nat) (t : List Nd) (W : World) (h : TreeAt W g o n ge t) (hp : p < n) :
    Calls Tryz.prog 40 #[.agg #[.slice a n c, .slice (some ⟨ge, 0, none⟩) n n], .int .i64 (p : Int)] W
      fun e w' => ∃ B1 B2, e = .returned (.func (.func 67) #[] #[.pointer (some ⟨B1, 0, none⟩), .pointer (some ⟨B2, 0, none⟩)]) ∧ Below W.heap.size W w' ∧ Hid (∀ W2, Below w'.heap.size w' W2 →
        Calls Tryz.prog 39 #[.func (.func 67) #[] #[.pointer (some ⟨B1, 0, none⟩), .pointer (some ⟨B2, 0, none⟩)]] W2
          fun e w' => ∃ g c, e = .returned (.slice g (kidsN (kidsL t) p).length c) ∧ Below W2.heap.size W2 w' ∧ Hid (∀ W4, Below w'.heap.size w' W4 → IntRow W4 (.slice g (kidsN (kidsL t) p).length c) (natI (kidsN (kidsL t) p)))) := by
  refine (kids_mk _ _ _ _ _ _ _ _).mono ?_
  rintro e w' ⟨rfl, rfl⟩
  have hb : Below W.heap.size W ((W.alloc (.cells #[.slice a n c, .slice (some ⟨ge, 0, none⟩) n n] 52)).alloc (.cells #[.int .i64 (p : Int)] 3)) := ((Below.refl _ W).alloc (Nat.le_refl _) _).alloc (by simp only [World.size_alloc]; omega) _
  obtain ⟨W5, hW5⟩ : ∃ W5, W5 = (W.alloc (.cells #[.slice a n c, .slice (some ⟨ge, 0, none⟩) n n] 52)).alloc (.cells #[.int .i64 (p : Int)] 3) := ⟨_, rfl⟩
  have hsz : W5.heap.size = W.heap.size + 2 := by rw [hW5]; simp
  have h1 : W5.heap[W.heap.size]? = some (.cells #[.slice a n c, .slice (some ⟨ge, 0, none⟩) n n] 52 (0, 0)) := by
    rw [hW5]; exact (Below.heap_alloc _ _ _ (by simp only [World.size_alloc]; omega)).trans (World.alloc_heap_new _ _)
  have h2 : W5.heap[W.heap.size + 1]? = some (.cells #[.int .i64 (p : Int)] 3 (0, 0)) := by
    rw [hW5]; have := World.alloc_heap_new (W.alloc (.cells #[.slice a n c, .slice (some ⟨ge, 0, none⟩) n n] 52)) (.cells #[.int .i64 (p : Int)] 3); rwa [World.size_alloc] at this
  rw [← hW5] at hb ⊢
  refine ⟨_, _, rfl, hb, Lib.hid fun W2 hb2 => ?_⟩
  exact coll_at a c o g ge n p _ _ t W2 ((h.below hb).below hb2) hp ((hb2.block _ (by omega)).trans h1) ((hb2.block _ (by omega)).trans h2)
set_option maxRecDepth 50000 in
/-- The closure calls compareAt of what it has captured. -/
theorem clos_any (BA BB : Nat) (va ea vb eb : Value) (x y q : Int) (W : World) (h1 : W.heap[BA]? = some (.cells #[va, ea] 52 (0, 0))) (h2 : W.heap[BB]? = some (.cells #[vb, eb] 52 (0, 0)))
    (C : Hid (Calls Tryz.prog 24 #[.agg #[va, ea], .agg #[vb, eb], .int .i64 x, .int .i64 y] W fun e w' => e = .returned (.int .i64 q) ∧ Below W.heap.size W w')) :
    Calls Tryz.prog 53 #[.int .i64 x, .int .i64 y, .pointer (some ⟨BA, 0, none⟩), .pointer (some ⟨BB, 0, none⟩)] W fun e w' => e = .returned (.int .i64 q) ∧ Below W.heap.size W w' := by
  obtain ⟨d0, d1, _, _⟩ := box_facts h1
  obtain ⟨d2, d3, _, _⟩ := box_facts h2
  clear h1 h2
  go_enter Tryz.func53, Tryz.ntmps53
  go_wp2_with (go_at_call 24; refine C.out.mono ?_; rintro e w' ⟨rfl, hb⟩)
  go_ret
  exact ⟨rfl, hb⟩
end Go.Proofs.YtkngkajojcmmlaaGreatDoor
