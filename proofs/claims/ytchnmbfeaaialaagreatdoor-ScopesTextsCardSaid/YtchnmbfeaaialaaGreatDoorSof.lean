/- scopes.Of. -/
import Derived.Test.YtchnmbfeaaialaaGreatDoorSi
import Derived.Test.YtchnmbfeaaialaaGreatDoorShelfS
import Derived.Sort.OwnSortedInts
import Derived.Sort.OwnSorted
import Derived.Lib.RowBridge
namespace Go.Proofs.YtchnmbfeaaialaaGreatDoor
open Go.RowKit Go.PlainAid Go.Sort

theorem own_cut {w : World} {B n m : Nat} {e : TypeId} {a : Option Addr} {c : Nat} {xs : List Value} (h : w.ownsRow B e 1 (.slice a n c) n xs) (hm : m ≤ n) : w.ownsRow B e 1 (.slice a m c) m (xs.take m) := by
  obtain ⟨h1, h2⟩ := h
  refine ⟨by rw [List.length_take]; omega, ?_⟩
  rcases h2 with ⟨hv, hn⟩ | ⟨g, cap, cur, hv, hb, hg, hc, hx, hs, ht⟩
  · obtain ⟨rfl, rfl, rfl⟩ := Value.slice.inj hv
    obtain rfl : m = 0 := by omega
    exact .inl ⟨rfl, rfl⟩
  · obtain ⟨rfl, _, rfl⟩ := Value.slice.inj hv
    refine .inr ⟨g, c, cur, rfl, hb, hg, by omega, hx, hs, ?_⟩
    rw [← ht, List.take_take, Nat.mul_one, Nat.mul_one, Nat.min_eq_left hm]
theorem own_form {w : World} {B n z : Nat} {e : TypeId} {v : Value} {xs : List Value} (h : w.ownsRow B e z v n xs) : (v = .slice none 0 0 ∧ n = 0) ∨ ∃ g c, v = .slice (some ⟨g, 0, none⟩) n c ∧ B ≤ g ∧ g < w.heap.size := by
  rcases h.2 with h | ⟨g, cap, cur, hv, hb, hg, _⟩
  · exact .inl h
  · exact .inr ⟨g, cap, hv, hb, (Array.getElem?_eq_some_iff.1 hg).1⟩
theorem own_cap {w : World} {B n z : Nat} {e : TypeId} {a : Option Addr} {c : Nat} {xs : List Value} (h : w.ownsRow B e z (.slice a n c) n xs) : n ≤ c ∧ c ≤ maxLen := by
  rcases h.2 with ⟨hv, hn⟩ | ⟨g, cap, cur, hv, hb, hg, h1, h2, _⟩
  · obtain ⟨_, rfl, rfl⟩ := Value.slice.inj hv; exact ⟨Nat.le_refl _, Nat.zero_le _⟩
  · obtain ⟨_, _, rfl⟩ := Value.slice.inj hv; exact ⟨h1, h2⟩

def intC (l : List Int) : List Value := l.map (Value.int .i64)
/-- The slice value v holds the numbers l. -/
def NumAt (w : World) (v : Value) (l : List Int) : Prop :=
  ∃ a n c, v = .slice a n c ∧ n = l.length ∧ n ≤ c ∧ (l = [] ∨ ∃ g off, a = some ⟨g, off, none⟩ ∧ g < w.heap.size ∧ ∀ (j : Nat) (x : Int), l[j]? = some x → w.cell? ⟨g, off + j, none⟩ = some (.int .i64 x))
theorem NumAt.below {B : Nat} {w w' : World} {v : Value} {l : List Int} (h : NumAt w v l) (hb : Below B w w') (hB : w.heap.size ≤ B) : NumAt w' v l := by
  obtain ⟨a, n, c, e, hn, hc, h⟩ := h
  refine ⟨a, n, c, e, hn, hc, h.imp id ?_⟩
  rintro ⟨g, off, rfl, hg, hcell⟩
  exact ⟨g, off, rfl, Nat.lt_of_lt_of_le hg hb.size, fun j u hj => (hb.cell (p := ⟨g, off + j, none⟩) (by show g < B; omega)).trans (hcell j u hj)⟩
theorem num_own {w : World} {B n : Nat} {v : Value} {l : List Int} (h : w.ownsRow B 3 1 v n (intC l)) (hn : l.length = n) : NumAt w v l := by
  rcases own_form h with ⟨rfl, h0⟩ | ⟨g, c, rfl, h1, h2⟩
  · exact ⟨none, 0, 0, rfl, by omega, Nat.le_refl _, .inl (List.length_eq_zero_iff.1 (by omega))⟩
  · have hc := (own_cap h).1
    refine ⟨_, n, c, rfl, hn.symm, hc, .inr ⟨g, 0, rfl, h2, fun j x hj => ?_⟩⟩
    have := h.cells (g := g) rfl j (.int .i64 x) (by unfold intC; rw [List.getElem?_map, hj]; rfl)
    rw [Go.WideShapes.add_plain] at this; exact this
theorem num_nat {w : World} {v : Value} {l : List Nat} (h : NumAt w v (l.map fun n : Nat => (n : Int))) : NatAt w v l := by
  obtain ⟨a, n, c, e, hn, hc, h⟩ := h
  refine ⟨a, n, c, e, by rw [hn, List.length_map], hc, ?_⟩
  rcases h with h | ⟨g, off, e2, hg, hcell⟩
  · exact .inl (by simpa using h)
  · exact .inr ⟨g, off, e2, hg, fun j x hj => hcell j x (by rw [List.getElem?_map, hj]; rfl)⟩
/-- The same of a slice whose capacity is not known. -/
def NumL (w : World) (v : Value) (l : List Int) : Prop :=
  ∃ a n c, v = .slice a n c ∧ n = l.length ∧ (l = [] ∨ ∃ g off, a = some ⟨g, off, none⟩ ∧ g < w.heap.size ∧ ∀ (j : Nat) (x : Int), l[j]? = some x → w.cell? ⟨g, off + j, none⟩ = some (.int .i64 x))
theorem NumAt.loose {w : World} {v : Value} {l : List Int} (h : NumAt w v l) : NumL w v l := by
  obtain ⟨a, n, c, e, hn, _, h⟩ := h
  exact ⟨a, n, c, e, hn, h⟩
theorem NumL.below {B : Nat} {w w' : World} {v : Value} {l : List Int} (h : NumL w v l) (hb : Below B w w') (hB : w.heap.size ≤ B) : NumL w' v l := by
  obtain ⟨a, n, c, e, hn, h⟩ := h
  refine ⟨a, n, c, e, hn, h.imp id ?_⟩
  rintro ⟨g, off, rfl, hg, hcell⟩
  exact ⟨g, off, rfl, Nat.lt_of_lt_of_le hg hb.size, fun j u hj => (hb.cell (p := ⟨g, off + j, none⟩) (by show g < B; omega)).trans (hcell j u hj)⟩
theorem num_ints {w : World} {v : Value} {l : List Int} (h : IntsAt w v l) : NumL w v l := by
  rcases h with ⟨rfl, rfl⟩ | ⟨g, off, cap, e, hg, hc⟩
  · exact ⟨none, 0, 0, rfl, rfl, .inl rfl⟩
  · exact ⟨_, _, _, e, rfl, .inr ⟨g, off, rfl, hg, hc⟩⟩
theorem clone_own (v : Value) (l : List Int) (w : World) (h : NumL w v l) (hl : l.length ≤ 1000000) :
    Calls Tryz.prog 22 #[v] w fun e w' => ∃ v', e = .returned v' ∧ w'.ownsRow w.heap.size 3 1 v' l.length (intC l) ∧ Below w.heap.size w w' := by
  obtain ⟨a, n, c, rfl, hn, h⟩ := h
  rcases h with rfl | ⟨g, off, rfl, hg, hcell⟩
  · obtain rfl : n = 0 := hn
    cases a with
    | none =>
      refine (Tryz.slices_Clone_int_nil 0 c w).mono ?_
      rintro e w' ⟨rfl, rfl⟩
      exact ⟨_, rfl, ⟨rfl, .inl ⟨rfl, rfl⟩⟩, Below.refl _ _⟩
    | some ad =>
      refine (Tryz.slices_Clone_int_zero ad c w).mono ?_
      rintro e w' ⟨v', rfl, h1, _, h3⟩
      exact ⟨v', rfl, h1, h3⟩
  · subst hn
    refine (Tryz.slices_Clone_int g off l.length c l w (Nat.le_refl _) (by omega) (fun j hj => ?_)).mono ?_
    · exact hcell j _ (by rw [List.getElem?_eq_getElem hj, List.getD_eq_getElem?_getD, List.getElem?_eq_getElem hj]; rfl)
    · rintro e w' ⟨v', rfl, h1, _, h3⟩
      rw [List.take_length] at h1
      exact ⟨v', rfl, h1, h3⟩
theorem leI_eq : (fun x y : Int => decide (x ≤ y)) = leI := rfl
theorem sort_own (B : Nat) (v : Value) (l : List Int) (w : World) (h : w.ownsRow B 3 1 v l.length (intC l)) (hl : l.length ≤ 1000000) (hB : B ≤ w.heap.size) :
    Calls Tryz.prog 23 #[v] w fun e w' => e = .returned (.tuple #[]) ∧ w'.ownsRow B 3 1 v l.length (intC (l.mergeSort leI)) ∧ Below B w w' := by
  rcases h.2 with ⟨rfl, h0⟩ | ⟨g, cap, cur, rfl, hg, hb, h1, h2, h3, h4⟩
  · obtain rfl : l = [] := List.length_eq_zero_iff.1 h0
    refine (Tryz.slices_Sort_int_none none 0 w).mono ?_
    rintro e w' ⟨rfl, rfl⟩
    exact ⟨rfl, by simpa using h, Below.refl _ _⟩
  · refine (Tryz.slices_Sort_int g 0 cap l w (holds_of_blockI hb (by rw [Nat.mul_one] at h4; exact h4)) (Array.getElem?_eq_some_iff.1 hb).1 (by omega)).mono ?_
    rintro e w' ⟨rfl, n, os, rfl⟩
    rw [leI_eq]
    exact ⟨rfl, ownsRow_sortedI (ts := l.mergeSort leI) (List.length_mergeSort l) hg hb h1 h2 h3, (Below.refl B w).grown (grownBy_sortedI _) hB (fun j hj => by cases hj; exact hg)⟩
theorem compact_own (B : Nat) (v : Value) (l : List Int) (w : World) (h : w.ownsRow B 3 1 v l.length (intC l)) (hl : l.length ≤ 1000000) (hB : B ≤ w.heap.size) :
    Calls Tryz.prog 24 #[v] w fun e w' => ∃ a c, e = .returned (.slice a (Lib.compact l).length c) ∧ w'.ownsRow B 3 1 (.slice a (Lib.compact l).length c) (Lib.compact l).length (intC (Lib.compact l)) ∧ Below B w w' := by
  rcases h.2 with ⟨rfl, h0⟩ | ⟨g, cap, cur, rfl, hg, hb, h1, h2, h3, h4⟩
  · obtain rfl : l = [] := List.length_eq_zero_iff.1 h0
    refine (Tryz.slices_Compact_int_empty none 0 w).mono ?_
    rintro e w' ⟨rfl, rfl⟩
    exact ⟨none, 0, rfl, h, Below.refl _ _⟩
  · have hle : (Lib.compact l).length ≤ l.length := Lib.compact_length_le l
    refine (Tryz.slices_Compact_int g 0 cap l w (holds_of_blockI hb (by rw [Nat.mul_one] at h4; exact h4)) (by omega) h1).mono ?_
    rintro e w' ⟨rfl, q, rfl⟩
    obtain ⟨ts, hts⟩ : ∃ ts, Lib.compact l ++ List.replicate (l.length - (Lib.compact l).length) 0 = ts := ⟨_, rfl⟩
    have hlen : ts.length = l.length := by rw [← hts, List.length_append, List.length_replicate]; omega
    rw [hts]
    have ho := ownsRow_sortedI (w := w) (n := q) (os := #[]) (ts := ts) hlen hg hb h1 h2 h3
    have hgr := grownBy_sortedI (w := w) (g := g) (n := q) (os := #[]) ts.toArray
    rw [grow_empty] at ho hgr
    refine ⟨_, _, rfl, ?_, (Below.refl B w).grown hgr hB (fun j hj => by cases hj; exact hg)⟩
    have hcc := own_cut ho hle
    have e : (ts.map (Value.int .i64)).take (Lib.compact l).length = intC (Lib.compact l) := by
      rw [← hts, ← List.map_take, List.take_left']
      · rfl
      · rfl
    rw [e] at hcc
    exact hcc
set_option maxRecDepth 100000 in
set_option maxHeartbeats 3200000 in
theorem of_any (v : Value) (l : List Int) (w : World) (h : NumL w v l) (hl : l.length ≤ 100000) :
    Calls Tryz.prog 9 #[v] w fun e w' => e = .returned (.tuple #[.string (str (ofS l).1), .int .i64 (ofS l).2]) ∧ Below w.heap.size w w' := by
  have CC := Lib.hid (fun W (hW : Below w.heap.size w W) => clone_own v l W (h.below hW (Nat.le_refl _)) (by omega))
  have CI := Lib.hid (fun x W => isScope_any x W)
  have CT := Lib.hid (fun x W => tooMany_any x W)
  obtain ⟨a, n, c, rfl, hn, hm⟩ := h
  have HM := Lib.hid hm
  have HN := Lib.hid hn
  have hnb : n ≤ 100000 := by omega
  clear hm hn hl
  go_enter Tryz.func9, Tryz.ntmps9
  go_wp2
  go_loopw [9] (fun x9 wr => ∃ (k : Nat), x9 = .int .i64 (k : Int) ∧ k ≤ n ∧ Hid (∀ x ∈ l.take k, 0 ≤ x ∧ x ≤ 65535) ∧ Below w.heap.size w wr) (fun x9 _ => n - (intOf x9).toNat)
  case atStart => exact ⟨0, rfl, Nat.zero_le _, Lib.hid (fun x hx => by simp at hx), Below.refl _ _⟩
  case round =>
    obtain ⟨k, rfl, hk, HG, hbel⟩ := hrel
    have HB := Lib.hid hbel
    by_cases hlt : k < n
    · obtain ⟨x, hxk⟩ : ∃ x, l[k]? = some x := ⟨_, List.getElem?_eq_getElem (by rw [← HN.out]; exact hlt)⟩
      rcases HM.out with hl0 | ⟨g, off, rfl, hg, hcell⟩
      · rw [hl0] at hxk; cases hxk
      have c0 := (hbel.cell (p := ⟨g, off + k, none⟩) hg).trans (hcell k x hxk)
      have hk0 : (0 : Int) ≤ (k : Int) := Int.natCast_nonneg _
      have hk1 : (k : Int) < (n : Int) := by omega
      have CI1 := Lib.hid (CI.out x wr)
      by_cases hin : 0 ≤ x ∧ x ≤ 65535
      · rw [decide_eq_true hin] at CI1
        have HG2 : Hid (∀ x ∈ l.take (k + 1), 0 ≤ x ∧ x ≤ 65535) := Lib.hid (by
          have e : l.take (k + 1) = l.take k ++ [x] := by rw [List.take_add_one, hxk]; rfl
          intro y hy
          rw [e] at hy
          rcases List.mem_append.1 hy with hy | hy
          · exact HG.out y hy
          · obtain rfl : y = x := by simpa using hy
            exact hin)
        clear hxk hcell hin hbel
        go_wp2_with fail
        refine CI1.out.mono ?_
        rintro e w1 ⟨rfl, rfl⟩
        go_wp2_with fail
        exact ⟨⟨k + 1, by go_num, by omega, HG2, HB.out⟩, by simp [intOf]; omega⟩
      · rw [decide_eq_false hin] at CI1
        have HV : Hid (ofS l = ([], 7)) := Lib.hid (by unfold ofS; rw [if_pos (bad_yes' (List.mem_of_getElem? hxk) (by omega))])
        clear hxk hcell hin hbel
        go_wp2_with fail
        refine CI1.out.mono ?_
        rintro e w1 ⟨rfl, rfl⟩
        go_wp2_with fail
        go_ret2
        exact ⟨by rw [HV.out]; rfl, HB.out⟩
    · obtain rfl : k = n := by omega
      have hd0 : decide ((k : Int) < (k : Int)) = false := decide_eq_false (Int.lt_irrefl _)
      have hb : badOf l = false := bad_not' (by have := HG.out; rw [List.take_of_length_le (by rw [HN.out]; exact Nat.le_refl _)] at this; exact this)
      have HCo := Lib.hid (compact_of hb)
      obtain ⟨d, hd⟩ : ∃ d, ofL l = d := ⟨_, rfl⟩
      have HD : Hid (asc d ∧ ∀ x ∈ d, x < 65536) := Lib.hid (by rw [← hd]; exact ⟨asc_of l, of_lt l⟩)
      have HV : Hid (ofS l = if 10000 < d.length then ([], 3) else (setL d, 0)) := Lib.hid (by unfold ofS; rw [hb, hd]; rfl)
      rw [hd] at HCo
      obtain ⟨m, hm⟩ : ∃ m, d.length = m := ⟨_, rfl⟩
      have HDl : Hid (d.length = m) := Lib.hid hm
      have hmn : m ≤ 100000 := by
        have h1 := Lib.compact_length_le (l.mergeSort leI)
        rw [HCo.out, List.length_map, List.length_mergeSort, ← HN.out, hm] at h1; omega
      rw [hm] at HV
      clear hb hd hm
      go_wp2_with fail
      refine (CC.out wr HB.out).mono ?_
      rintro e w1 ⟨v1, rfl, ho1, hb1⟩
      have hbA := below_step HB.out hb1
      obtain ⟨a1, c1, rfl⟩ := own_len ho1
      have HS1 := Lib.hid (sort_own wr.heap.size _ l w1 ho1 (by rw [← HN.out]; omega) hb1.size)
      clear ho1
      go_wp2_with fail
      refine HS1.out.mono ?_
      rintro e w2 ⟨rfl, ho2, hb2⟩
      have hbB := hbA.trans (hb2.mono HB.out.size)
      have HC2 := Lib.hid (compact_own wr.heap.size _ (l.mergeSort leI) w2 (by rw [List.length_mergeSort]; exact ho2) (by rw [List.length_mergeSort, ← HN.out]; omega) (Nat.le_trans hb1.size hb2.size))
      rw [HCo.out, List.length_map, HDl.out] at HC2
      clear ho2
      go_wp2_with fail
      refine HC2.out.mono ?_
      rintro e w3 ⟨a3, c3, rfl, ho3, hb3⟩
      have hbC := hbB.trans (hb3.mono HB.out.size)
      have HNa := Lib.hid (num_nat (num_own ho3 (by rw [List.length_map, HDl.out])))
      have HCT := Lib.hid (CT.out (m : Int) w3)
      have HSo := Lib.hid (fun W (hW : Below w3.heap.size w3 W) => setOf_any (.slice a3 m c3) d W (HNa.out.below hW (Nat.le_refl _)) HD.out.2 (by rw [HDl.out]; exact hmn))
      have HBC := Lib.hid hbC
      clear ho3 hb3 hbC hbB hbA hb2 hb1
      by_cases hm : 10000 < m
      · have hd : decide ((10000 : Int) < (m : Int)) = true := decide_eq_true (by omega)
        rw [hd] at HCT
        have HW : Hid (ofS l = ([], 3)) := Lib.hid (by rw [HV.out, if_pos hm])
        clear hm hd
        go_wp2_with fail
        refine HCT.out.mono ?_
        rintro e w4 ⟨rfl, rfl⟩
        go_wp2_with fail
        go_ret2
        exact ⟨by rw [HW.out]; rfl, HBC.out⟩
      · have hd : decide ((10000 : Int) < (m : Int)) = false := decide_eq_false (by omega)
        rw [hd] at HCT
        have HW : Hid (ofS l = (setL d, 0)) := Lib.hid (by rw [HV.out, if_neg hm])
        clear hm hd
        go_wp2_with fail
        refine HCT.out.mono ?_
        rintro e w4 ⟨rfl, rfl⟩
        go_wp2_with fail
        refine (HSo.out _ (Below.refl _ _)).mono ?_
        rintro e w5 ⟨rfl, hb5⟩
        go_wp2_with fail
        go_ret2
        exact ⟨by rw [HW.out]; rfl, below_step HBC.out hb5⟩
-- MARK8
end Go.Proofs.YtchnmbfeaaialaaGreatDoor
