import Derived.Test.YtbmgpenllpbioaaGreatDoorZu
import Derived.Test.YtbmgpenllpbioaaGreatDoorList
import Derived.Test.YtbmgpenllpbioaaGreatDoorShelf
import Derived.Sort.OwnSortedInts
import Derived.Sort.OwnSorted
import Derived.Lib.RowBridge
/- scopes.Of. -/
namespace Go.Proofs.YtbmgpenllpbioaaGreatDoor
open Go.RowKit Go.PlainAid Go.Sort

theorem own_cut {w : World} {B n m : Nat} {e : TypeId} {a : Option Addr} {c : Nat} {xs : List Value} (h : w.ownsRow B e 1 (.slice a n c) n xs) (hm : m ≤ n) : w.ownsRow B e 1 (.slice a m c) m (xs.take m) := by
  obtain ⟨h1, h2⟩ := h
  refine ⟨by rw [List.length_take]; omega, ?_⟩
  rcases h2 with ⟨hv, hn⟩ | ⟨g, cap, cur, hv, hb, hg, hc, hx, hs, ht⟩
  · obtain ⟨rfl, rfl, rfl⟩ := Value.slice.inj hv
    obtain rfl : m = 0 := by omega
    exact .inl ⟨rfl, rfl⟩
  · obtain ⟨rfl, _, rfl⟩ := Value.slice.inj hv
    refine .inr ⟨g, c, cur, rfl, hb, hg, by omega, hx, hs, ?_⟩
    rw [← ht, List.take_take, Nat.mul_one, Nat.mul_one, Nat.min_eq_left hm]
theorem own_form {w : World} {B n z : Nat} {e : TypeId} {v : Value} {xs : List Value} (h : w.ownsRow B e z v n xs) : (v = .slice none 0 0 ∧ n = 0) ∨ ∃ g c, v = .slice (some ⟨g, 0, none⟩) n c ∧ B ≤ g ∧ g < w.heap.size := by
  rcases h.2 with h | ⟨g, cap, cur, hv, hb, hg, _⟩
  · exact .inl h
  · exact .inr ⟨g, cap, hv, hb, (Array.getElem?_eq_some_iff.1 hg).1⟩
theorem own_cap {w : World} {B n z : Nat} {e : TypeId} {a : Option Addr} {c : Nat} {xs : List Value} (h : w.ownsRow B e z (.slice a n c) n xs) : n ≤ c ∧ c ≤ maxLen := by
  rcases h.2 with ⟨hv, hn⟩ | ⟨g, cap, cur, hv, hb, hg, h1, h2, _⟩
  · obtain ⟨_, rfl, rfl⟩ := Value.slice.inj hv; exact ⟨Nat.le_refl _, Nat.zero_le _⟩
  · obtain ⟨_, _, rfl⟩ := Value.slice.inj hv; exact ⟨h1, h2⟩

def intC (l : List Int) : List Value := l.map (Value.int .i64)
/-- The slice value v holds the numbers l. -/
def NumAt (w : World) (v : Value) (l : List Int) : Prop :=
  ∃ a n c, v = .slice a n c ∧ n = l.length ∧ n ≤ c ∧ (l = [] ∨ ∃ g off, a = some ⟨g, off, none⟩ ∧ g < w.heap.size ∧ ∀ (j : Nat) (x : Int), l[j]? = some x → w.cell? ⟨g, off + j, none⟩ = some (.int .i64 x))
theorem NumAt.below {B : Nat} {w w' : World} {v : Value} {l : List Int} (h : NumAt w v l) (hb : Below B w w') (hB : w.heap.size ≤ B) : NumAt w' v l := by
  obtain ⟨a, n, c, e, hn, hc, h⟩ := h
  refine ⟨a, n, c, e, hn, hc, h.imp id ?_⟩
  rintro ⟨g, off, rfl, hg, hcell⟩
  exact ⟨g, off, rfl, Nat.lt_of_lt_of_le hg hb.size, fun j u hj => (hb.cell (p := ⟨g, off + j, none⟩) (by show g < B; omega)).trans (hcell j u hj)⟩
theorem num_own {w : World} {B n : Nat} {v : Value} {l : List Int} (h : w.ownsRow B 3 1 v n (intC l)) (hn : l.length = n) : NumAt w v l := by
  rcases own_form h with ⟨rfl, h0⟩ | ⟨g, c, rfl, h1, h2⟩
  · exact ⟨none, 0, 0, rfl, by omega, Nat.le_refl _, .inl (List.length_eq_zero_iff.1 (by omega))⟩
  · have hc := (own_cap h).1
    refine ⟨_, n, c, rfl, hn.symm, hc, .inr ⟨g, 0, rfl, h2, fun j x hj => ?_⟩⟩
    have := h.cells (g := g) rfl j (.int .i64 x) (by unfold intC; rw [List.getElem?_map, hj]; rfl)
    rw [Go.WideShapes.add_plain] at this; exact this
theorem num_nat {w : World} {v : Value} {l : List Nat} (h : NumAt w v (l.map fun n : Nat => (n : Int))) : NatAt w v l := by
  obtain ⟨a, n, c, e, hn, hc, h⟩ := h
  refine ⟨a, n, c, e, by rw [hn, List.length_map], hc, ?_⟩
  rcases h with h | ⟨g, off, e2, hg, hcell⟩
  · exact .inl (by simpa using h)
  · exact .inr ⟨g, off, e2, hg, fun j x hj => hcell j x (by rw [List.getElem?_map, hj]; rfl)⟩
/-- The same of a slice whose capacity is not known. -/
def NumL (w : World) (v : Value) (l : List Int) : Prop :=
  ∃ a n c, v = .slice a n c ∧ n = l.length ∧ (l = [] ∨ ∃ g off, a = some ⟨g, off, none⟩ ∧ g < w.heap.size ∧ ∀ (j : Nat) (x : Int), l[j]? = some x → w.cell? ⟨g, off + j, none⟩ = some (.int .i64 x))
theorem NumAt.loose {w : World} {v : Value} {l : List Int} (h : NumAt w v l) : NumL w v l := by
  obtain ⟨a, n, c, e, hn, _, h⟩ := h
  exact ⟨a, n, c, e, hn, h⟩
theorem NumL.below {B : Nat} {w w' : World} {v : Value} {l : List Int} (h : NumL w v l) (hb : Below B w w') (hB : w.heap.size ≤ B) : NumL w' v l := by
  obtain ⟨a, n, c, e, hn, h⟩ := h
  refine ⟨a, n, c, e, hn, h.imp id ?_⟩
  rintro ⟨g, off, rfl, hg, hcell⟩
  exact ⟨g, off, rfl, Nat.lt_of_lt_of_le hg hb.size, fun j u hj => (hb.cell (p := ⟨g, off + j, none⟩) (by show g < B; omega)).trans (hcell j u hj)⟩
theorem num_ints {w : World} {v : Value} {l : List Int} (h : IntsAt w v l) : NumL w v l := by
  rcases h with ⟨rfl, rfl⟩ | ⟨g, off, cap, e, hg, hc⟩
  · exact ⟨none, 0, 0, rfl, rfl, .inl rfl⟩
  · exact ⟨_, _, _, e, rfl, .inr ⟨g, off, rfl, hg, hc⟩⟩
theorem leI_eq : (fun x y : Int => decide (x ≤ y)) = leI := rfl
-- MARK8
end Go.Proofs.YtbmgpenllpbioaaGreatDoor

/- scopes.Print; the law's awake. -/
namespace Go.Proofs.YtbmgpenllpbioaaGreatDoor
open Go.RowKit Go.PlainAid

/-- The table of strconv. -/
structure STab (w : World) : Prop where
  pow : PowIs w
  lt : 1 < w.heap.size
theorem STab.below {w w' : World} (h : STab w) (hb : Below w.heap.size w w') : STab w' := ⟨pow_below h.pow hb h.lt, Nat.lt_of_lt_of_le h.lt hb.size⟩
def prS (L : List UInt8) : List UInt8 × Int := if chkE L ≠ 0 then ([], chkE L) else listS ((idsL L).map fun n : Nat => (n : Int))
theorem ints_own {w : World} {B n : Nat} {v : Value} {l : List Nat} (h : w.ownsRow B 3 1 v n (natC l)) (hn : l.length = n) : IntsAt w v (l.map fun n : Nat => (n : Int)) := by
  rcases own_form h with ⟨rfl, h0⟩ | ⟨g, c, rfl, h1, h2⟩
  · exact .inl ⟨rfl, by rw [List.length_eq_zero_iff.1 (show l.length = 0 by omega)]; rfl⟩
  · refine .inr ⟨g, 0, c, by rw [List.length_map, hn], h2, fun j x hj => ?_⟩
    have := h.cells (g := g) rfl j (.int .i64 x) (by
      unfold natC
      rw [List.getElem?_map] at hj ⊢
      cases hq : l[j]? with
      | none => rw [hq] at hj; cases hj
      | some y => rw [hq] at hj; have := Option.some.inj hj; simp only [Option.map_some]; rw [← this])
    rw [Go.WideShapes.add_plain] at this; exact this
set_option maxRecDepth 100000 in
theorem print_any (L : List UInt8) (w : World) (hL : L.length ≤ 1000000) (T : STab w) :
    Calls Tryz.prog 103 #[.string (str L)] w fun e w' => e = .returned (strE (prS L)) ∧ Below w.heap.size w w' := by
  have C := Lib.hid (idsP_any L w hL)
  unfold IdsV at C
  by_cases h0 : chkE L = 0
  · have CL : Hid (∀ v W, Below w.heap.size w W → W.ownsRow w.heap.size 3 1 v (idsL L).length (natC (idsL L)) → Calls Tryz.prog 119 #[v] W fun e w' => e = .returned (strE (prS L)) ∧ Below W.heap.size W w') := Lib.hid fun v W hW ho => by
      have hT := T.below hW
      have := list_any v _ W (ints_own ho rfl) (by rw [List.length_map, ids_len]; omega) (fun n hn => by
        obtain ⟨m, hm, rfl⟩ := List.mem_map.1 hn
        have := ids_lt L m hm
        unfold i64r; omega) hT.pow hT.lt
      unfold ListV at this
      have e : prS L = listS ((idsL L).map fun n : Nat => (n : Int)) := by unfold prS; rw [if_neg (by simpa using h0)]
      unfold strE; rw [e]; exact this
    have HI : Hid (idsS L = (idsL L, 0)) := Lib.hid (by unfold idsS; rw [if_neg (by simpa using h0)])
    rw [HI.out] at C
    obtain ⟨S, e0, hr⟩ := strE_two (prS L)
    rw [hr] at CL ⊢
    obtain ⟨U, hU⟩ : ∃ T, str L = T := ⟨_, rfl⟩
    rw [hU] at C ⊢
    clear hr hU T h0 HI
    go_enter Tryz.func103, Tryz.ntmps103
    go_wp2_with fail
    refine C.out.mono ?_
    rintro e w1 ⟨v, rfl, ho, hb1⟩
    obtain ⟨a1, n1, c1, rfl⟩ := own_slice ho
    have CL1 := Lib.hid (CL.out _ w1 hb1 ho)
    clear ho
    go_wp2_with fail
    refine CL1.out.mono ?_
    rintro e w2 ⟨rfl, hb2⟩
    go_wp2_with fail
    go_ret2
    exact ⟨rfl, below_step hb1 hb2⟩
  · have HI : Hid (idsS L = ([], chkE L)) := Lib.hid (by unfold idsS; rw [if_pos h0])
    have HV : prS L = ([], chkE L) := by unfold prS; rw [if_pos h0]
    rw [HI.out] at C
    rw [HV]
    obtain ⟨e0, he0⟩ : ∃ e, chkE L = e := ⟨_, rfl⟩
    rw [he0] at h0 C ⊢
    have hne : (e0 != 0) = true := bne_iff_ne.2 h0
    obtain ⟨U, hU⟩ : ∃ T, str L = T := ⟨_, rfl⟩
    rw [hU] at C ⊢
    clear hU T h0 HI he0 HV
    go_enter Tryz.func103, Tryz.ntmps103
    go_wp2_with fail
    refine C.out.mono ?_
    rintro e w1 ⟨v, rfl, ho, hb1⟩
    obtain ⟨a1, n1, c1, rfl⟩ := own_slice ho
    clear ho
    go_wp2_with fail
    go_ret2
    exact ⟨rfl, hb1⟩
/-- The sets that awake asks about. -/
theorem aw_set : SetOf [1, 5, 258] := ⟨by decide, by decide, by decide⟩
theorem aw_of : ofS [5, 258, 1, 5] = ([0, 1, 0, 5, 1, 2], 0) := by
  have hb : badOf [5, 258, 1, 5] = false := by decide
  have e : ofL [5, 258, 1, 5] = [1, 5, 258] := asc_ext (asc_of _) aw_set.up fun z => by
    rw [mem_of hb]; simp; omega
  unfold ofS; rw [hb, e]; rfl
theorem aw_drop : oneS true false false [0, 1, 0, 5, 1, 2] 5 = ([0, 1, 1, 2], 0) := by
  have := one_set (f := true) (b := false) (s := false) (n := 5) aw_set (by omega)
  have e : mg true false false [1, 5, 258] [5] = [1, 258] := asc_ext (asc_mg' aw_set.up (asc_one 5)) (by decide) fun z => by
    rw [mem_mg' aw_set.up (asc_one 5)]; simp; omega
  rw [e] at this; exact this
theorem aw_flip : oneS true false true [0, 1, 0, 5, 1, 2] 6 = ([0, 1, 0, 5, 0, 6, 1, 2], 0) := by
  have := one_set (f := true) (b := false) (s := true) (n := 6) aw_set (by omega)
  have e : mg true false true [1, 5, 258] [6] = [1, 5, 6, 258] := asc_ext (asc_mg' aw_set.up (asc_one 6)) (by decide) fun z => by
    rw [mem_mg' aw_set.up (asc_one 6)]; simp; omega
  rw [e] at this; exact this
theorem aw_print : prS [0, 1, 0, 5, 0, 6, 1, 2] = ([49, 44, 53, 45, 54, 44, 50, 53, 56], 0) := by kernel_rfl
theorem aw_rel : relS [0, 1] [0, 1, 0, 5, 1, 2] = (1, 0) := by decide
theorem aw_add : (oneS true true true [0, 1, 0, 5, 1, 2] 65536) = ([], 7) := by decide
-- MARK1
end Go.Proofs.YtbmgpenllpbioaaGreatDoor
