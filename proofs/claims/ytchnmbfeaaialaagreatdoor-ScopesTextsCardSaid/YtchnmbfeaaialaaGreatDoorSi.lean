/- scopes.Ids. -/
import Derived.Test.YtchnmbfeaaialaaGreatDoorSv
import Derived.Maps.AppendAt
namespace Go.Proofs.YtchnmbfeaaialaaGreatDoor
open Go.RowKit Go.Shelf Go.PlainAid

attribute [local go_sem] Oper.semAt_some

def natC (l : List Nat) : List Value := l.map fun x : Nat => Value.int .i64 (x : Int)
def idsS (L : List UInt8) : List Nat × Int := if chkE L ≠ 0 then ([], chkE L) else (idsL L, 0)
/-- What Ids returns: a row of its own, and the error. -/
def IdsV (L : List UInt8) (w : World) (e : Ending) (w' : World) : Prop :=
  ∃ v, e = .returned (.tuple #[v, .int .i64 (idsS L).2]) ∧ w'.ownsRow w.heap.size 3 1 v (idsS L).1.length (natC (idsS L).1) ∧ Below w.heap.size w w'
set_option maxRecDepth 50000 in
theorem ids_no (L : List UInt8) (w : World) (hL : L.length ≤ 1000000) (hc : chkE L ≠ 0) : Calls Tryz.prog 14 #[.string (str L)] w (IdsV L w) := by
  have C := Lib.hid (check_any L w hL)
  have HV : Hid (idsS L = ([], chkE L)) := Lib.hid (by unfold idsS; rw [if_pos hc])
  obtain ⟨e0, he0⟩ : ∃ e, chkE L = e := ⟨_, rfl⟩
  rw [he0] at hc C HV
  have hne : (e0 != 0) = true := bne_iff_ne.2 hc
  obtain ⟨S, hS⟩ : ∃ S, str L = S := ⟨_, rfl⟩
  rw [hS] at C ⊢
  clear hS hc he0
  go_enter Tryz.func14, Tryz.ntmps14
  go_wp2_with fail
  refine C.out.mono ?_
  rintro e w1 ⟨rfl, hb1⟩
  go_wp2_with fail
  go_ret2
  exact ⟨.slice none 0 0, by rw [HV.out]; rfl, by rw [HV.out]; exact ⟨rfl, .inl ⟨rfl, rfl⟩⟩, hb1⟩
def IdI (A : Nat) (w : World) (pre : List Nat) (W : World) : Prop :=
  ∃ v, W.heap[A]? = some (.cells #[v] 28 (0, 0)) ∧ W.ownsRow (A + 4) 3 1 v pre.length (natC pre) ∧ Below A w W
theorem idI_bears (A : Nat) (w : World) : Bears (A + 2) (A + 2 + 2 + 0) (IdI A w) := by
  intro pre W W' row h hg hr
  obtain ⟨v, h1, h3, h2⟩ := h
  refine ⟨v, (hg.block A (Array.getElem?_eq_some_iff.1 h1).1 fun e => by have := hr _ e.symm; omega).trans h1, h3.kept hg ?_, ?_⟩
  · cases hv : v.ownBlock with
    | none => exact .inl rfl
    | some r => exact .inr fun e => by have h4 := hr _ e.symm; have h5 := (h3.lt r hv).1; omega
  · exact h2.grown hg (Nat.le_of_lt (Array.getElem?_eq_some_iff.1 h1).1) (fun k e => by have := hr _ e; omega)
def IdA (A : Nat) (w : World) (pre : List Nat) (x : Nat) (a : Act) (W : World) : Prop :=
  IdI A w pre W ∧ ∃ u0 u1 u2 u3 u4 u7 u8 u9 u10 u11 u12 u13 u14 u15 u16 u17 u18 u19 : Value, a = { tmps := #[u0, u1, u2, u3, u4, .pointer (some ⟨A, 0, none⟩), .int .i64 (x : Int), u7, u8, u9, u10, u11, u12, u13, u14, u15, u16, u17, u18, u19], defers := [] }
theorem idA_bears (A : Nat) (w : World) (pre : List Nat) (x : Nat) : Bears (A + 2) (A + 2 + 2 + 0) (IdA A w pre x) := by
  intro a W W' row h hg hr
  exact ⟨idI_bears A w pre W W' row h.1 hg hr, h.2⟩
set_option maxRecDepth 50000 in
set_option maxHeartbeats 1600000 in
theorem ids_yes (l : List Nat) (w : World) (h : SetOf l) : CallsIn Fence.wide 5 Tryz.prog 14 #[.string (str (setL l))] w (IdsV (setL l) w) := by
  have C := Lib.hid (check_any (setL l) w (by rw [setL_len]; have := h.few; omega))
  rw [h.chk] at C
  have HV : Hid (idsS (setL l) = (l, 0)) := Lib.hid (by unfold idsS; rw [if_neg (by rw [h.chk]; simp), h.ids])
  have hseqA := Lib.hid (fun (W0 : World) (A : Nat) (hsz : W0.heap.size = A + 2) (hv : W0.heap[A + 1]? = some (.cells #[.string (str (setL l))] 9 (0, 0))) =>
    each_seq (5 - 1) (A + 1) (fun k => k = A + 1) l W0 (by omega) h.lt (by have := h.few; omega) (fun k hk => by omega) rfl hv)
  have HFew := Lib.hid h.few
  obtain ⟨S, hS⟩ : ∃ S, str (setL l) = S := ⟨_, rfl⟩
  rw [hS] at C hseqA ⊢
  clear hS h
  refine callsIn_of_wp_marks Tryz.func14 rfl trivial ?_ rfl
  simp only [Tryz.ntmps14, List.size_toArray, List.length_cons, List.length_nil, Nat.reduceAdd, Nat.reduceSub, Array.replicate_succ, Array.replicate_zero, List.push_toArray, List.append_toArray, List.nil_append, List.cons_append]
  gi_wp2
  refine ⟨trivial, (callsIn_wide.2 C.out).mono ?_⟩
  rintro e w1 ⟨rfl, hb1⟩
  gi_wp2
  refine ⟨trivial, (callsIn_wide.2 (each_any _ _)).mono ?_⟩
  rintro e w2 ⟨rfl, rfl⟩
  gi_wp2
  obtain ⟨W0, hW0⟩ : ∃ W0, W0 = ((w1.alloc (.cells #[.slice none 0 0] 28)).alloc (.cells #[.string S] 9)) := ⟨_, rfl⟩
  rw [← hW0]
  obtain ⟨A, hA⟩ : ∃ A, w1.heap.size = A := ⟨_, rfl⟩
  have hsz : W0.heap.size = A + 2 := by rw [hW0, ← hA]; simp
  have hbel : Below A w1 W0 := by
    rw [hW0, ← hA]
    exact ((Below.refl _ w1).alloc (Nat.le_refl _) _).alloc (by simp only [World.size_alloc]; omega) _
  have ha0 : W0.heap[A]? = some (.cells #[.slice none 0 0] 28 (0, 0)) := by
    rw [hW0, ← hA]; exact (Below.heap_alloc _ _ _ (by simp only [World.size_alloc]; omega)).trans (World.alloc_heap_new _ _)
  have ha1 : W0.heap[A + 1]? = some (.cells #[.string S] 9 (0, 0)) := by
    rw [hW0, ← hA]
    have := World.alloc_heap_new (w1.alloc (.cells #[.slice none 0 0] 28)) (.cells #[.string S] 9); rwa [World.size_alloc] at this
  clear hW0
  have hAw : w.heap.size ≤ A := by rw [← hA]; exact hb1.size
  rw [hA]
  have hseq := hseqA.out W0 A hsz ha1
  refine wpIn_rangeB (by omega) rfl (enters_of Tryz.func54 (by kernel_rfl) rfl) hseq (Below.refl _ _) (fun k hk => by omega) (fun _ => rfl) (IdI A w1) (fun _ _ _ => False) (by rw [hsz]; exact idI_bears A w1) (fun c => by intro _ _ _ _ h; exact h.elim) ?_ (IdA A w1) (fun pre x => by rw [hsz]; exact idA_bears A w1 pre x) ?_ ?_ ?_ ?_
  · exact ⟨_, ha0, ⟨rfl, .inl ⟨rfl, rfl⟩⟩, hbel⟩
  · intro l pre x W K hI hW hK
    rw [hsz] at hW hK
    simp only [encN]
    gi_wp2
    exact hK _ _ (KeepsB.refl _ _ _ _) ⟨hI, _, _, _, _, _, _, _, _, _, _, _, _, _, _, _, _, _, _, rfl⟩
  · obtain ⟨i0, hi, hj0, hj1, hj2⟩ := info_parts2 infoInt
    intro l' pre x a' W hAx hW hlt
    rw [hsz] at hW
    obtain ⟨⟨v, r0, hown, r1⟩, u0, u1, u2, u3, u4, u7, u8, u9, u10, u11, u12, u13, u14, u15, u16, u17, u18, u19, rfl⟩ := hAx
    have hc0 : W.cell? ⟨A, 0, none⟩ = some v := by simp [World.cell?, r0]
    have hz0 : W.frozen? ⟨A, 0, none⟩ = false := by simp [World.frozen?, r0]
    have hb8 : pre.length < 1000000 := by have := HFew.out; omega
    rw [hsz]
    have hkeep : ∀ {w2 : World}, (W.alloc (.cells #[.int .i64 (x : Int)] 3)).grownBy w2 v.ownBlock → ∀ k, k < A + 4 → w2.heap[k]? = W.heap[k]? := fun hg k hk =>
      (hg.block k (by rw [World.size_alloc]; omega) (fun e => by have := (hown.lt k e.symm).1; omega)).trans (Below.heap_alloc _ _ _ (by omega))
    have hsA := World.size_alloc W (.cells #[.int .i64 (x : Int)] 3)
    gi_wp2_with (gi_at_builtin; refine wpListIn_append_own _ rfl _ _ 28 rfl (A + 4) 3 i0 (.int .i64 0) 1 8 Tryz.underlying28 hi hj0 hj1 hj2 rfl (by decide) _ _ _ rfl (hown.alloc _) ⟨W.heap.size, 0, none⟩ 1 1 [.int .i64 (x : Int)] rfl rfl (new_cells W [.int .i64 (x : Int)] _) (by simp [Value.oneCell']) (by unfold maxLen; omega) (by omega) (by rw [hsA]; omega) ?_; intro v' w2 hown' hgrow _; obtain ⟨sa, sm, sc, rfl⟩ := own_slice hown'; have hkk := hkeep hgrow; have hv2 := (hkk A (by omega)).trans r0; have hc2' : w2.cell? ⟨A, 0, none⟩ = some v := (by simp [World.cell?, hv2]); have hz2' : w2.frozen? ⟨A, 0, none⟩ = false := (by simp [World.frozen?, hv2]))
    have hne : ∀ g, (Value.slice sa sm sc).ownBlock = some g → A + 4 ≤ g := fun g hg => (hown'.lt g hg).1
    refine ⟨⟨?_, fun k hk => ?_⟩, _, set_block _ hv2, ?_, ?_⟩
    · exact Nat.le_trans (Nat.le_trans (by rw [hsA]; omega) hgrow.size) (KeepsWalks.setCell _ _ _).size
    · have hk' : k ≠ A ∧ k < A + 4 := by rcases hk with hk | hk <;> omega
      exact (set_other _ hk'.1).trans (hkk k hk'.2)
    · have hw3 : (w2.setCell ⟨A, 0, none⟩ (.slice sa sm sc)).ownsRow (A + 4) 3 1 (.slice sa sm sc) (pre.length + 1) (natC pre ++ [.int .i64 (x : Int)]) :=
        hown'.kept (grown_set _ _ _ _) (.inr fun e => by have := hne _ e; omega)
      unfold natC at hw3 ⊢
      rw [List.length_append, List.map_append]
      exact hw3
    · have hAW : A ≤ W.heap.size := by omega
      exact ((r1.alloc hAW _).grown hgrow (by rw [hsA]; omega) (fun k hk => by have := (hown.lt k hk).1; omega)).setCell (Nat.le_refl A) _
  · intro xs W hSS hI hD
    rw [hsz] at hD
    subst hSS
    obtain ⟨v, r0, hown, r1⟩ := hI
    have hc0 : W.cell? ⟨A, 0, none⟩ = some v := by simp [World.cell?, r0]
    rw [hsz]
    gi_wp2
    refine ⟨by simp, .inl ⟨_, _, rfl, run_takeDeferred hD, ?_⟩⟩
    refine ⟨.tuple #[v, .int .i64 0], by simp [results, Tryz.results14, go_sem], v, ?_, ?_, ?_⟩
    · rw [HV.out]
    · rw [HV.out]
      exact own_mono (B' := w.heap.size) (hown.kept (grownBy_putObj' _ (A + 2) (.deferred none)) (by
        cases hv : v.ownBlock with
        | none => exact .inl rfl
        | some r => exact .inr fun e => by have := (hown.lt r hv).1; cases e; omega)) (by omega)
    · exact hb1.trans ((r1.grown (grownBy_putObj' _ _ _) (Nat.le_of_lt (Array.getElem?_eq_some_iff.1 r0).1) (fun k e => by cases e; omega)).mono hAw)
  · intro c pre W _ h _; exact h.elim
theorem idsP_any (L : List UInt8) (w : World) (hL : L.length ≤ 1000000) : Calls Tryz.prog 14 #[.string (str L)] w (IdsV L w) := by
  by_cases hc : chkE L = 0
  · obtain ⟨l, rfl, h⟩ := set_of hc
    exact callsIn_wide.1 (ids_yes l w h)
  · exact ids_no L w hL hc
end Go.Proofs.YtchnmbfeaaialaaGreatDoor
