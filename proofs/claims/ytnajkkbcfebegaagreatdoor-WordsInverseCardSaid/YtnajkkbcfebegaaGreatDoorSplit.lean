/- words.Split. -/
import Derived.RangeFuncLeaves
import Derived.RangeFuncCalls
import Derived.Shelf.RegionOpen
import Derived.Test.YtnajkkbcfebegaaGreatDoorTooLong
namespace Go.Proofs.YtnajkkbcfebegaaGreatDoor
open Go.RowKit Go.Shelf Go.PlainAid

attribute [local go_sem] Oper.semAt_some

/-- The fields of what was yielded. -/
def fldOf (y : Yld) : Fld := (y.1, y.2.1)
/-- What Split returns. -/
def splitS (L : List UInt8) : List Fld × Int :=
  if 8192 < L.length then ([], 3) else if (fldsOf L).any (fun y => !y.2.2) then ([], 6)
  else if tooL ((fldsOf L).map fldOf) then ([], 3) else ((fldsOf L).map fldOf, 0)
def SplitV (s : ByteArray) (w : World) (e : Ending) (w' : World) : Prop :=
  ∃ v, e = .returned (.tuple #[v, .int .i64 (splitS s.data.toList).2]) ∧ w'.ownsRow w.heap.size 47 2 v (splitS s.data.toList).1.length (fcs (splitS s.data.toList).1) ∧ Below w.heap.size w w'

theorem flds_len : ∀ (f : Nat) (l : List UInt8) (p : Nat), (flds f l p).length ≤ f := by
  intro f
  induction f with
  | zero => intro l p; exact Nat.le_refl _
  | succ f ih =>
    intro l p
    rw [flds]
    split
    · simp
    · split
      · simp
      · simp only [List.length_cons]
        split
        · simp
        · have := ih l; exact Nat.succ_le_succ (this _)
theorem fldsOf_len (l : List UInt8) : (fldsOf l).length ≤ l.length + 2 := by
  unfold fldsOf; split
  · simp
  · exact flds_len _ _ _

theorem infoF : (Tryz.prog.info? 47).map (fun i => (i.zero, i.size, i.bytes)) = some (some (.agg #[.string ⟨#[]⟩, .bool false]), 2, 24) := by kernel_rfl
theorem info_parts2 {P : Program} {t : TypeId} {z : Value} {n b : Nat} (h : (P.info? t).map (fun i => (i.zero, i.size, i.bytes)) = some (some z, n, b)) :
    ∃ i, P.info? t = some i ∧ i.zero = some z ∧ i.size = n ∧ i.bytes = b := by
  cases hi : P.info? t with
  | none => rw [hi] at h; cases h
  | some i =>
    rw [hi] at h
    simp only [Option.map_some, Option.some.injEq, Prod.mk.injEq] at h
    exact ⟨i, rfl, h.1, h.2.1, h.2.2⟩

/-- The results' cells, and all below them, in the loop. -/
def Res (A : Nat) (w : World) (c : Value) (W : World) : Prop :=
  W.heap[A]? = some (.cells #[.slice none 0 0] 31 (0, 0)) ∧ W.heap[A + 1]? = some (.cells #[c] 24 (0, 0)) ∧ Below A w W
def SI (A : Nat) (w : World) (pre : List Yld) (W : World) : Prop :=
  (∀ y ∈ pre, y.2.2 = true) ∧ Res A w (.int .i64 0) W ∧ ∃ v, W.heap[A + 2]? = some (.cells #[v] 31 (0, 0)) ∧ W.ownsRow (A + 7) 47 2 v pre.length (fcs (pre.map fldOf))
def SIx (A : Nat) (w : World) (c : Code) (pre : List Yld) (W : World) : Prop :=
  c = .ret ∧ (∃ y ∈ pre, y.2.2 = false) ∧ Res A w (.int .i64 6) W
theorem res_bears {A D : Nat} {w : World} {c : Value} {W W' : World} {row : Option Nat} (hD : A + 3 ≤ D) (h : Res A w c W) (hg : W.grownBy W' row) (hr : ∀ r, row = some r → D ≤ r) : Res A w c W' := by
  obtain ⟨h1, h2, h3⟩ := h
  refine ⟨(hg.block A (Array.getElem?_eq_some_iff.1 h1).1 fun e => by have := hr _ e.symm; omega).trans h1, (hg.block (A + 1) (Array.getElem?_eq_some_iff.1 h2).1 fun e => by have := hr _ e.symm; omega).trans h2, ?_⟩
  exact h3.grown hg (Nat.le_of_lt (Array.getElem?_eq_some_iff.1 h1).1) (fun k e => by have := hr _ e; omega)
theorem si_bears (A : Nat) (w : World) : Bears (A + 4) (A + 4 + 2 + 1) (SI A w) := by
  intro pre W W' row h hg hr
  obtain ⟨h0, h1, v, h2, h3⟩ := h
  refine ⟨h0, res_bears (D := A + 4) (by omega) h1 hg (fun r e => (hr r e).1), v, (hg.block (A + 2) (Array.getElem?_eq_some_iff.1 h2).1 fun e => by have := hr _ e.symm; omega).trans h2, h3.kept hg ?_⟩
  cases hv : v.ownBlock with
  | none => exact .inl rfl
  | some r => exact .inr fun e => by have h4 := hr _ e.symm; have h5 := (h3.lt r hv).1; omega
theorem six_bears (A : Nat) (w : World) (c : Code) : Bears (A + 4) (A + 4 + 2 + 1) (SIx A w c) := by
  intro pre W W' row h hg hr
  exact ⟨h.1, h.2.1, res_bears (D := A + 4) (by omega) h.2.2 hg (fun r e => (hr r e).1)⟩

theorem own_mono {w : World} {B B' e z n : Nat} {v : Value} {xs : List Value} (h : w.ownsRow B e z v n xs) (hb : B' ≤ B) : w.ownsRow B' e z v n xs :=
  ⟨h.1, h.2.imp id fun ⟨g, cap, cur, h1, h2, h3⟩ => ⟨g, cap, cur, h1, Nat.le_trans hb h2, h3⟩⟩
theorem own_slice {w : World} {B e z n : Nat} {v : Value} {xs : List Value} (h : w.ownsRow B e z v n xs) : ∃ a m c, v = .slice a m c := by
  rcases h.2 with ⟨rfl, _⟩ | ⟨g, cap, cur, rfl, _⟩
  · exact ⟨_, _, _, rfl⟩
  · exact ⟨_, _, _, rfl⟩
/-- Within a round: the frame, and the field's own cells. -/
def SA (A : Nat) (s : ByteArray) (w : World) (pre : List Yld) (x : Yld) (a : Act) (W : World) : Prop :=
  SI A w pre W ∧ ∃ (Fb : Nat) (t : TypeId) (u1 u7 u8 u9 u10 u11 u12 u13 u14 u15 u16 u17 u18 u19 u20 u21 u22 : Value), A + 7 ≤ Fb ∧ W.heap[Fb]? = some (.cells #[.string (str x.1), .bool x.2.1] t (0, 0)) ∧
    a = { tmps := #[.string s, u1, .pointer (some ⟨A, 0, none⟩), .pointer (some ⟨A + 1, 0, none⟩), .pointer (some ⟨A + 1 + 1, 0, none⟩), .pointer (some ⟨Fb, 0, none⟩), .bool x.2.2, u7, u8, u9, u10, u11, u12, u13, u14, u15, u16, u17, u18, u19, u20, u21, u22], defers := [] }
theorem sa_bears (A : Nat) (s : ByteArray) (w : World) (pre : List Yld) (x : Yld) : Bears (A + 4) (A + 4 + 2 + 1) (SA A s w pre x) := by
  intro a W W' row h hg hr
  obtain ⟨h0, Fb, t, u1, u7, u8, u9, u10, u11, u12, u13, u14, u15, u16, u17, u18, u19, u20, u21, u22, h1, h2, h3⟩ := h
  exact ⟨si_bears A w pre W W' row h0 hg hr, Fb, t, u1, u7, u8, u9, u10, u11, u12, u13, u14, u15, u16, u17, u18, u19, u20, u21, u22, h1, (hg.block Fb (Array.getElem?_eq_some_iff.1 h2).1 fun e => by have := hr _ e.symm; omega).trans h2, h3⟩

set_option maxRecDepth 50000 in
set_option maxHeartbeats 1600000 in
theorem split_small (s : ByteArray) (w : World) (hs : s.size ≤ 8192) (htab : EscTab w) (hw : 0 < w.heap.size) :
    CallsIn Fence.wide 5 Tryz.prog 13 #[.string s] w (SplitV s w) := by
  refine callsIn_of_wp_marks Tryz.func13 rfl trivial ?_ rfl
  simp only [Tryz.ntmps13, List.size_toArray, List.length_cons, List.length_nil, Nat.reduceAdd, Nat.reduceSub, Array.replicate_succ, Array.replicate_zero, List.push_toArray, List.append_toArray, List.nil_append, List.cons_append]
  gi_wp2
  refine ⟨trivial, (callsIn_wide.2 (fields_any s _)).mono ?_⟩
  rintro e w1 ⟨rfl, rfl⟩
  gi_wp2
  obtain ⟨W0, hW0⟩ : ∃ W0, W0 = ((((w.alloc (.cells #[.slice none 0 0] 31)).alloc (.cells #[.int .i64 0] 24)).alloc (.cells #[.slice none 0 0] 31)).alloc (.cells #[.string s] 9)) := ⟨_, rfl⟩
  rw [← hW0]
  have hsz : W0.heap.size = w.heap.size + 4 := by rw [hW0]; simp
  have hbel : Below w.heap.size w W0 := by
    rw [hW0]
    exact ((((Below.refl _ w).alloc (Nat.le_refl _) _).alloc (by simp only [World.size_alloc]; omega) _).alloc (by simp only [World.size_alloc]; omega) _).alloc (by simp only [World.size_alloc]; omega) _
  have ha0 : W0.heap[w.heap.size]? = some (.cells #[.slice none 0 0] 31 (0, 0)) := by
    rw [hW0]
    exact ((Below.heap_alloc _ _ _ (by simp only [World.size_alloc]; omega)).trans ((Below.heap_alloc _ _ _ (by simp only [World.size_alloc]; omega)).trans ((Below.heap_alloc _ _ _ (by simp only [World.size_alloc]; omega)).trans (World.alloc_heap_new _ _))))
  have ha1 : W0.heap[w.heap.size + 1]? = some (.cells #[.int .i64 0] 24 (0, 0)) := by
    rw [hW0]
    refine ((Below.heap_alloc _ _ _ (by simp only [World.size_alloc]; omega)).trans ((Below.heap_alloc _ _ _ (by simp only [World.size_alloc]; omega)).trans ?_))
    have := World.alloc_heap_new (w.alloc (.cells #[.slice none 0 0] 31)) (.cells #[.int .i64 0] 24); rwa [World.size_alloc] at this
  have ha2 : W0.heap[w.heap.size + 2]? = some (.cells #[.slice none 0 0] 31 (0, 0)) := by
    rw [hW0]
    refine (Below.heap_alloc _ _ _ (by simp only [World.size_alloc]; omega)).trans ?_
    have := World.alloc_heap_new ((w.alloc (.cells #[.slice none 0 0] 31)).alloc (.cells #[.int .i64 0] 24)) (.cells #[.slice none 0 0] 31); rwa [World.size_alloc, World.size_alloc] at this
  have ha3 : W0.cell? ⟨w.heap.size + 1 + 1 + 1, 0, none⟩ = some (.string s) := by
    rw [hW0]
    have := World.alloc_heap_new (((w.alloc (.cells #[.slice none 0 0] 31)).alloc (.cells #[.int .i64 0] 24)).alloc (.cells #[.slice none 0 0] 31)) (.cells #[.string s] 9)
    rw [World.size_alloc, World.size_alloc, World.size_alloc] at this
    simp only [World.cell?, this]; rfl
  have htab0 : EscTab W0 := esc_below htab hbel hw
  clear hW0
  obtain ⟨A, hA⟩ : ∃ A, w.heap.size = A := ⟨_, rfl⟩
  rw [hA] at hsz hbel ha0 ha1 ha2 ha3 hw
  rw [hA]
  have hseq := fields_seq (A + 1 + 1 + 1) (fun k => k = A + 1 + 1 + 1 ∨ k = 0) s (5 - 1) (by omega) (by omega) W0 (.inl rfl) (fun k hk => by rcases hk with rfl | rfl <;> omega) ha3 htab0 (.inr rfl)
  refine wpIn_rangeB (by omega) rfl (enters_of Tryz.func53 (by kernel_rfl) rfl) hseq (Below.refl _ _) (fun k hk => by rcases hk with rfl | rfl <;> omega) (fun _ => rfl) (SI A w) (SIx A w) (by rw [hsz]; exact si_bears A w) (fun c => by rw [hsz]; exact six_bears A w c) ?_ (SA A s w) (fun pre x => by rw [hsz]; exact sa_bears A s w pre x) ?_ ?_ ?_ ?_
  · exact ⟨fun y hy => (by cases hy), ⟨ha0, ha1, hbel⟩, _, ha2, rfl, .inl ⟨rfl, rfl⟩⟩
  · intro l pre x W K hI hW hK
    rw [hsz] at hW hK
    simp only [encY]
    gi_wp2
    have hgr := World.grownBy_alloc W (.cells #[.string (str x.1), .bool x.2.1] 47) none
    refine hK _ _ (KeepsB.grown hgr (fun k hk => by rcases hk with rfl | rfl <;> omega) hW (fun r e => by cases e)) ⟨si_bears A w pre _ _ _ hI hgr (fun r e => by cases e), _, _, _, _, _, _, _, _, _, _, _, _, _, _, _, _, _, _, _, hW, World.alloc_heap_new _ _, rfl⟩
  · obtain ⟨i0, hi, hj0, hj1, hj2⟩ := info_parts2 infoF
    intro l pre x a' W hSA hW hlen
    rw [hsz] at hW
    obtain ⟨⟨hall, ⟨r0, r1, r2⟩, v, hv, hown⟩, Fb, t, u1, u7, u8, u9, u10, u11, u12, u13, u14, u15, u16, u17, u18, u19, u20, u21, u22, hFb, hfb, rfl⟩ := hSA
    have hc0 : W.cell? ⟨A, 0, none⟩ = some (.slice none 0 0) := by simp [World.cell?, r0]
    have hc1 : W.cell? ⟨A + 1, 0, none⟩ = some (.int .i64 0) := by simp [World.cell?, r1]
    have hc2 : W.cell? ⟨A + 1 + 1, 0, none⟩ = some v := by simp [World.cell?, hv]
    have hf0 : W.cell? ⟨Fb, 0, none⟩ = some (.string (str x.1)) := by simp [World.cell?, hfb]
    have hf1 : W.cell? ⟨Fb, 1, none⟩ = some (.bool x.2.1) := by simp [World.cell?, hfb]
    have hz0 : W.frozen? ⟨A, 0, none⟩ = false := by simp [World.frozen?, r0]
    have hz1 : W.frozen? ⟨A + 1, 0, none⟩ = false := by simp [World.frozen?, r1]
    have hz2 : W.frozen? ⟨A + 1 + 1, 0, none⟩ = false := by simp [World.frozen?, hv]
    rw [hsz]
    obtain ⟨S, Q, ok⟩ := x
    simp only at hf0 hf1 hfb ⊢
    cases ok with
    | false =>
      gi_wp2
      have hmem : ∃ y ∈ pre ++ [(S, Q, false)], y.2.2 = false := ⟨_, List.mem_append_right _ (List.mem_singleton.2 rfl), rfl⟩
      refine ⟨⟨?_, fun k hk => ?_⟩, rfl, hmem, ?_, ?_, ?_⟩
      · exact Nat.le_trans (KeepsWalks.setCell W _ _).size (KeepsWalks.setCell _ _ _).size
      · have hk' : k ≠ A ∧ k ≠ A + 1 := by rcases hk with (hk | hk) | hk <;> omega
        exact (set_other _ hk'.2).trans (set_other _ hk'.1)
      · exact (set_other _ (by omega)).trans (set_block _ r0)
      · exact set_block _ ((set_other _ (by omega)).trans r1)
      · exact (r2.setCell (Nat.le_refl A) _).setCell (Nat.le_succ A) _
    | true =>
      have hlA : pre.length ≤ 8200 := by
        have h1 := fldsOf_len s.data.toList
        rw [len_list] at h1
        omega
      have hkeep : ∀ {w2 : World}, (W.alloc (.cells #[.string (str S), .bool Q] 47)).grownBy w2 v.ownBlock → ∀ k, k < A + 7 → w2.heap[k]? = W.heap[k]? := fun hg k hk =>
        (hg.block k (by rw [World.size_alloc]; omega) (fun e => by have := (hown.lt k e.symm).1; omega)).trans (Below.heap_alloc _ _ _ (by omega))
      have hsA := World.size_alloc W (.cells #[.string (str S), .bool Q] 47)
      gi_wp2_with (gi_at_builtin; refine wpListIn_append_own _ rfl _ _ 31 rfl (A + 7) 47 i0 (.agg #[.string ⟨#[]⟩, .bool false]) 2 24 Tryz.underlying31 hi hj0 hj1 hj2 rfl (by decide) _ _ _ rfl (hown.alloc _) ⟨W.heap.size, 0, none⟩ 1 1 [.string (str S), .bool Q] rfl rfl (new_cells W [.string (str S), .bool Q] _) (by simp [Value.oneCell']) (by unfold maxLen; omega) (by omega) (by rw [hsA]; omega) ?_; intro v' w2 hown' hgrow _; obtain ⟨sa, sm, sc, rfl⟩ := own_slice hown'; have hkk := hkeep hgrow; have hv2 := (hkk (A + 2) (by omega)).trans hv; have hc2' : w2.cell? ⟨A + 1 + 1, 0, none⟩ = some v := (by simp [World.cell?, hv2]); have hz2' : w2.frozen? ⟨A + 1 + 1, 0, none⟩ = false := (by simp [World.frozen?, hv2]))
      have hne : ∀ g, (Value.slice sa sm sc).ownBlock = some g → A + 7 ≤ g := fun g hg => (hown'.lt g hg).1
      refine ⟨⟨?_, fun k hk => ?_⟩, ?_, ⟨?_, ?_, ?_⟩, _, set_block _ hv2, ?_⟩
      · exact Nat.le_trans (Nat.le_trans (by rw [hsA]; omega) hgrow.size) (KeepsWalks.setCell _ _ _).size
      · have hk' : k ≠ A + 1 + 1 ∧ k < A + 7 := by rcases hk with (hk | hk) | hk <;> omega
        exact (set_other _ hk'.1).trans (hkk k hk'.2)
      · intro y hy
        rcases List.mem_append.1 hy with hy | hy
        · exact hall y hy
        · rw [List.mem_singleton.1 hy]
      · exact (set_other _ (by omega)).trans ((hkk _ (by omega)).trans r0)
      · exact (set_other _ (by omega)).trans ((hkk _ (by omega)).trans r1)
      · have hAW : A ≤ W.heap.size := by omega
        exact ((r2.alloc hAW _).grown hgrow (by rw [hsA]; omega) (fun k hk => by have := (hown.lt k hk).1; omega)).setCell (by show A ≤ A + 1 + 1; omega) _
      · have hw3 : (w2.setCell ⟨A + 1 + 1, 0, none⟩ (.slice sa sm sc)).ownsRow (A + 7) 47 2 (.slice sa sm sc) (pre.length + 1) (fcs (pre.map fldOf) ++ [.string (str S), .bool Q]) :=
          hown'.kept (grown_set _ _ _ _) (.inr fun e => by have := hne _ e; omega)
        rw [List.length_append, List.map_append, fcs_app]
        exact hw3
  · intro xs W hS hI hD
    rw [hsz] at hD
    subst hS
    obtain ⟨hall, ⟨r0, r1, r2⟩, v, hv, hown⟩ := hI
    have hc0 : W.cell? ⟨A, 0, none⟩ = some (.slice none 0 0) := by simp [World.cell?, r0]
    have hc1 : W.cell? ⟨A + 1, 0, none⟩ = some (.int .i64 0) := by simp [World.cell?, r1]
    have hc2 : W.cell? ⟨A + 1 + 1, 0, none⟩ = some v := by simp [World.cell?, hv]
    have hz0 : W.frozen? ⟨A, 0, none⟩ = false := by simp [World.frozen?, r0]
    have hz1 : W.frozen? ⟨A + 1, 0, none⟩ = false := by simp [World.frozen?, r1]
    have hown2 : W.ownsRow (A + 7) 47 2 v ((fldsOf s.data.toList).map fldOf).length (fcs ((fldsOf s.data.toList).map fldOf)) := by rw [List.length_map]; exact hown
    have hb := fldsOf_len s.data.toList
    rw [len_list] at hb
    obtain ⟨sa, sm, sc, rfl⟩ := own_slice hown
    have C := tooLong_any _ _ _ (FldsAt.own hown2) (by rw [List.length_map]; omega)
    have hany : (fldsOf s.data.toList).any (fun y => !y.2.2) = false := by
      rw [List.any_eq_false]; intro y hy; rw [hall y hy]; simp
    have hS1 : splitS s.data.toList = if tooL ((fldsOf s.data.toList).map fldOf) then ([], 3) else ((fldsOf s.data.toList).map fldOf, 0) := by
      unfold splitS; rw [if_neg (by rw [len_list]; omega), if_neg (by rw [hany]; simp)]
    rw [hsz]
    gi_wp2
    refine ⟨trivial, (callsIn_wide.2 C).mono ?_⟩
    rintro e w3 ⟨rfl, hb3⟩
    have hDs := (Array.getElem?_eq_some_iff.1 hD).1
    have k0 := (hb3.block A (by omega)).trans r0
    have k1 := (hb3.block (A + 1) (by omega)).trans r1
    have k2 := (hb3.block (A + 2) (by omega)).trans hv
    have k4 := (hb3.block (A + 4) (Array.getElem?_eq_some_iff.1 hD).1).trans hD
    have hown3 := own_below hown2 hb3
    have r3 : Below A w w3 := r2.trans (hb3.mono (by omega))
    clear hc0 hc1 hc2 hz0 hz1 hown hown2 hb3 hD r0 r1 r2 hv
    have hc0 : w3.cell? ⟨A, 0, none⟩ = some (.slice none 0 0) := by simp [World.cell?, k0]
    have hc1 : w3.cell? ⟨A + 1, 0, none⟩ = some (.int .i64 0) := by simp [World.cell?, k1]
    have hc2 : w3.cell? ⟨A + 1 + 1, 0, none⟩ = some (.slice sa sm sc) := by simp [World.cell?, k2]
    have hz0 : w3.frozen? ⟨A, 0, none⟩ = false := by simp [World.frozen?, k0]
    have hz1 : w3.frozen? ⟨A + 1, 0, none⟩ = false := by simp [World.frozen?, k1]
    have hfin : ∀ (u0 u1 : Value) (tm : Array Value), ((w3.setCell ⟨A, 0, none⟩ u0).setCell ⟨A + 1, 0, none⟩ u1).heap[A + 4]? = some (.deferred (some [])) :=
      fun u0 u1 _ => (set_other _ (by omega)).trans ((set_other _ (by omega)).trans k4)
    have hres : ∀ (u0 u1 : Value), (((w3.setCell ⟨A, 0, none⟩ u0).setCell ⟨A + 1, 0, none⟩ u1).putObj (A + 4) (.deferred none)).cell? ⟨A, 0, none⟩ = some u0 ∧
        (((w3.setCell ⟨A, 0, none⟩ u0).setCell ⟨A + 1, 0, none⟩ u1).putObj (A + 4) (.deferred none)).cell? ⟨A + 1, 0, none⟩ = some u1 ∧
        Below A w (((w3.setCell ⟨A, 0, none⟩ u0).setCell ⟨A + 1, 0, none⟩ u1).putObj (A + 4) (.deferred none)) := by
      intro u0 u1
      have g0 : ((w3.setCell ⟨A, 0, none⟩ u0).setCell ⟨A + 1, 0, none⟩ u1).heap[A]? = some (.cells #[u0] 31 (0, 0)) := (set_other _ (by omega)).trans (set_block _ k0)
      have g1 : ((w3.setCell ⟨A, 0, none⟩ u0).setCell ⟨A + 1, 0, none⟩ u1).heap[A + 1]? = some (.cells #[u1] 24 (0, 0)) := set_block _ ((set_other _ (by omega)).trans k1)
      refine ⟨?_, ?_, ?_⟩
      · rw [World.cell?_of_block (World.putObj_heap_other (by show A ≠ A + 4; omega))]; simp [World.cell?, g0]
      · rw [World.cell?_of_block (World.putObj_heap_other (by show A + 1 ≠ A + 4; omega))]; simp [World.cell?, g1]
      · exact ((r3.setCell (Nat.le_refl A) _).setCell (Nat.le_succ A) _).grown (grownBy_putObj' _ _ _) (by have := Array.getElem?_eq_some_iff.1 g0; exact Nat.le_of_lt this.1) (fun k e => by cases e; omega)
    cases htl : tooL ((fldsOf s.data.toList).map fldOf) with
    | false =>
      gi_wp2
      obtain ⟨q0, q1, q2⟩ := hres (.slice sa sm sc) (.int .i64 0)
      refine ⟨by simp, .inl ⟨_, _, rfl, run_takeDeferred (hfin _ _ #[]), ?_⟩⟩
      refine ⟨.tuple #[.slice sa sm sc, .int .i64 0], by simp [results, Tryz.results13, go_sem, q0, q1], .slice sa sm sc, ?_, ?_, ?_⟩
      · rw [hS1, htl]; rfl
      · rw [hS1, htl, hA]
        have hne : ∀ g, (Value.slice sa sm sc).ownBlock = some g → A + 7 ≤ g := fun g hg => (hown3.lt g hg).1
        refine own_mono (((hown3.kept (grown_set _ A 0 _) (.inr fun e => by have := hne _ e; omega)).kept (grown_set _ (A + 1) 0 _) (.inr fun e => by have := hne _ e; omega)).kept (grownBy_putObj' _ (A + 4) _) (.inr fun e => by have := hne _ e; omega)) (by omega)
      · rw [hA]; exact q2
    | true =>
      gi_wp2
      obtain ⟨q0, q1, q2⟩ := hres (.slice none 0 0) (.int .i64 3)
      refine ⟨by simp, .inl ⟨_, _, rfl, run_takeDeferred (hfin _ _ #[]), ?_⟩⟩
      refine ⟨.tuple #[.slice none 0 0, .int .i64 3], by simp [results, Tryz.results13, go_sem, q0, q1], .slice none 0 0, ?_, ?_, ?_⟩
      · rw [hS1, htl]; rfl
      · rw [hS1, htl]; exact ⟨rfl, .inl ⟨rfl, rfl⟩⟩
      · rw [hA]; exact q2
  · intro c pre W hSp hIx hD
    rw [hsz] at hD
    rw [hsz]
    obtain ⟨rfl, ⟨y, hy1, hy2⟩, r0, r1, r2⟩ := hIx
    have hany : (fldsOf s.data.toList).any (fun y => !y.2.2) = true := by
      rw [List.any_eq_true]; exact ⟨y, hSp.subset hy1, by rw [hy2]; rfl⟩
    have hS1 : splitS s.data.toList = ([], 6) := by
      unfold splitS; rw [if_neg (by rw [len_list]; omega), if_pos hany]
    have q0 : (W.putObj (A + 4) (.deferred none)).cell? ⟨A, 0, none⟩ = some (.slice none 0 0) := by
      rw [World.cell?_of_block (World.putObj_heap_other (by show A ≠ A + 4; omega))]; simp [World.cell?, r0]
    have q1 : (W.putObj (A + 4) (.deferred none)).cell? ⟨A + 1, 0, none⟩ = some (.int .i64 6) := by
      rw [World.cell?_of_block (World.putObj_heap_other (by show A + 1 ≠ A + 4; omega))]; simp [World.cell?, r1]
    gi_wp2
    refine ⟨by simp, .inl ⟨_, _, rfl, run_takeDeferred hD, ?_⟩⟩
    refine ⟨.tuple #[.slice none 0 0, .int .i64 6], by simp [results, Tryz.results13, go_sem, q0, q1], .slice none 0 0, ?_, ?_, ?_⟩
    · rw [hS1]
    · rw [hS1]; exact ⟨rfl, .inl ⟨rfl, rfl⟩⟩
    · rw [hA]; exact r2.grown (grownBy_putObj' _ _ _) (Nat.le_of_lt (Array.getElem?_eq_some_iff.1 r0).1) (fun k e => by cases e; omega)

theorem split_big (s : ByteArray) (w : World) (hs : 8192 < s.size) : Calls Tryz.prog 13 #[.string s] w (SplitV s w) := by
  have hr : decide ((8192 : Int) < (s.size : Int)) = true := decide_eq_true (by omega)
  have hS1 : splitS s.data.toList = ([], 3) := by
    unfold splitS; rw [if_pos (by rw [len_list]; exact hs)]
  go_enter Tryz.func13, Tryz.ntmps13
  go_wp2
  obtain ⟨W1, hW1⟩ : ∃ W1, W1 = ((w.alloc (.cells #[.slice none 0 0] 31)).alloc (.cells #[.int .i64 3] 24)) := ⟨_, rfl⟩
  have g0 : W1.heap[w.heap.size]? = some (.cells #[.slice none 0 0] 31 (0, 0)) := by
    rw [hW1]; exact (Below.heap_alloc _ _ _ (by simp only [World.size_alloc]; omega)).trans (World.alloc_heap_new _ _)
  have g1 : W1.heap[w.heap.size + 1]? = some (.cells #[.int .i64 3] 24 (0, 0)) := by
    rw [hW1]; have := World.alloc_heap_new (w.alloc (.cells #[.slice none 0 0] 31)) (.cells #[.int .i64 3] 24); rwa [World.size_alloc] at this
  have hb1 : Below w.heap.size w W1 := by
    rw [hW1]; exact ((Below.refl _ w).alloc (Nat.le_refl _) _).alloc (by simp only [World.size_alloc]; omega) _
  rw [← hW1]
  clear hW1
  have q0 : W1.cell? ⟨w.heap.size, 0, none⟩ = some (.slice none 0 0) := by simp [World.cell?, g0]
  have q1 : W1.cell? ⟨w.heap.size + 1, 0, none⟩ = some (.int .i64 3) := by simp [World.cell?, g1]
  exact bodyPost_ret (v := .tuple #[.slice none 0 0, .int .i64 3]) (by simp [results, Tryz.results13, go_sem, q0, q1]) rfl ⟨.slice none 0 0, by rw [hS1], by rw [hS1]; exact ⟨rfl, .inl ⟨rfl, rfl⟩⟩, hb1⟩

theorem split_any (s : ByteArray) (w : World) (htab : EscTab w) (hw : 0 < w.heap.size) : Calls Tryz.prog 13 #[.string s] w (SplitV s w) := by
  by_cases hs : s.size ≤ 8192
  · exact callsIn_wide.1 (split_small s w hs htab hw)
  · exact split_big s w (by omega)
end Go.Proofs.YtnajkkbcfebegaaGreatDoor
