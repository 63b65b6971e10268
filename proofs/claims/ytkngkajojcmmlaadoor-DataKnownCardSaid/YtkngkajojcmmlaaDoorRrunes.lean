/- runes.Runes. -/
import Derived.Test.YtkngkajojcmmlaaDoorRcount
namespace Go.Proofs.YtkngkajojcmmlaaDoor
open Go.RowKit Go.Shelf Go.PlainAid

attribute [local go_sem] Oper.semAt_some

theorem own_mono {w : World} {B B' e z n : Nat} {v : Value} {xs : List Value} (h : w.ownsRow B e z v n xs) (hb : B' ≤ B) : w.ownsRow B' e z v n xs :=
  ⟨h.1, h.2.imp id fun ⟨g, cap, cur, h1, h2, h3⟩ => ⟨g, cap, cur, h1, Nat.le_trans hb h2, h3⟩⟩
theorem own_slice {w : World} {B e z n : Nat} {v : Value} {xs : List Value} (h : w.ownsRow B e z v n xs) : ∃ a m c, v = .slice a m c := by
  rcases h.2 with ⟨rfl, _⟩ | ⟨g, cap, cur, rfl, _⟩
  · exact ⟨_, _, _, rfl⟩
  · exact ⟨_, _, _, rfl⟩
theorem info_parts2 {P : Program} {t : TypeId} {z : Value} {n b : Nat} (h : (P.info? t).map (fun i => (i.zero, i.size, i.bytes)) = some (some z, n, b)) :
    ∃ i, P.info? t = some i ∧ i.zero = some z ∧ i.size = n ∧ i.bytes = b := by
  cases hi : P.info? t with
  | none => rw [hi] at h; cases h
  | some i =>
    rw [hi] at h
    simp only [Option.map_some, Option.some.injEq, Prod.mk.injEq] at h
    exact ⟨i, rfl, h.1, h.2.1, h.2.2⟩
def runesS (l : List UInt8) : List Int × Int := if (chkS l).2 = 0 then ((runs l).1, 0) else ([], (chkS l).2)
/-- runes.Runes -/
def RnV (l : List UInt8) (w : World) (e : Ending) (w' : World) : Prop :=
  ∃ v, e = .returned (.tuple #[v, .int .i64 (runesS l).2]) ∧ w'.ownsRow w.heap.size 21 1 v (runesS l).1.length ((runesS l).1.map (Value.int .i32)) ∧ Below w.heap.size w w'
theorem infoRn : (Tryd.prog.info? 21).map (fun i => (i.zero, i.size, i.bytes)) = some (some (.int .i32 0), 1, 4) := by kernel_rfl

set_option maxHeartbeats 1600000 in
theorem runes_no (v : Value) (l : List UInt8) (w : World) (h : BytesAt w v l) (hl : l.length ≤ 1000000000) (hm : MarksTab w) (hg : 1 < w.heap.size) (hc : (chkS l).2 ≠ 0) :
    Calls Tryd.prog 49 #[v] w (RnV l w) := by
  obtain ⟨x, e, hx, he⟩ : ∃ (x : Int) (e : Int), chkV l = .tuple #[.int .i64 x, .int .i64 e] ∧ e = (chkS l).2 := ⟨_, _, rfl, rfl⟩
  have C : Hid (Calls Tryd.prog 78 #[v] w fun e' w' => e' = .returned (.tuple #[.int .i64 x, .int .i64 e]) ∧ Below w.heap.size w w') := Lib.hid (by
    rw [← hx]; exact check_any v l w h hl hm hg)
  have HV : Hid (runesS l = ([], e)) := Lib.hid (by unfold runesS; rw [if_neg hc, he])
  have hne : (e != 0) = true := by rw [bne_iff_ne, he]; exact hc
  obtain ⟨a, cap, hv⟩ := h.slice
  rw [List.length_map] at hv
  subst hv
  clear h hm hc hx he
  go_enter Tryd.func49, Tryd.ntmps49
  go_wp2_with (go_at_call 78; refine C.out.mono ?_; rintro e w1 ⟨rfl, hb1⟩)
  go_ret2
  exact ⟨_, by rw [HV.out]; rfl, by rw [HV.out]; exact ⟨rfl, .inl ⟨rfl, rfl⟩⟩, hb1⟩

def RnI (A : Nat) (w : World) (pre : List (Nat × Int)) (W : World) : Prop :=
  ∃ v, W.heap[A]? = some (.cells #[v] 65 (0, 0)) ∧ W.ownsRow (A + 4) 21 1 v pre.length (pre.map fun x => Value.int .i32 x.2) ∧ Below A w W
theorem RnI_bears (A : Nat) (w : World) : Bears (A + 2) (A + 2 + 2 + 0) (RnI A w) := by
  intro pre W W' row h hg hr
  obtain ⟨v, h1, h3, h2⟩ := h
  refine ⟨v, (hg.block A (Array.getElem?_eq_some_iff.1 h1).1 fun e => by have := hr _ e.symm; omega).trans h1, h3.kept hg ?_, ?_⟩
  · cases hv : v.ownBlock with
    | none => exact .inl rfl
    | some r => exact .inr fun e => by have h4 := hr _ e.symm; have h5 := (h3.lt r hv).1; omega
  · exact h2.grown hg (Nat.le_of_lt (Array.getElem?_eq_some_iff.1 h1).1) (fun k e => by have := hr _ e; omega)
def RnAx (A : Nat) (w : World) (pre : List (Nat × Int)) (x : Nat × Int) (a : Act) (W : World) : Prop :=
  RnI A w pre W ∧ ∃ u0 u1 u2 u3 u4 u5 u7 u9 u10 u11 u12 u13 u14 u15 u16 u17 u18 u19 u20 u21 u22 u23 u24 u25 : Value, a = { tmps := #[u0, u1, u2, u3, u4, u5, .pointer (some ⟨A, 0, none⟩), u7, .int .i32 x.2, u9, u10, u11, u12, u13, u14, u15, u16, u17, u18, u19, u20, u21, u22, u23, u24, u25], defers := [] }
theorem RnAx_bears (A : Nat) (w : World) (pre : List (Nat × Int)) (x : Nat × Int) : Bears (A + 2) (A + 2 + 2 + 0) (RnAx A w pre x) := by
  intro a W W' row h hg hr
  exact ⟨RnI_bears A w pre W W' row h.1 hg hr, h.2⟩

set_option maxRecDepth 50000 in
set_option maxHeartbeats 1600000 in
theorem runes_yes (v : Value) (l : List UInt8) (w : World) (h : BytesAt w v l) (hl : l.length ≤ 1000000000) (hm : MarksTab w) (hg : 1 < w.heap.size) (hc : (chkS l).2 = 0) :
    CallsIn Fence.wide 5 Tryd.prog 49 #[v] w (RnV l w) := by
  obtain ⟨x, hx⟩ : ∃ (x : Int), chkV l = .tuple #[.int .i64 x, .int .i64 0] := ⟨(chkS l).1, by unfold chkV; rw [hc]⟩
  have C : Hid (Calls Tryd.prog 78 #[v] w fun e' w' => e' = .returned (.tuple #[.int .i64 x, .int .i64 0]) ∧ Below w.heap.size w w') := Lib.hid (by
    rw [← hx]; exact check_any v l w h hl hm hg)
  have HV : Hid (runesS l = ((runs l).1, 0)) := Lib.hid (by unfold runesS; rw [if_pos hc])
  obtain ⟨a, cap, hv⟩ := h.slice
  rw [List.length_map] at hv
  obtain ⟨n, hn⟩ : ∃ n, n = l.length := ⟨_, rfl⟩
  have hn9 : n ≤ 1000000000 := by omega
  have HN := Lib.hid hn
  rw [← hn] at hv
  subst hv
  have H := Lib.hid h
  have HM := Lib.hid hm
  have hrl := runs_len_le l
  have hel : (eachS l).length = (runs l).1.length := eachF_len _ _
  have hlen : (eachS l).length ≤ 1000000000 := by omega
  clear h hm hc hx hn hrl hel
  refine callsIn_of_wp_marks Tryd.func49 rfl trivial ?_ rfl
  simp only [Tryd.ntmps49, List.size_toArray, List.length_cons, List.length_nil, Nat.reduceAdd, Nat.reduceSub, Array.replicate_succ, Array.replicate_zero, List.push_toArray, List.append_toArray, List.nil_append, List.cons_append]
  gi_wp2
  refine ⟨trivial, (callsIn_wide.2 C.out).mono ?_⟩
  rintro e w1 ⟨rfl, hb1⟩
  gi_wp2
  refine ⟨trivial, (callsIn_wide.2 (each_any _ _ _ _)).mono ?_⟩
  rintro e w2 ⟨rfl, rfl⟩
  gi_wp2
  obtain ⟨W0, hW0⟩ : ∃ W0, W0 = ((w1.alloc (.cells #[.slice none 0 0] 65)).alloc (.cells #[.slice a n cap] 68)) := ⟨_, rfl⟩
  rw [← hW0]
  obtain ⟨A, hA⟩ : ∃ A, w1.heap.size = A := ⟨_, rfl⟩
  have hsz : W0.heap.size = A + 2 := by rw [hW0, ← hA]; simp
  have hbel : Below A w1 W0 := by
    rw [hW0, ← hA]
    exact ((Below.refl _ w1).alloc (Nat.le_refl _) _).alloc (by simp only [World.size_alloc]; omega) _
  have ha0 : W0.heap[A]? = some (.cells #[.slice none 0 0] 65 (0, 0)) := by
    rw [hW0, ← hA]; exact (Below.heap_alloc _ _ _ (by simp only [World.size_alloc]; omega)).trans (World.alloc_heap_new _ _)
  have ha1 : W0.heap[A + 1]? = some (.cells #[.slice a n cap] 68 (0, 0)) := by
    rw [hW0, ← hA]
    have := World.alloc_heap_new (w1.alloc (.cells #[.slice none 0 0] 65)) (.cells #[.slice a n cap] 68); rwa [World.size_alloc] at this
  clear hW0
  have hAw : w.heap.size ≤ A := by rw [← hA]; exact hb1.size
  rw [hA]
  have hseq := each_at (5 - 1) A (A + 1) (.slice a n cap) l w1 W0 (by omega) hl (H.out.below hb1 (Nat.le_refl _)) (marks_below HM.out hb1 hg) (by omega) hA hbel (by omega) ha1
  refine wpIn_rangeB (by omega) rfl (enters_of Tryd.func101 (by kernel_rfl) rfl) hseq (Below.refl _ _) (fun k hk => by rcases hk with hk | rfl <;> omega) (fun _ => rfl) (RnI A w1) (fun _ _ _ => False) (by rw [hsz]; exact RnI_bears A w1) (fun c => by intro _ _ _ _ h; exact h.elim) ?_ (RnAx A w1) (fun pre x => by rw [hsz]; exact RnAx_bears A w1 pre x) ?_ ?_ ?_ ?_
  · exact ⟨_, ha0, ⟨rfl, .inl ⟨rfl, rfl⟩⟩, hbel⟩
  · intro l pre x W K hI hW hK
    rw [hsz] at hW hK
    simp only [encE]
    gi_wp2
    exact hK _ _ (KeepsB.refl _ _ _ _) ⟨hI, _, _, _, _, _, _, _, _, _, _, _, _, _, _, _, _, _, _, _, _, _, _, _, _, rfl⟩
  · obtain ⟨i0, hi, hj0, hj1, hj2⟩ := info_parts2 infoRn
    intro l' pre x a' W hAx hW hlt
    rw [hsz] at hW
    obtain ⟨⟨v, r0, hown, r1⟩, u0, u1, u2, u3, u4, u5, u7, u9, u10, u11, u12, u13, u14, u15, u16, u17, u18, u19, u20, u21, u22, u23, u24, u25, rfl⟩ := hAx
    have hc0 : W.cell? ⟨A, 0, none⟩ = some v := by simp [World.cell?, r0]
    have hz0 : W.frozen? ⟨A, 0, none⟩ = false := by simp [World.frozen?, r0]
    have hb8 : pre.length < 1000000000 := by omega
    rw [hsz]
    obtain ⟨x1, x2⟩ := x
    simp only at hc0 ⊢
    have hkeep : ∀ {w2 : World}, (W.alloc (.cells #[.int .i32 x2] 21)).grownBy w2 v.ownBlock → ∀ k, k < A + 4 → w2.heap[k]? = W.heap[k]? := fun hg k hk =>
      (hg.block k (by rw [World.size_alloc]; omega) (fun e => by have := (hown.lt k e.symm).1; omega)).trans (Below.heap_alloc _ _ _ (by omega))
    have hsA := World.size_alloc W (.cells #[.int .i32 x2] 21)
    gi_wp2_with (gi_at_builtin; refine wpListIn_append_own _ rfl _ _ 65 rfl (A + 4) 21 i0 (.int .i32 0) 1 4 Tryd.underlying65 hi hj0 hj1 hj2 rfl (by decide) _ _ _ rfl (hown.alloc _) ⟨W.heap.size, 0, none⟩ 1 1 [.int .i32 x2] rfl rfl (new_cells W [.int .i32 x2] _) (by simp [Value.oneCell']) (by unfold maxLen; omega) (by omega) (by rw [hsA]; omega) ?_; intro v' w2 hown' hgrow _; obtain ⟨sa, sm, sc, rfl⟩ := own_slice hown'; have hkk := hkeep hgrow; have hv2 := (hkk A (by omega)).trans r0; have hc2' : w2.cell? ⟨A, 0, none⟩ = some v := (by simp [World.cell?, hv2]); have hz2' : w2.frozen? ⟨A, 0, none⟩ = false := (by simp [World.frozen?, hv2]))
    have hne : ∀ g, (Value.slice sa sm sc).ownBlock = some g → A + 4 ≤ g := fun g hg => (hown'.lt g hg).1
    refine ⟨⟨?_, fun k hk => ?_⟩, _, set_block _ hv2, ?_, ?_⟩
    · exact Nat.le_trans (Nat.le_trans (by rw [hsA]; omega) hgrow.size) (KeepsWalks.setCell _ _ _).size
    · have hk' : k ≠ A ∧ k < A + 4 := by rcases hk with (hk | hk) | hk <;> omega
      exact (set_other _ hk'.1).trans (hkk k hk'.2)
    · have hw3 : (w2.setCell ⟨A, 0, none⟩ (.slice sa sm sc)).ownsRow (A + 4) 21 1 (.slice sa sm sc) (pre.length + 1) ((pre.map fun x => Value.int .i32 x.2) ++ [.int .i32 x2]) :=
        hown'.kept (grown_set _ _ _ _) (.inr fun e => by have := hne _ e; omega)
      rw [List.length_append, List.map_append]
      exact hw3
    · have hAW : A ≤ W.heap.size := by omega
      exact ((r1.alloc hAW _).grown hgrow (by rw [hsA]; omega) (fun k hk => by have := (hown.lt k hk).1; omega)).setCell (Nat.le_refl A) _
  · intro xs W hS hI hD
    rw [hsz] at hD
    subst hS
    obtain ⟨v, r0, hown, r1⟩ := hI
    have hc0 : W.cell? ⟨A, 0, none⟩ = some v := by simp [World.cell?, r0]
    rw [hsz]
    gi_wp2
    refine ⟨by simp, .inl ⟨_, _, rfl, run_takeDeferred hD, ?_⟩⟩
    refine ⟨.tuple #[v, .int .i64 0], by simp [results, Tryd.results49, go_sem], v, ?_, ?_, ?_⟩
    · rw [HV.out]
    · rw [HV.out]
      have hmp : (eachS l).map (fun x => Value.int .i32 x.2) = (runs l).1.map (Value.int .i32) := by
        have := eachF_snd (runs l).1 0
        unfold eachS
        conv => rhs; rw [← this]
        rw [List.map_map]; rfl
      have hel : (eachS l).length = (runs l).1.length := eachF_len _ _
      have hw := own_mono (B' := w.heap.size) (hown.kept (grownBy_putObj' _ (A + 2) (.deferred none)) (by
        cases hv : v.ownBlock with
        | none => exact .inl rfl
        | some r => exact .inr fun e => by have := (hown.lt r hv).1; cases e; omega)) (by omega)
      rw [hmp, hel] at hw
      exact hw
    · exact hb1.trans ((r1.grown (grownBy_putObj' _ _ _) (Nat.le_of_lt (Array.getElem?_eq_some_iff.1 r0).1) (fun k e => by cases e; omega)).mono hAw)
  · intro c pre W _ h _; exact h.elim

theorem runes_any (v : Value) (l : List UInt8) (w : World) (h : BytesAt w v l) (hl : l.length ≤ 1000000000) (hm : MarksTab w) (hg : 1 < w.heap.size) :
    Calls Tryd.prog 49 #[v] w (RnV l w) := by
  by_cases hc : (chkS l).2 = 0
  · exact callsIn_wide.1 (runes_yes v l w h hl hm hg hc)
  · exact runes_no v l w h hl hm hg hc
end Go.Proofs.YtkngkajojcmmlaaDoor
