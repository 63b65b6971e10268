/- runes.Count. -/
import Derived.Test.YtbajikkjkiacnaaDoorReach
namespace Go.Proofs.YtbajikkjkiacnaaDoor
open Go.RowKit Go.Shelf Go.PlainAid

attribute [local go_sem] Oper.semAt_some

theorem set_block {W : World} {b i : Nat} {c : Array Value} {t : TypeId} {fr : Nat × Nat} (v : Value) (h : W.heap[b]? = some (.cells c t fr)) :
    (W.setCell ⟨b, i, none⟩ v).heap[b]? = some (.cells (c.setIfInBounds i v) t fr) := by
  simp [World.setCell, Array.getElem?_modify, h]
theorem set_other {W : World} {b i k : Nat} (v : Value) (h : k ≠ b) : (W.setCell ⟨b, i, none⟩ v).heap[k]? = W.heap[k]? := Below.heap_setCell _ _ _ k h
theorem grown_set (W : World) (b i : Nat) (v : Value) : W.grownBy (W.setCell ⟨b, i, none⟩ v) (some b) :=
  ⟨rfl, rfl, rfl, (KeepsWalks.setCell W _ v).size, fun k _ hk => Below.heap_setCell _ _ _ k (fun e => hk (by rw [e]))⟩
/-- Rows in worlds where their block is as it was. -/
theorem RowAt.keep {A : Nat} {w w' : World} {v : Value} {l : List Value} (h : RowAt w v l) (hA : w.heap.size ≤ A) (hs : w.heap.size ≤ w'.heap.size) (hk : ∀ k, k < A → k < w.heap.size → w'.heap[k]? = w.heap[k]?) : RowAt w' v l := by
  rcases h with h | ⟨g, off, n, cap, e, hn, hg, hc⟩
  · exact .inl h
  · refine .inr ⟨g, off, n, cap, e, hn, Nat.lt_of_lt_of_le hg hs, fun j u hj => ?_⟩
    have := hk g (by omega) hg
    rw [← hc j u hj]
    simp only [World.cell?, this]

/-- The iterator's contract where it is ranged over: all blocks below A are kept. -/
theorem each_at (n A Bs : Nat) (v : Value) (l : List UInt8) (w W0 : World) (hn : 1 ≤ n) (hl : l.length ≤ 1000000000) (h : BytesAt w v l) (hm : MarksTab w) (hg : 0 < A) (hA : w.heap.size = A)
    (hb : Below A w W0) (hz : Bs < W0.heap.size) (hBs : W0.heap[Bs]? = some (.cells #[v] 43 (0, 0))) :
    SeqB n Tryd.prog 73 #[.pointer (some ⟨Bs, 0, none⟩)] encE (fun k => k < A ∨ k = Bs) 0 (fun ys => ys = eachS l) (fun pre => pre <+: eachS l) (eachS l).length W0 := by
  subst hA
  have hs := hb.size
  refine each_seq n Bs (fun k => k < w.heap.size ∨ k = Bs) v l W0 hn hl (fun k hk => by omega) (by omega) fun W1 h1 hk => ⟨?_, ?_, ?_⟩
  · have := (hk Bs (.inr rfl)).trans hBs
    simp [World.cell?, this]
  · exact h.keep (Nat.le_refl _) (by omega) fun k h2 _ => (hk k (.inl h2)).trans (hb.block k h2)
  · obtain ⟨t, fr, hm⟩ := hm
    exact ⟨t, fr, (hk _ (.inl hg)).trans ((hb.block _ hg).trans hm)⟩

/-- What Count, Runes and Starts return if Check says so. -/
def cntS (l : List UInt8) : Nat × Int := if (chkS l).2 = 0 then ((runs l).1.length, 0) else (0, (chkS l).2)
def cntV (l : List UInt8) : Value := .tuple #[.int .i64 ((cntS l).1 : Int), .int .i64 (cntS l).2]

set_option maxHeartbeats 1600000 in
theorem count_no (v : Value) (l : List UInt8) (w : World) (h : BytesAt w v l) (hl : l.length ≤ 1000000000) (hm : MarksTab w) (hg : 0 < w.heap.size) (hc : (chkS l).2 ≠ 0) :
    Calls Tryd.prog 54 #[v] w fun e w' => e = .returned (cntV l) ∧ Below w.heap.size w w' := by
  obtain ⟨x, e, hx, he⟩ : ∃ (x : Int) (e : Int), chkV l = .tuple #[.int .i64 x, .int .i64 e] ∧ e = (chkS l).2 := ⟨_, _, rfl, rfl⟩
  have C : Hid (Calls Tryd.prog 49 #[v] w fun e' w' => e' = .returned (.tuple #[.int .i64 x, .int .i64 e]) ∧ Below w.heap.size w w') := Lib.hid (by
    rw [← hx]; exact check_any v l w h hl hm hg)
  have HV : Hid (cntV l = .tuple #[.int .i64 0, .int .i64 e]) := Lib.hid (by unfold cntV cntS; rw [if_neg hc, he]; rfl)
  have hne : (e != 0) = true := by rw [bne_iff_ne, he]; exact hc
  obtain ⟨a, cap, hv⟩ := h.slice
  rw [List.length_map] at hv
  subst hv
  clear h hm hc hx he
  go_enter Tryd.func54, Tryd.ntmps54
  go_wp2_with (go_at_call 49; refine C.out.mono ?_; rintro e w1 ⟨rfl, hb1⟩)
  go_ret2
  exact ⟨(congrArg Ending.returned HV.out).symm, hb1⟩

def CI (A : Nat) (w : World) (pre : List (Nat × Int)) (W : World) : Prop :=
  W.heap[A]? = some (.cells #[.int .i64 (pre.length : Int)] 3 (0, 0)) ∧ Below A w W
theorem ci_bears (A : Nat) (w : World) : Bears (A + 2) (A + 2 + 2 + 0) (CI A w) := by
  intro pre W W' row h hg hr
  obtain ⟨h1, h2⟩ := h
  refine ⟨(hg.block A (Array.getElem?_eq_some_iff.1 h1).1 fun e => by have := hr _ e.symm; omega).trans h1, ?_⟩
  exact h2.grown hg (Nat.le_of_lt (Array.getElem?_eq_some_iff.1 h1).1) (fun k e => by have := hr _ e; omega)
def CAx (A : Nat) (w : World) (pre : List (Nat × Int)) (_ : Nat × Int) (a : Act) (W : World) : Prop :=
  CI A w pre W ∧ ∃ u0 u1 u2 u3 u4 u5 u7 u8 u9 u10 u11 u12 u13 u14 u15 u16 u17 u18 u19 u20 u21 : Value,
    a = { tmps := #[u0, u1, u2, u3, u4, u5, .pointer (some ⟨A, 0, none⟩), u7, u8, u9, u10, u11, u12, u13, u14, u15, u16, u17, u18, u19, u20, u21], defers := [] }
theorem cax_bears (A : Nat) (w : World) (pre : List (Nat × Int)) (x : Nat × Int) : Bears (A + 2) (A + 2 + 2 + 0) (CAx A w pre x) := by
  intro a W W' row h hg hr
  exact ⟨ci_bears A w pre W W' row h.1 hg hr, h.2⟩

set_option maxRecDepth 50000 in
set_option maxHeartbeats 1600000 in
theorem count_yes (v : Value) (l : List UInt8) (w : World) (h : BytesAt w v l) (hl : l.length ≤ 1000000000) (hm : MarksTab w) (hg : 0 < w.heap.size) (hc : (chkS l).2 = 0) :
    CallsIn Fence.wide 5 Tryd.prog 54 #[v] w fun e w' => e = .returned (cntV l) ∧ Below w.heap.size w w' := by
  obtain ⟨x, hx⟩ : ∃ (x : Int), chkV l = .tuple #[.int .i64 x, .int .i64 0] := ⟨(chkS l).1, by unfold chkV; rw [hc]⟩
  have C : Hid (Calls Tryd.prog 49 #[v] w fun e' w' => e' = .returned (.tuple #[.int .i64 x, .int .i64 0]) ∧ Below w.heap.size w w') := Lib.hid (by
    rw [← hx]; exact check_any v l w h hl hm hg)
  have HV : Hid (cntV l = .tuple #[.int .i64 ((runs l).1.length : Int), .int .i64 0]) := Lib.hid (by unfold cntV cntS; rw [if_pos hc])
  obtain ⟨a, cap, hv⟩ := h.slice
  rw [List.length_map] at hv
  obtain ⟨n, hn⟩ : ∃ n, n = l.length := ⟨_, rfl⟩
  rw [← hn] at hv
  subst hv
  have H := Lib.hid h
  have HM := Lib.hid hm
  clear h hm hc hx hn
  refine callsIn_of_wp_marks Tryd.func54 rfl trivial ?_ rfl
  simp only [Tryd.ntmps54, List.size_toArray, List.length_cons, List.length_nil, Nat.reduceAdd, Nat.reduceSub, Array.replicate_succ, Array.replicate_zero, List.push_toArray, List.append_toArray, List.nil_append, List.cons_append]
  gi_wp2
  refine ⟨trivial, (callsIn_wide.2 C.out).mono ?_⟩
  rintro e w1 ⟨rfl, hb1⟩
  gi_wp2
  refine ⟨trivial, (callsIn_wide.2 (each_any _ _ _ _)).mono ?_⟩
  rintro e w2 ⟨rfl, rfl⟩
  gi_wp2
  obtain ⟨W0, hW0⟩ : ∃ W0, W0 = ((w1.alloc (.cells #[.int .i64 0] 3)).alloc (.cells #[.slice a n cap] 43)) := ⟨_, rfl⟩
  rw [← hW0]
  obtain ⟨A, hA⟩ : ∃ A, w1.heap.size = A := ⟨_, rfl⟩
  have hsz : W0.heap.size = A + 2 := by rw [hW0, ← hA]; simp
  have hbel : Below A w1 W0 := by
    rw [hW0, ← hA]
    exact ((Below.refl _ w1).alloc (Nat.le_refl _) _).alloc (by simp only [World.size_alloc]; omega) _
  have ha0 : W0.heap[A]? = some (.cells #[.int .i64 0] 3 (0, 0)) := by
    rw [hW0, ← hA]; exact (Below.heap_alloc _ _ _ (by simp only [World.size_alloc]; omega)).trans (World.alloc_heap_new _ _)
  have ha1 : W0.heap[A + 1]? = some (.cells #[.slice a n cap] 43 (0, 0)) := by
    rw [hW0, ← hA]
    have := World.alloc_heap_new (w1.alloc (.cells #[.int .i64 0] 3)) (.cells #[.slice a n cap] 43); rwa [World.size_alloc] at this
  clear hW0
  have hAw : w.heap.size ≤ A := by rw [← hA]; exact hb1.size
  rw [hA]
  have hseq := each_at (5 - 1) A (A + 1) (.slice a n cap) l w1 W0 (by omega) hl (H.out.below hb1 (Nat.le_refl _)) (marks_below HM.out hb1 hg) (by omega) hA hbel (by omega) ha1
  refine wpIn_rangeB (by omega) rfl (enters_of Tryd.func73 (by kernel_rfl) rfl) hseq (Below.refl _ _) (fun k hk => by rcases hk with hk | rfl <;> omega) (fun _ => rfl) (CI A w1) (fun _ _ _ => False) (by rw [hsz]; exact ci_bears A w1) (fun c => by intro _ _ _ _ h; exact h.elim) ?_ (CAx A w1) (fun pre x => by rw [hsz]; exact cax_bears A w1 pre x) ?_ ?_ ?_ ?_
  · exact ⟨ha0, hbel⟩
  · intro l pre x W K hI hW hK
    rw [hsz] at hW hK
    simp only [encE]
    gi_wp2
    simp only [List.zip_toArray, List.zip_cons_cons, List.zip_nil_right, List.size_toArray, List.length_cons, List.length_nil, List.foldl_toArray', List.foldl_cons, List.foldl_nil, List.setIfInBounds_toArray, List.set_cons_succ, List.set_cons_zero]
    exact hK _ _ (KeepsB.refl _ _ _ _) ⟨hI, _, _, _, _, _, _, _, _, _, _, _, _, _, _, _, _, _, _, _, _, _, rfl⟩
  · intro l' pre x a' W hAx hW hlen
    rw [hsz] at hW
    obtain ⟨⟨r0, r1⟩, u0, u1, u2, u3, u4, u5, u7, u8, u9, u10, u11, u12, u13, u14, u15, u16, u17, u18, u19, u20, u21, rfl⟩ := hAx
    have hc0 : W.cell? ⟨A, 0, none⟩ = some (.int .i64 (pre.length : Int)) := by simp [World.cell?, r0]
    have hz0 : W.frozen? ⟨A, 0, none⟩ = false := by simp [World.frozen?, r0]
    have hb8 : pre.length ≤ 1000000000 := by
      have h1 := runs_len_le l
      have h2 : (eachS l).length = (runs l).1.length := eachF_len _ _
      omega
    rw [hsz]
    gi_wp2
    refine ⟨⟨(KeepsWalks.setCell W _ _).size, fun k hk => set_other _ (by rcases hk with (hk | hk) | hk <;> omega)⟩, ?_, ?_⟩
    · have := set_block (i := 0) (.int .i64 ((pre.length : Int) + 1)) r0
      rw [this]
      simp
    · exact r1.setCell (Nat.le_refl A) _
  · intro xs W hS hI hD
    rw [hsz] at hD
    subst hS
    obtain ⟨r0, r1⟩ := hI
    have hc0 : W.cell? ⟨A, 0, none⟩ = some (.int .i64 ((runs l).1.length : Int)) := by
      have : (eachS l).length = (runs l).1.length := eachF_len _ _
      simp [World.cell?, r0, this]
    rw [hsz]
    gi_wp2
    refine ⟨by simp, .inl ⟨_, _, rfl, run_takeDeferred hD, ?_⟩⟩
    refine ⟨.tuple #[.int .i64 ((runs l).1.length : Int), .int .i64 0], by simp [results, Tryd.results54, go_sem], ?_, ?_⟩
    · exact (congrArg Ending.returned HV.out).symm
    · exact hb1.trans ((r1.grown (grownBy_putObj' _ _ _) (Nat.le_of_lt (Array.getElem?_eq_some_iff.1 r0).1) (fun k e => by cases e; omega)).mono hAw)
  · intro c pre W _ h _; exact h.elim

theorem count_any (v : Value) (l : List UInt8) (w : World) (h : BytesAt w v l) (hl : l.length ≤ 1000000000) (hm : MarksTab w) (hg : 0 < w.heap.size) :
    Calls Tryd.prog 54 #[v] w fun e w' => e = .returned (cntV l) ∧ Below w.heap.size w w' := by
  by_cases hc : (chkS l).2 = 0
  · exact callsIn_wide.1 (count_yes v l w h hl hm hg hc)
  · exact count_no v l w h hl hm hg hc
end Go.Proofs.YtbajikkjkiacnaaDoor
