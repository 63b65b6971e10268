/- words.Lines. -/
import Derived.Test.YtnajkkbcfebegaaDoorLinesIt
import Derived.Test.YtnajkkbcfebegaaDoorSplit
import Derived.Test.YtnajkkbcfebegaaDoorAppIn
namespace Go.Proofs.YtnajkkbcfebegaaDoor
open Go.RowKit Go.Shelf Go.PlainAid

attribute [local go_sem] Oper.semAt_some

theorem ends_suffix (L : List UInt8) (h : L ≠ []) : Lib.hasSuffix L [10] = endsLn L := by
  unfold Lib.hasSuffix endsLn
  rw [Bool.eq_iff_iff, List.isSuffixOf_iff_suffix, Bool.or_eq_true, beq_iff_eq, List.isEmpty_iff]
  constructor
  · rintro ⟨t, rfl⟩; exact .inr (by simp)
  · rintro (h1 | h1)
    · exact absurd h1 h
    · rw [List.getLast?_eq_some_iff] at h1
      obtain ⟨t, ht⟩ := h1
      exact ⟨t, ht.symm⟩
theorem trim_ln (x : List UInt8) : (⟨(Lib.trimSuffix (str (x ++ [10])).data.toList [10]).toArray⟩ : ByteArray) = str x := by
  rw [str_list]
  unfold Lib.trimSuffix Lib.hasSuffix
  rw [if_pos (List.isSuffixOf_iff_suffix.2 ⟨x, rfl⟩)]
  simp [str]

/-- The list's cell, and all below, in the loop. -/
def LI (A : Nat) (w : World) (pre : List (List UInt8)) (W : World) : Prop :=
  Below A w W ∧ ∃ v, W.heap[A]? = some (.cells #[v] 69 (0, 0)) ∧ W.ownsRow (A + 4) 9 1 v pre.length (stc pre)
theorem li_bears (A : Nat) (w : World) : BearsO (fun k => k = A + 1 ∨ k = A + 2 ∨ k = A + 3) (LI A w) := by
  intro pre W W' row h hg hr
  obtain ⟨h1, v, h2, h3⟩ := h
  have hr' : ∀ r, row = some r → A < r ∧ r < A + 4 := fun r e => by rcases hr r e with h | h | h <;> omega
  refine ⟨h1.grown hg (Nat.le_of_lt (Array.getElem?_eq_some_iff.1 h2).1) (fun k e => by have := hr' _ e; omega), v, (hg.block A (Array.getElem?_eq_some_iff.1 h2).1 fun e => by have := hr' _ e.symm; omega).trans h2, h3.kept hg ?_⟩
  cases hv : v.ownBlock with
  | none => exact .inl rfl
  | some r => exact .inr fun e => by have h4 := hr' _ e.symm; have h5 := (h3.lt r hv).1; omega
/-- Within a round. -/
def LA (A : Nat) (s : ByteArray) (w : World) (pre : List (List UInt8)) (x : List UInt8) (a : Act) (W : World) : Prop :=
  LI A w pre W ∧ ∃ (u1 u2 u3 u6 u7 u8 u9 u10 u11 u12 u13 u14 u15 u16 u17 u18 u19 u20 u21 u22 u23 u24 u25 u26 u27 u28 : Value),
    a = { tmps := #[.string s, u1, u2, u3, .pointer (some ⟨A, 0, none⟩), .string (str (x ++ [10])), u6, u7, u8, u9, u10, u11, u12, u13, u14, u15, u16, u17, u18, u19, u20, u21, u22, u23, u24, u25, u26, u27, u28], defers := [] }
theorem la_bears (A : Nat) (s : ByteArray) (w : World) (pre : List (List UInt8)) (x : List UInt8) : BearsO (fun k => k = A + 1 ∨ k = A + 2 ∨ k = A + 3) (LA A s w pre x) := by
  intro a W W' row h hg hr
  exact ⟨li_bears A w pre W W' row h.1 hg hr, h.2⟩
theorem infoStr : (Tryd.prog.info? 9).map (fun i => (i.zero, i.size, i.bytes)) = some (some (.string ⟨#[]⟩), 1, 16) := by kernel_rfl

set_option maxRecDepth 50000 in
set_option maxHeartbeats 1600000 in
theorem lines_ok (s : ByteArray) (w : World) (hs : s.size ≤ 1048576) (he : endsLn s.data.toList = true) (hm : (lnF [] s.data.toList).length ≤ 5000) :
    CallsIn Fence.wide 5 Tryd.prog 49 #[.string s] w (LnV s.data.toList w) := by
  have HV : Hid (linesS s.data.toList = (lnF [] s.data.toList, 0)) := Lib.hid (linesS_ok (by rw [len_list]; omega) he (by omega))
  have HC : Hid (∀ W, Calls Tryd.prog 66 #[.string s, .string ⟨#[10]⟩] W fun e w' => e = .returned (.int .i64 ((lnF [] s.data.toList).length : Int)) ∧ w' = W) := Lib.hid fun W => by
    have h := Tryd.strings_Count_one s 10 W
    rw [show (Lib.countByte s.data.toList 10) = (lnF [] s.data.toList).length from (lnF_count _ _).symm] at h
    exact h
  have HS : Hid (s.size ≠ 0 → ∀ W, Calls Tryd.prog 65 #[.string s, .string ⟨#[10]⟩] W fun e w' => e = .returned (.bool true) ∧ w' = W) := Lib.hid fun h0 W => by
    have h := Tryd.strings_HasSuffix s ⟨#[10]⟩ W (by omega)
    rw [show Lib.hasSuffix s.data.toList (⟨#[10]⟩ : ByteArray).data.toList = true from (ends_suffix _ (fun e => h0 (by rw [← len_list, e]; rfl))).trans he] at h
    exact h
  obtain ⟨k, hk⟩ : ∃ k, (lnF [] s.data.toList).length = k := ⟨_, rfl⟩
  rw [hk] at HC hm
  have hd1 : decide ((1048576 : Int) < (s.size : Int)) = false := decide_eq_false (by omega)
  have hd2 : decide ((5000 : Int) < (k : Int)) = false := decide_eq_false (by omega)
  have HK := Lib.hid hk
  have HE := Lib.hid he
  clear hk he
  refine callsIn_of_wp_marks Tryd.func49 rfl trivial ?_ rfl
  simp only [Tryd.ntmps49, List.size_toArray, List.length_cons, List.length_nil, Nat.reduceAdd, Nat.reduceSub, Array.replicate_succ, Array.replicate_zero, List.push_toArray, List.append_toArray, List.nil_append, List.cons_append]
  have HB : Hid (s.size ≤ 1048576) := Lib.hid hs
  clear hs
  by_cases h0 : s.size = 0
  all_goals first
    | (have hem := empty_yes h0
       clear h0 HS
       gi_wp2
       refine ⟨trivial, ?_⟩
       gi_wp2
       refine ⟨trivial, (callsIn_wide.2 (HC.out _)).mono ?_⟩
       rintro e w2 ⟨rfl, rfl⟩
       gi_wp2
       refine ⟨trivial, (callsIn_wide.2 (slines_any s _)).mono ?_⟩
       rintro e w3 ⟨rfl, rfl⟩
       gi_wp2)
    | (have hem := empty_no (s := s) (by omega)
       have HS2 := Lib.hid (HS.out h0)
       clear h0 HS
       gi_wp2
       refine ⟨trivial, (callsIn_wide.2 (HS2.out _)).mono ?_⟩
       rintro e w1 ⟨rfl, rfl⟩
       gi_wp2
       refine ⟨trivial, (callsIn_wide.2 (HC.out _)).mono ?_⟩
       rintro e w2 ⟨rfl, rfl⟩
       gi_wp2
       refine ⟨trivial, (callsIn_wide.2 (slines_any s _)).mono ?_⟩
       rintro e w3 ⟨rfl, rfl⟩
       gi_wp2)
  all_goals
    obtain ⟨W0, hW0⟩ : ∃ W0, W0 = ((w2.alloc (.cells #[.slice none 0 0] 69)).alloc (.cells #[.string s] 9)) := ⟨_, rfl⟩
    rw [← hW0]
    have hsz : W0.heap.size = w2.heap.size + 2 := by rw [hW0]; simp
    have hbel : Below w2.heap.size w2 W0 := by
      rw [hW0]
      exact ((Below.refl _ w2).alloc (Nat.le_refl _) _).alloc (by simp only [World.size_alloc]; omega) _
    have ha0 : W0.heap[w2.heap.size]? = some (.cells #[.slice none 0 0] 69 (0, 0)) := by
      rw [hW0]
      exact (Below.heap_alloc _ _ _ (by simp only [World.size_alloc]; omega)).trans (World.alloc_heap_new _ _)
    have ha1 : W0.heap[w2.heap.size + 1]? = some (.cells #[.string s] 9 (0, 0)) := by
      rw [hW0]
      have := World.alloc_heap_new (w2.alloc (.cells #[.slice none 0 0] 69)) (.cells #[.string s] 9); rwa [World.size_alloc] at this
    clear hW0
    obtain ⟨A, hA⟩ : ∃ A, w2.heap.size = A := ⟨_, rfl⟩
    rw [hA] at hsz hbel ha0 ha1
    rw [hA]
    have hseq := lines_seq (A + 1) (fun k => k = A + 1) s (5 - 1) (by omega) (by have := HB.out; omega) HE.out W0 rfl (fun k hk => by omega) ha1
    refine wpIn_rangeO (by omega) rfl (enters_of Tryd.func87 (by kernel_rfl) rfl) hseq (Below.refl _ _) (fun k hk => by omega) (fun k hk => by omega) (fun _ => rfl) (LI A w2) (fun _ _ _ => False)
      (fun pre W W' row h hg hr => li_bears A w2 pre W W' row h hg (fun r e => by have := hr r e; omega)) (fun c pre W W' row h _ _ => h) ?_ (LA A s w2)
      (fun pre x a W W' row h hg hr => la_bears A s w2 pre x a W W' row h hg (fun r e => by have := hr r e; omega)) ?_ ?_ ?_ ?_
    · exact ⟨hbel, _, ha0, rfl, .inl ⟨rfl, rfl⟩⟩
    · intro l pre x W K hI hW hK
      gi_wp2
      exact hK _ _ (KeepsP.refl _ _) ⟨hI, _, _, _, _, _, _, _, _, _, _, _, _, _, _, _, _, _, _, _, _, _, _, _, _, _, _, rfl⟩
    · obtain ⟨i0, hi, hj0, hj1, hj2⟩ := info_parts2 infoStr
      intro l pre x a' W hLA hW hG
      have hxl : x.length ≤ 1048576 := by
        have h1 := lnF_mem s.data.toList [] x (hG.subset (List.mem_append_right _ (List.mem_singleton.2 rfl)))
        have h2 := HB.out
        rw [len_list] at h1
        simpa using Nat.le_trans h1 (by simpa using h2)
      have hlen : pre.length < (lnF [] s.data.toList).length := by
        have := hG.length_le
        rw [List.length_append] at this
        exact this
      clear hG
      obtain ⟨⟨hbW, v, hv, hown⟩, u1, u2, u3, u6, u7, u8, u9, u10, u11, u12, u13, u14, u15, u16, u17, u18, u19, u20, u21, u22, u23, u24, u25, u26, u27, u28, rfl⟩ := hLA
      rw [hsz] at hW
      have hc0 : W.cell? ⟨A, 0, none⟩ = some v := by simp [World.cell?, hv]
      have hz0 : W.frozen? ⟨A, 0, none⟩ = false := by simp [World.frozen?, hv]
      have C1 : Hid (∀ W', Calls Tryd.prog 69 #[.string (str (x ++ [10])), .string ⟨#[10]⟩] W' fun e w' => e = .returned (.string (str x)) ∧ w' = W') := Lib.hid fun W' => by
        have h := Tryd.strings_TrimSuffix (str (x ++ [10])) ⟨#[10]⟩ W' (by rw [str_size, List.length_append]; simp; omega)
        rw [show (⟨#[10]⟩ : ByteArray).data.toList = [10] from rfl, trim_ln] at h
        exact h
      have C2 : Hid (∀ W', Calls Tryd.prog 68 #[.string (str x)] W' fun e w' => e = .returned (.string (str x)) ∧ Below W'.heap.size W' w') := Lib.hid fun W' => clone_any (str x) W' (by rw [str_size]; omega)
      gi_wp2
      -- MARK4
      have hltA : A < W.heap.size := (Array.getElem?_eq_some_iff.1 hv).1
      have hcD : W.drew.cell? ⟨A, 0, none⟩ = some v := hc0
      have hpl : pre.length ≤ 5000 := by have := HK.out; omega
      clear hc0
      refine wpIn_region_any (by kernel_rfl) ?_
      change wpAnyIn _ _ _ _ _ _ _ _ _ (World.drew _)
      iterate 7
        all_goals first
          | (refine wpAnyIn_ready (rs := [0, 1]) (by decide +kernel) (by simp) ?_; refine AllReadyIn.cons rfl (fun K hK => ?_) (AllReadyIn.cons rfl (fun K hK => ?_) AllReadyIn.nil))
          | (refine wpAnyIn_ready (rs := [0, 2]) (by decide +kernel) (by simp) ?_; refine AllReadyIn.cons rfl (fun K hK => ?_) (AllReadyIn.cons rfl (fun K hK => ?_) AllReadyIn.nil))
          | (refine wpAnyIn_ready (rs := [0, 3]) (by decide +kernel) (by simp) ?_; refine AllReadyIn.cons rfl (fun K hK => ?_) (AllReadyIn.cons rfl (fun K hK => ?_) AllReadyIn.nil))
          | (refine wpAnyIn_ready (rs := [0, 4]) (by decide +kernel) (by simp) ?_; refine AllReadyIn.cons rfl (fun K hK => ?_) (AllReadyIn.cons rfl (fun K hK => ?_) AllReadyIn.nil))
          | (refine wpAnyIn_ready (rs := [0]) (by decide +kernel) (by simp) ?_; refine AllReadyIn.cons rfl (fun K hK => ?_) AllReadyIn.nil)
          | (refine wpAnyIn_ready (rs := [1]) (by decide +kernel) (by simp) ?_; refine AllReadyIn.cons rfl (fun K hK => ?_) AllReadyIn.nil)
          | (refine wpAnyIn_ready (rs := [2]) (by decide +kernel) (by simp) ?_; refine AllReadyIn.cons rfl (fun K hK => ?_) AllReadyIn.nil)
          | (refine wpAnyIn_ready (rs := [3]) (by decide +kernel) (by simp) ?_; refine AllReadyIn.cons rfl (fun K hK => ?_) AllReadyIn.nil)
          | (refine wpAnyIn_ready (rs := [4]) (by decide +kernel) (by simp) ?_; refine AllReadyIn.cons rfl (fun K hK => ?_) AllReadyIn.nil)
          | (refine wpAnyIn_ready (rs := [5]) (by decide +kernel) (by simp) ?_; refine AllReadyIn.cons rfl (fun K hK => ?_) AllReadyIn.nil)
          | (refine wpAnyIn_ready (rs := [6]) (by decide +kernel) (by simp) ?_; refine AllReadyIn.cons rfl (fun K hK => ?_) AllReadyIn.nil)
        all_goals first
          | (refine step_append_ownIn rfl _ _ 69 rfl (A + 4) 9 i0 (.string ⟨#[]⟩) 1 16 Tryd.underlying69 hi hj0 hj1 hj2 rfl (by decide) v pre.length (stc pre) rfl (hown5.alloc _) ⟨w5.heap.size, 0, none⟩ 1 1 [.string (str x)] rfl rfl (new_cells w5 [.string (str x)] _) (by simp [Value.oneCell']) (by unfold maxLen; omega) (by omega) (by rw [World.size_alloc]; omega) ?_; intro v' w7 hown7 hgrow7 _; refine hK _ _ ?_; clear hK K; obtain ⟨sa, sm, sc, rfl⟩ := own_slice hown7; have hv7 := (hgrow7.block A (by rw [World.size_alloc]; omega) (fun e => by have := (hown5.lt A e.symm).1; omega)).trans ((Below.heap_alloc _ _ _ hlt5).trans hv5); have hc7 : w7.cell? ⟨A, 0, none⟩ = some v := (by simp [World.cell?, hv7]); have hz7 : w7.frozen? ⟨A, 0, none⟩ = false := (by simp [World.frozen?, hv7]))
          | (go_simp; refine hK _ _ ?_; clear hK K)
          | (go_simp; refine ⟨trivial, (CallsIn.inRound l (callsIn_wide.2 (C1.out _))).mono ?_⟩; rintro e w' ⟨rfl, rfl⟩; refine hK _ _ ?_; clear hK K)
          | (go_simp; refine ⟨trivial, (CallsIn.inRound l (callsIn_wide.2 (C2.out _))).mono ?_⟩; rintro e w5 ⟨rfl, hb5⟩; refine hK _ _ ?_; clear hK K; have hv5 := (hb5.block A hltA).trans hv; have hlt5 : A < w5.heap.size := (Array.getElem?_eq_some_iff.1 hv5).1; have hbl5 : W.heap.size ≤ w5.heap.size := hb5.size; have hcE : w5.cell? ⟨A, 0, none⟩ = some v := (by simp [World.cell?, hv5]); have hcF : ∀ ob, (w5.alloc ob).cell? ⟨A, 0, none⟩ = some v := (fun ob => (cell_b (Below.heap_alloc _ _ _ hlt5)).trans hcE); have hown5 : w5.ownsRow (A + 4) 9 1 v pre.length (stc pre) := own_below (W := W.drew) hown hb5)
      all_goals
        refine wpAnyIn_done (by decide +kernel) ?_ _
        gi_wp2
        -- MARK5
        have hkk : ∀ k, k < A + 4 → w7.heap[k]? = W.heap[k]? := fun k hk =>
          (hgrow7.block k (by rw [World.size_alloc]; omega) (fun e => by have := (hown5.lt k e.symm).1; omega)).trans ((Below.heap_alloc _ _ _ (by omega)).trans (hb5.block k (by show k < W.heap.size; omega)))
        have hne : ∀ g, (Value.slice sa sm sc).ownBlock = some g → A + 4 ≤ g := fun g hg => (hown7.lt g hg).1
        refine ⟨⟨?_, fun k hk => ?_⟩, ?_, _, set_block _ hv7, ?_⟩
        · rw [World.size_setCell]; have := hgrow7.size; rw [World.size_alloc] at this; omega
        · rw [hsz] at hk
          have hk' : k ≠ A ∧ k < A + 4 := by omega
          exact (set_other _ hk'.1).trans (hkk k hk'.2)
        · have hAW : A ≤ w5.heap.size := by omega
          have hbb : Below W.heap.size W w5 := ⟨hb5.os, hb5.tape, hb5.output, hb5.size, hb5.block⟩
          have hB5 : Below A w2 w5 := hbW.trans (hbb.mono (by omega))
          exact ((hB5.alloc hAW _).grown hgrow7 (by rw [World.size_alloc]; omega) (fun k hk => by have := (hown5.lt k hk).1; omega)).setCell (Nat.le_refl A) _
        · have hw3 := hown7.kept (grown_set w7 A 0 (.slice sa sm sc)) (.inr fun e => by have := hne _ e; omega)
          rw [List.length_append, stc_app]
          exact hw3
    · intro xs W hS hI hD
      rw [hsz] at hD
      subst hS
      obtain ⟨hbW, v, hv, hown⟩ := hI
      have hc0 : W.cell? ⟨A, 0, none⟩ = some v := by simp [World.cell?, hv]
      obtain ⟨sa, sm, sc, rfl⟩ := own_slice hown
      rw [hsz]
      gi_wp2
      -- MARK6
      refine ⟨by simp, .inl ⟨_, _, rfl, run_takeDeferred hD, ?_⟩⟩
      refine ⟨.tuple #[.slice sa sm sc, .int .i64 0], by simp [results, Tryd.results49, go_sem], .slice sa sm sc, ?_, ?_, ?_⟩
      · rw [HV.out]
      · rw [HV.out]
        refine StrsAt.own (B := A + 4) (e := 9) ?_
        have hne : ∀ g, (Value.slice sa sm sc).ownBlock = some g → A + 4 ≤ g := fun g hg => (hown.lt g hg).1
        exact hown.kept (grownBy_putObj' _ (A + 2) _) (.inr fun e => by have := hne _ e; omega)
      · rw [hA]; exact hbW.grown (grownBy_putObj' _ _ _) (Nat.le_of_lt (Array.getElem?_eq_some_iff.1 hv).1) (fun k e => by cases e; omega)
    · intro c pre W _ h _
      exact h.elim

set_option maxRecDepth 50000 in
set_option maxHeartbeats 800000 in
theorem lines_any (s : ByteArray) (w : World) : Calls Tryd.prog 49 #[.string s] w (LnV s.data.toList w) := by
  by_cases h1 : 1048576 < s.size
  · have HV : Hid (linesS s.data.toList = ([], 3)) := Lib.hid (linesS_long (by rw [len_list]; exact h1))
    have hd1 : decide ((1048576 : Int) < (s.size : Int)) = true := decide_eq_true (by omega)
    go_enter Tryd.func49, Tryd.ntmps49
    go_wp2_with fail
    go_returns
    exact ⟨_, by rw [HV.out]; rfl, by rw [HV.out]; exact .inl ⟨rfl, rfl⟩, Below.refl _ _⟩
  · have hd1 : decide ((1048576 : Int) < (s.size : Int)) = false := decide_eq_false (by omega)
    cases he : endsLn s.data.toList with
    | false =>
      have HV : Hid (linesS s.data.toList = ([], 6)) := Lib.hid (linesS_form (by rw [len_list]; exact h1) he)
      have h0 : s.data.toList ≠ [] := fun e => by rw [e] at he; cases he
      have h0s : s.size ≠ 0 := fun e => h0 (List.eq_nil_of_length_eq_zero (by rw [len_list]; exact e))
      have HS : Hid (∀ W, Calls Tryd.prog 65 #[.string s, .string ⟨#[10]⟩] W fun e w' => e = .returned (.bool false) ∧ w' = W) := Lib.hid fun W => by
        have h := Tryd.strings_HasSuffix s ⟨#[10]⟩ W (by omega)
        rw [show Lib.hasSuffix s.data.toList (⟨#[10]⟩ : ByteArray).data.toList = false from (ends_suffix _ h0).trans he] at h
        exact h
      have hem := empty_no (s := s) (by omega)
      clear he h0 h0s h1
      go_enter Tryd.func49, Tryd.ntmps49
      go_wp2_with (go_at_call 65; refine (HS.out _).mono ?_; rintro e w1 ⟨rfl, rfl⟩)
      go_returns
      exact ⟨_, by rw [HV.out]; rfl, by rw [HV.out]; exact .inl ⟨rfl, rfl⟩, Below.refl _ _⟩
    | true =>
      by_cases hm : 5000 < (lnF [] s.data.toList).length
      · have HV : Hid (linesS s.data.toList = ([], 3)) := Lib.hid (linesS_many (by rw [len_list]; exact h1) he hm)
        have h0 : s.data.toList ≠ [] := fun e => by rw [e] at hm; simp [lnF] at hm
        have h0s : s.size ≠ 0 := fun e => h0 (List.eq_nil_of_length_eq_zero (by rw [len_list]; exact e))
        have HS : Hid (∀ W, Calls Tryd.prog 65 #[.string s, .string ⟨#[10]⟩] W fun e w' => e = .returned (.bool true) ∧ w' = W) := Lib.hid fun W => by
          have h := Tryd.strings_HasSuffix s ⟨#[10]⟩ W (by omega)
          rw [show Lib.hasSuffix s.data.toList (⟨#[10]⟩ : ByteArray).data.toList = true from (ends_suffix _ h0).trans he] at h
          exact h
        have HC : Hid (∀ W, Calls Tryd.prog 66 #[.string s, .string ⟨#[10]⟩] W fun e w' => e = .returned (.int .i64 ((lnF [] s.data.toList).length : Int)) ∧ w' = W) := Lib.hid fun W => by
          have h := Tryd.strings_Count_one s 10 W
          rw [show (Lib.countByte s.data.toList 10) = (lnF [] s.data.toList).length from (lnF_count _ _).symm] at h
          exact h
        obtain ⟨k, hk⟩ : ∃ k, (lnF [] s.data.toList).length = k := ⟨_, rfl⟩
        rw [hk] at HC hm
        have hd2 : decide ((5000 : Int) < (k : Int)) = true := decide_eq_true (by omega)
        have hem := empty_no (s := s) (by omega)
        clear hk he h0 h0s h1 hm
        go_enter Tryd.func49, Tryd.ntmps49
        go_wp2_with (first | (go_at_call 65; refine (HS.out _).mono ?_; rintro e w1 ⟨rfl, rfl⟩) | (go_at_call 66; refine (HC.out _).mono ?_; rintro e w1 ⟨rfl, rfl⟩))
        go_returns
        exact ⟨_, by rw [HV.out]; rfl, by rw [HV.out]; exact .inl ⟨rfl, rfl⟩, Below.refl _ _⟩
      · exact callsIn_wide.1 (lines_ok s w (by omega) he (by omega))
end Go.Proofs.YtnajkkbcfebegaaDoor
