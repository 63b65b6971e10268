/- The iterator over the fields of a line, behind its label "ended", and whole. -/
import Derived.Test.YtnajkkbcfebegaaGreatDoorFields
namespace Go.Proofs.YtnajkkbcfebegaaGreatDoor
open Go.RowKit Go.Shelf Go.PlainAid

attribute [local go_sem] Oper.semAt_some

variable (l Bs Bf : Nat) (P₀ : Nat → Prop) (s : ByteArray) (J : List Yld → World → Prop) (W : World)

set_option maxRecDepth 100000 in
set_option maxHeartbeats 4000000 in
theorem ended_wp (n : Nat) (hn : 1 ≤ n) (hs : s.size ≤ 1000000000) (hB0 : P₀ Bs) (Jx : List Yld → World → Prop) (hcW : W.cell? ⟨Bs, 0, none⟩ = some (.string s))
    (hY : ∀ pre x W1, J pre W1 → Bf + 1 ≤ W1.heap.size → pre.length < (fldsOf s.data.toList).length → YieldAt Fence.wide (n - 1) Tryz.prog l (encY x) W1 fun e W' =>
      (e = .returned (.bool true) ∧ J (pre ++ [x]) W' ∧ KeepsB P₀ Bf (Bf + 1) W1 W') ∨ (e = .returned (.bool false) ∧ Jx (pre ++ [x]) W'))
    (R : Ending → World → Prop) (a : Act) (W1 : World) (p q : Nat) (h : AtE l Bs Bf P₀ s J W a W1 p q)
    (hdone : ∀ W2, J (fldsOf s.data.toList) W2 → ∀ v, R (.returned v) W2) (hstop : ∀ pre W2, pre <+: fldsOf s.data.toList → Jx pre W2 → ∀ v, R (.returned v) W2) :
    cE.wpIn Fence.wide n Tryz.prog (jumps (fun k' a' w' => JL l Bs Bf P₀ s J W k' a' w' ∧ p ≤ q ∧ q < s.size ∧ μL s k' a' w' = 3 * (s.size - q) + 2) (bodyPost Tryz.prog Tryz.f53 R)) a W1 := by
  obtain ⟨pre, S, Q, ok, hJ1, hL, hp, hpq, hq, ⟨x2, x6, x7, x8, x9, x10, x11, x12, x13, x14, x15, x16, x17, x18, x19, x20, x21, x22, x23, x24, x25, x26, x27, x28, x29, x30, x31, x32, x33, x34, x35, x36, x37, x38, x39, x40, x41, x42, x43, x44, x45, x46, x47, x48, x49, x50, x51, x52, x53, x54, x55, x56, x57, x58, x59, x60, x61, x62, rfl⟩, ⟨hn1, hk1, t, hb1⟩, hfa⟩ := h
  have hc := (cell_b (o := 0) (hk1 Bs hB0)).trans hcW
  have hlt : Bf < W1.heap.size := (Array.getElem?_eq_some_iff.1 hb1).1
  have hf0 : W1.cell? ⟨Bf, 0, none⟩ = some (.string (str S)) := by simp [World.cell?, hb1]
  have hf1 : W1.cell? ⟨Bf, 1, none⟩ = some (.bool Q) := by simp [World.cell?, hb1]
  have hb := get_bt s
  have hlen : s.data.toList.length = s.size := len_list s
  by_cases hok : ok = true
  · subst hok
    rw [if_pos rfl] at hfa
    have hpq' : p ≤ q := hpq rfl
    clear hpq
    simp only [sR, cE, cQ, cN, cB, Tryz.f53]
    by_cases hsep : q < s.size ∧ ((bt s q) != 32) = true
    · obtain ⟨h1, h2⟩ := hsep
      have hB := left_bad hL (by omega) (.inr ⟨_, hfa, by rw [hlen]; exact h1, by
        rw [List.getElem?_eq_getElem (by rw [hlen]; exact h1)]
        intro he
        have he' := Option.some.inj he
        rw [bne_iff_ne] at h2
        apply h2
        rw [bt_get s q h1]; show ((s.data.toList[q].toNat : Nat) : Int) = 32
        rw [he']; rfl⟩)
      obtain ⟨fn, tmps, assign, body, hy, hR⟩ := hY pre bad W1 hJ1 hlt (by rw [hB]; simp)
      have hy' : (Instr.yield l #[.agg #[.string ⟨#[]⟩, .bool false], .bool false]).run Tryz.prog W1 = .ok (.round l fn tmps assign body) W1 := hy
      gi_wp2
      refine hR.mono ?_
      rintro e W3 (⟨rfl, hJ3, hk3⟩ | ⟨rfl, hJx3⟩)
      · gi_wp2
        refine bodyPost_ret (results_none rfl _ _ _) rfl ?_
        exact hdone _ (hB ▸ hJ3) _
      · gi_wp2
        refine bodyPost_ret (results_none rfl _ _ _) rfl ?_
        exact hstop _ _ (hB ▸ List.prefix_refl _) hJx3 _
    · have hsep2 : s.data.toList.length ≤ q ∨ s.data.toList[q]? = some 32 := by
        by_cases h1 : q < s.size
        · refine .inr ?_
          rw [List.getElem?_eq_getElem (by rw [hlen]; exact h1)]
          congr 1
          apply UInt8.toNat_inj.1
          have h2 : ¬ (((bt s q) != 32) = true) := fun h => hsep ⟨h1, h⟩
          rw [bne_iff_ne] at h2
          have h3 := bt_get s q h1
          have h4 : ((s.data.toList[q].toNat : Nat) : Int) = bt s q := h3.symm
          have h34 : (32 : UInt8).toNat = 32 := rfl
          omega
        · exact .inl (by omega)
      obtain ⟨rest, hr1, hr2, hr3⟩ := left_good hL (by omega) hfa hpq' hsep2
      obtain ⟨fn, tmps, assign, body, hy, hR⟩ := hY pre (S, Q, true) W1 hJ1 hlt (by rw [hr1]; simp)
      have hy' : (Instr.yield l #[.agg #[.string (str S), .bool Q], .bool true]).run Tryz.prog W1 = .ok (.round l fn tmps assign body) W1 := hy
      by_cases h1 : q < s.size
      · have h2 : ((bt s q) != 32) = false := by
          have h2 : ¬ (((bt s q) != 32) = true) := fun h => hsep ⟨h1, h⟩
          simpa using h2
        clear hsep
        gi_wp2
        refine hR.mono ?_
        rintro e W3 (⟨rfl, hJ3, hk3⟩ | ⟨rfl, hJx3⟩)
        · have hc3 := (cell_b (o := 0) (hk3.2 Bs (.inl hB0))).trans hc
          have hne : ((q : Int) == (s.size : Int)) = false := by rw [beq_eq_false_iff_ne]; omega
          gi_wp2
          apply wpIn_goto
          have e5 : (q : Int) + 1 = ((q + 1 : Nat) : Int) := by omega
          rw [e5]
          refine ⟨(show AtN l Bs Bf P₀ s J W _ W3 (q + 1) from ⟨pre ++ [(S, Q, true)], _, _, _, hJ3, hr3 (by omega), by omega, ⟨_, _, _, _, _, _, _, _, _, _, _, _, _, _, _, _, _, _, _, _, _, _, _, _, _, _, _, _, _, _, _, _, _, _, _, _, _, _, _, _, _, _, _, _, _, _, _, _, _, _, _, _, _, _, _, _, _, _, rfl⟩, fun k hk => Nat.lt_of_lt_of_le (hn1 k hk) hk3.1, fun k hk => (hk3.2 k (.inl hk)).trans (hk1 k hk), t, (hk3.2 Bf (.inr ⟨Nat.le_refl _, Nat.lt_succ_self _⟩)).trans hb1⟩), hpq', h1, ?_⟩
          show 3 * (s.size + 1 - (q + 1)) + 2 = _
          omega
        · gi_wp2
          refine bodyPost_ret (results_none rfl _ _ _) rfl ?_
          exact hstop _ _ (hr1 ▸ ⟨rest, by simp⟩) hJx3 _
      · obtain rfl : q = s.size := by omega
        clear hsep
        gi_wp2
        refine hR.mono ?_
        rintro e W3 (⟨rfl, hJ3, hk3⟩ | ⟨rfl, hJx3⟩)
        · have hc3 := (cell_b (o := 0) (hk3.2 Bs (.inl hB0))).trans hc
          gi_wp2
          refine bodyPost_ret (results_none rfl _ _ _) rfl ?_
          rw [hr2 (by omega)] at hr1
          exact hdone _ (hr1 ▸ hJ3) _
        · gi_wp2
          refine bodyPost_ret (results_none rfl _ _ _) rfl ?_
          exact hstop _ _ (hr1 ▸ ⟨rest, by simp⟩) hJx3 _
  · obtain rfl : ok = false := by cases ok <;> simp_all
    rw [if_neg (by simp)] at hfa
    have hB := left_bad hL (by omega) (.inl hfa)
    obtain ⟨fn, tmps, assign, body, hy, hR⟩ := hY pre bad W1 hJ1 hlt (by rw [hB]; simp)
    have hy' : (Instr.yield l #[.agg #[.string ⟨#[]⟩, .bool false], .bool false]).run Tryz.prog W1 = .ok (.round l fn tmps assign body) W1 := hy
    simp only [sR, cE, cQ, cN, cB, Tryz.f53]
    gi_wp2
    refine hR.mono ?_
    rintro e W3 (⟨rfl, hJ3, hk3⟩ | ⟨rfl, hJx3⟩)
    · gi_wp2
      refine bodyPost_ret (results_none rfl _ _ _) rfl ?_
      exact hdone _ (hB ▸ hJ3) _
    · gi_wp2
      refine bodyPost_ret (results_none rfl _ _ _) rfl ?_
      exact hstop _ _ (hB ▸ List.prefix_refl _) hJx3 _

theorem rest_of (J' : List Yld → World → Prop) (k : Nat) (a : Act) (w : World) (h : JL l Bs Bf P₀ s J' W k a w) :
    findLabel ((sL cB).seq ((sL (sR cB)).seq ((sL (sR (sR cB))).seq ((sL (sR (sR (sR cB)))).seq ((Code.label 1).seq cN))))) k = some (restC k) := by
  match k, h with
  | 0, _ => exact lab_0
  | 1, _ => exact lab_1
  | 2, _ => exact lab_2
theorem str_nil : str [] = ByteArray.empty := rfl

set_option maxRecDepth 100000 in
set_option maxHeartbeats 4000000 in
/-- The iterator's contract. -/
theorem fields_seq (n : Nat) (hn : 1 ≤ n) (hs : s.size ≤ 1000000000) (w : World) (hB0 : P₀ Bs) (hn₀ : ∀ k, P₀ k → k < w.heap.size) (hc : w.cell? ⟨Bs, 0, none⟩ = some (.string s)) (htab : EscTab w) (hw : P₀ 0) :
    SeqB n Tryz.prog 53 #[.pointer (some ⟨Bs, 0, none⟩)] encY P₀ 1 (fun ys => ys = fldsOf s.data.toList) (fun pre => pre <+: fldsOf s.data.toList) (fldsOf s.data.toList).length w := by
  intro l J Jx W hW hJ hJx hY h0
  have hcW : W.cell? ⟨Bs, 0, none⟩ = some (.string s) := (hW.cell (p := ⟨Bs, 0, none⟩) (hn₀ _ hB0)).trans hc
  have htW : EscTab W := esc_below htab hW (hn₀ _ hw)
  have hnW : ∀ k, P₀ k → k < W.heap.size := fun k hk => Nat.lt_of_lt_of_le (hn₀ k hk) hW.size
  have hdone : ∀ W2, J (fldsOf s.data.toList) W2 → ∀ v : Value, (fun (e : Ending) (W' : World) => (∃ v, e = .returned v) ∧ ((∃ xs, (xs = fldsOf s.data.toList) ∧ J xs W') ∨ (∃ pre, (pre <+: fldsOf s.data.toList) ∧ Jx pre W'))) (.returned v) W2 :=
    fun W2 h v => ⟨⟨_, rfl⟩, .inl ⟨_, rfl, h⟩⟩
  have hstop : ∀ pre W2, pre <+: fldsOf s.data.toList → Jx pre W2 → ∀ v : Value, (fun (e : Ending) (W' : World) => (∃ v, e = .returned v) ∧ ((∃ xs, (xs = fldsOf s.data.toList) ∧ J xs W') ∨ (∃ pre, (pre <+: fldsOf s.data.toList) ∧ Jx pre W'))) (.returned v) W2 :=
    fun pre W2 hp h v => ⟨⟨_, rfl⟩, .inr ⟨_, hp, h⟩⟩
  refine callsIn_of_wp Tryz.func53 body_is trivial ?_ rfl
  generalize hR : (fun (e : Ending) (W' : World) => (∃ v, e = .returned v) ∧ ((∃ xs, (xs = fldsOf s.data.toList) ∧ J xs W') ∨ (∃ pre, (pre <+: fldsOf s.data.toList) ∧ Jx pre W'))) = R at hdone hstop ⊢
  clear hR
  have hE : ∀ (a : Act) (W1 : World) (p q : Nat), AtE l Bs W.heap.size P₀ s J W a W1 p q → cE.wpIn Fence.wide n Tryz.prog (jumps (fun k' a' w' => JL l Bs W.heap.size P₀ s J W k' a' w' ∧ p ≤ q ∧ q < s.size ∧ μL s k' a' w' = 3 * (s.size - q) + 2) (bodyPost Tryz.prog Tryz.f53 R)) a W1 :=
    fun a W1 p q h => ended_wp l Bs W.heap.size P₀ s J W n hn hs hB0 Jx hcW hY R a W1 p q h hdone hstop
  refine wpIn_scope_labels restC (JL l Bs W.heap.size P₀ s J W) (μL s) (fun k a w h => rest_of l Bs W.heap.size P₀ s W J k a w h) ?_ ?_
  · simp only [List.size_toArray, List.length_cons, List.length_nil, Nat.reduceAdd, Nat.reduceSub, Array.replicate_succ, Array.replicate_zero, List.push_toArray, List.append_toArray, List.nil_append, List.cons_append, sL, sR, cB, Tryz.f53]
    have hBW : Bs < W.heap.size := hnW _ hB0
    have hBW' : Bs ≠ W.heap.size := by omega
    by_cases h0s : s.size = 0
    · have he := empty_yes h0s
      gi_wp2
      refine bodyPost_ret (results_none rfl _ _ _) rfl ?_
      have hnil : fldsOf s.data.toList = [] := by
        unfold fldsOf; rw [if_pos (List.eq_nil_of_length_eq_zero (by rw [len_list]; exact h0s))]
      exact hdone _ (by rw [hnil]; exact bears_own hJ h0 (World.grownBy_alloc W _ _)) _
    · have he := empty_no (s := s) (by omega)
      gi_wp2
      apply wpIn_label
      gi_wp2
      refine wpIn_mono (next_wp l Bs W.heap.size P₀ s J W n hs hnW hB0 hJ hcW (bodyPost Tryz.prog Tryz.f53 R) _ _ 0 ⟨[], _, _, _, bears_own hJ h0 (World.grownBy_alloc W _ _), left_start (fun e => h0s (by rw [← len_list, e]; rfl)), Nat.zero_le _, ⟨_, _, _, _, _, _, _, _, _, _, _, _, _, _, _, _, _, _, _, _, _, _, _, _, _, _, _, _, _, _, _, _, _, _, _, _, _, _, _, _, _, _, _, _, _, _, _, _, _, _, _, _, _, _, _, _, _, _, rfl⟩, fun k hk => by have := hnW k hk; simp; omega, fun k hk => Below.heap_alloc _ _ _ (hnW k hk), _, World.alloc_heap_new _ _⟩) ?_
      rintro e a3 w3 hq
      cases e <;> try exact hq
      exact hq.1
  · intro k a w h
    match k, h with
    | 0, h =>
      show (Code.seq .skip cQ).wpIn Fence.wide n Tryz.prog _ a w
      gi_wp2
      refine quoted_wp l Bs W.heap.size P₀ s J W n hs hnW hB0 hJ hcW htW hw _ a w _ h fun a' W2 q hA => wpIn_mono (hE a' W2 _ q hA) ?_
      rintro e a3 w3 hq
      cases e <;> try exact hq
      obtain ⟨h1, h2, h3, h4⟩ := hq
      exact ⟨h1, by rw [h4]; show _ < 3 * (s.size + 1 - at5 a) + 1; omega⟩
    | 1, h =>
      show (Code.seq .skip cN).wpIn Fence.wide n Tryz.prog _ a w
      gi_wp2
      exact next_wp l Bs W.heap.size P₀ s J W n hs hnW hB0 hJ hcW _ a w _ h
    | 2, h =>
      obtain ⟨p, h⟩ := h
      show (Code.seq .skip cE).wpIn Fence.wide n Tryz.prog _ a w
      gi_wp2
      refine wpIn_mono (hE a w p _ h) ?_
      rintro e a3 w3 hq
      cases e <;> try exact hq
      obtain ⟨h1, h2, h3, h4⟩ := hq
      exact ⟨h1, by rw [h4]; show _ < 3 * (s.size + 1 - at5 a) + 0; omega⟩
end Go.Proofs.YtnajkkbcfebegaaGreatDoor
