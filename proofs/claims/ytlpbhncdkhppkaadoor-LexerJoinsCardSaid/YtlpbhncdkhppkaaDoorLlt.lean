/- The law LexerTotal. -/
import Derived.Test.YtlpbhncdkhppkaaDoorLnx
import Derived.Test.YtlpbhncdkhppkaaDoorLx
import Derived.Test.YtlpbhncdkhppkaaDoorLlw
namespace Go.Proofs.YtlpbhncdkhppkaaDoor
open Go.RowKit Go.PlainAid

theorem lexS_small {l : List UInt8} (h : l.length ≤ 8000) : lexS l = lexO 0 l := by unfold lexS; rw [if_neg (by omega)]
/-- A fault of a small text: where, what stands before, what Next says. -/
theorem fault_of {l : List UInt8} (h : l.length ≤ 8000) (he : (lexS l).2.2 ≠ 0) : ∃ (m q : Nat) (e : Int), m < q ∧ q ≤ l.length ∧ (e = 6 ∨ e = 7 ∨ e = 3) ∧ lexS l = ([], ((m : Int), (q : Int)), e) ∧ (∃ toks, lexS (l.take m) = (toks, (0, 0), 0)) ∧
    nxV m (l.drop m) = .tuple #[tokA (0, 0, 0, 0, []), .agg #[.int .i64 (m : Int), .int .i64 (q : Int)], .int .i64 e] := by
  rw [lexS_small h] at he ⊢
  obtain ⟨m, h1, h2, h3, h4, h5⟩ := lex_fault _ 0 l (Nat.le_refl _) he
  rw [Nat.zero_add, Nat.zero_add] at h4
  have hp := tokN_pos (l.drop m)
  have hl := tokN_le h1
  rw [List.length_drop] at hl
  have hm : m < l.length := by
    rcases Nat.lt_or_ge m l.length with h | h
    · exact h
    · exact absurd (List.drop_of_length_le h) h1
  obtain ⟨e, he1, he2⟩ : ∃ e, (e = 6 ∨ e = 7 ∨ e = 3) ∧ tokT (l.drop m) = (0, 0, [], e) := by
    rcases tokT_e (l.drop m) with h | ⟨e, h, h'⟩
    · exact absurd h h3
    · exact ⟨e, h, h'⟩
  have hf : firstS m (l.drop m) = ((0, (m : Int), ((m + tokN (l.drop m) : Nat) : Int), 0, []), e) := by
    have hd : (l.drop m).drop (spN (l.drop m)) = l.drop m := by rw [h2, List.drop_zero]
    rw [firstS_pos (by rw [hd]; exact h1), hd, h2, he2, Nat.zero_add, Nat.add_zero]
  refine ⟨m, m + tokN (l.drop m), e, by omega, by omega, he1, by rw [h4, he2], ⟨(lexO 0 (l.take m)).1, ?_⟩, ?_⟩
  · rw [lexS_small (by rw [List.length_take]; omega)]; exact lexO_e 0 _ h5
  · unfold nxV
    rw [hf, if_neg (by simp only; omega)]
theorem arg_form {w : World} {v : Value} {l : List UInt8} (h : ArgAt w v (l.map bc)) : ∃ a n c, v = .slice a n c ∧ l.length = n ∧ n ≤ c ∧ BytesAt w (.slice a n c) l := by
  have hr := h.row
  obtain ⟨a, n, c, rfl, hn, hc, _⟩ := h
  exact ⟨a, n, c, rfl, by rw [hn, List.length_map], hc, hr⟩
set_option maxRecDepth 100000 in
set_option maxHeartbeats 6400000 in
theorem lawT_any (v : Value) (l : List UInt8) (w : World) (h : ArgAt w v (l.map bc)) (T : PTabs w) :
    Calls Tryd.prog 10 #[v] w fun e w' => e = .returned (.bool true) ∧ Below w.heap.size w w' := by
  obtain ⟨a, n, c, rfl, hn, hcap, hB⟩ := arg_form h
  have CAw := Lib.hid (fun W (hW : Below w.heap.size w W) => awake_any W (T.below hW))
  by_cases h3 : 300 < n
  · have d1 : decide ((300 : Int) < (n : Int)) = true := decide_eq_true (by omega)
    clear h hB T hn h3
    go_enter Tryd.func10, Tryd.ntmps10
    go_wp2_with fail
    refine (CAw.out w (Below.refl _ _)).mono ?_
    rintro e w1 ⟨rfl, hb1⟩
    go_wp2_with fail
    go_ret
    exact ⟨rfl, hb1⟩
  have d1 : decide ((300 : Int) < (n : Int)) = false := decide_eq_false (by omega)
  by_cases he : (lexS l).2.2 = 0
  · have hr : ∃ toks, lexS l = (toks, (0, 0), 0) := by
      rw [lexS_small (by omega)] at he ⊢
      exact ⟨_, lexO_e 0 _ he⟩
    obtain ⟨toks, hr⟩ := hr
    have CL := Lib.hid (Lex_at hr _ rfl a n c w hB hcap (by omega) hn T.lt)
    clear h hB T hn he hr
    go_enter Tryd.func10, Tryd.ntmps10
    go_wp2_with fail
    refine CL.out.mono ?_
    rintro e w1 ⟨v1, cv1, rfl, _, hb1⟩
    have hB1 := hb1.alloc hb1.size (.cells #[.int .i64 0, .int .i64 0] 27)
    go_wp2_with fail
    -- MARK1
    refine (CAw.out _ hB1).mono ?_
    rintro e w2 ⟨rfl, hb2⟩
    go_wp2_with fail
    go_ret
    exact ⟨rfl, below_step hB1 hb2⟩
  · obtain ⟨m, q, e, hmq, hq, he3, hr, ⟨toks, hr2⟩, hnx⟩ := fault_of (by omega) he
    have CL := Lib.hid (Lex_at hr 0 rfl a n c w hB hcap (by omega) hn T.lt)
    have CL2 := Lib.hid (fun W (hW : Below w.heap.size w W) => Lex_at hr2 _ rfl a m c W (take_at (RowAt.below hB hW (Nat.le_refl _)) (by omega)) (by omega) (by omega) (by rw [List.length_take]; omega) (T.below hW).lt)
    have CN : Hid (∀ W, Below w.heap.size w W → Calls Tryd.prog 17 #[.slice a n c, .int .i64 (m : Int)] W fun e' w' => e' = .returned (.tuple #[tokA (0, 0, 0, 0, []), .agg #[.int .i64 (m : Int), .int .i64 (q : Int)], .int .i64 e]) ∧ Below W.heap.size W w') := Lib.hid fun W hW => by
      have := Next_in a n c l m W (RowAt.below hB hW (Nat.le_refl _)) hcap (by omega) (by omega) hn (T.below hW).lt
      rw [hnx] at this; exact this
    unfold tokA tokC at CN
    simp only at CN
    have g0 : (e == 0) = false := beq_eq_false_iff_ne.2 (by omega)
    have g1 : decide ((m : Int) < 0) = false := decide_eq_false (by omega)
    have g2 : decide ((q : Int) ≤ (m : Int)) = false := decide_eq_false (by omega)
    have g3 : decide ((n : Int) < (q : Int)) = false := decide_eq_false (by omega)
    have hm0 : (0 : Int) ≤ (m : Int) := Int.natCast_nonneg _
    have hmc : (m : Int) ≤ (c : Int) := by omega
    have hor : (e != 6) = false ∨ ((e != 6) = true ∧ (e != 7) = false) ∨ ((e != 6) = true ∧ (e != 7) = true ∧ (e != 3) = false) := by
      rcases he3 with rfl | rfl | rfl
      · exact .inl rfl
      · exact .inr (.inl ⟨rfl, rfl⟩)
      · exact .inr (.inr ⟨rfl, rfl, rfl⟩)
    have g4 : ¬ q ≤ m := by omega
    have g5 : ¬ n < q := by omega
    have g6 : q ≤ n := by omega
    clear h hB T hn he hr hr2 hnx he3 h3 hq
    rcases hor with e6 | ⟨e6, e7⟩ | ⟨e6, e7, e3⟩
    all_goals
      go_enter Tryd.func10, Tryd.ntmps10
      go_wp2_with fail
      refine CL.out.mono ?_
      rintro e' w1 ⟨v1, cv1, rfl, _, hb1⟩
      obtain ⟨W2, hW2⟩ : ∃ W2, W2 = w1.alloc (.cells #[.int .i64 (m : Int), .int .i64 (q : Int)] 27) := ⟨_, rfl⟩
      have hB2 : Below w.heap.size w W2 := by rw [hW2]; exact hb1.alloc hb1.size _
      have x2 : W2.heap[w1.heap.size]? = some (.cells #[.int .i64 (m : Int), .int .i64 (q : Int)] 27 (0, 0)) := by rw [hW2]; exact World.alloc_heap_new _ _
      have HX2 := Lib.hid x2
      clear x2
      go_wp2_with fail
      -- MARK2
      rw [← hW2]
      clear hW2
      refine (CL2.out W2 hB2).mono ?_
      rintro e' w3 ⟨v3, cv3, rfl, _, hb3⟩
      have hB3 := below_step hB2 hb3
      have hlt2 := (Array.getElem?_eq_some_iff.1 HX2.out).1
      have hlt3 := Nat.lt_of_lt_of_le hlt2 hb3.size
      have x3 := (hb3.block _ hlt2).trans HX2.out
      obtain ⟨c0, c1⟩ := box2_facts x3
      have hB4 := hB3.alloc hB3.size (.cells #[.int .i64 0, .int .i64 0] 27)
      have x4 := (Below.heap_alloc w3 (.cells #[.int .i64 0, .int .i64 0] 27) _ hlt3).trans x3
      have HX4 := Lib.hid x4
      clear x3 x4
      go_wp2_with fail
      -- MARK3
      refine (CN.out _ hB4).mono ?_
      rintro e' w5 ⟨rfl, hb5⟩
      have hB5 := below_step hB4 hb5
      have hlt4 := (Array.getElem?_eq_some_iff.1 HX4.out).1
      have x5 := (hb5.block _ hlt4).trans HX4.out
      have hlt5 := (Array.getElem?_eq_some_iff.1 x5).1
      have x6 := (Below.heap_alloc w5 (.cells #[.int .i64 0, .int .i64 0, .int .i64 0, .int .i64 0, .string (str [])] 33) _ hlt5).trans x5
      have x7 := (Below.heap_alloc (w5.alloc (.cells #[.int .i64 0, .int .i64 0, .int .i64 0, .int .i64 0, .string (str [])] 33)) (.cells #[.int .i64 (m : Int), .int .i64 (q : Int)] 27) _ (by simp only [World.size_alloc]; omega)).trans x6
      obtain ⟨c0, c1⟩ := box2_facts x7
      clear x5 x6 x7
      go_wp2_with fail
      -- MARK4
      refine (CAw.out _ ((hB5.alloc hB5.size _).alloc (by simp only [World.size_alloc]; have := hB5.size; omega) _)).mono ?_
      rintro e' w6 ⟨rfl, hb6⟩
      go_wp2_with fail
      -- MARK5
      go_ret
      exact ⟨rfl, below_step ((hB5.alloc hB5.size _).alloc (by simp only [World.size_alloc]; have := hB5.size; omega) _) hb6⟩

end Go.Proofs.YtlpbhncdkhppkaaDoor
