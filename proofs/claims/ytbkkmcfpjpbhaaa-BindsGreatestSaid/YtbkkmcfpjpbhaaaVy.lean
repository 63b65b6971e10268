/- The law's own functions: far, set, sub, Example, awake. -/
import Derived.Test.YtbkkmcfpjpbhaaaVx
import Derived.Test.YtbkkmcfpjpbhaaaSro
namespace Go.Proofs.Ytbkkmcfpjpbhaaa
open Go.RowKit Go.PlainAid

/-- Is this more than is looked at? -/
def farB (T : List Bd) (l : List (List UInt8)) : Bool :=
  decide (60 < T.length ∧ T.length ≤ 1000 ∨ 1005 < T.length) || (T.any fun x => decide (150 < x.n.length) || decide (150 < x.s.length)) || (l.any fun x => decide (150 < x.length))
theorem far_no {T : List Bd} {l : List (List UInt8)} (h : farB T l = false) : (T.length ≤ 60 ∨ 1000 < T.length) ∧ T.length ≤ 1005 ∧ (∀ x ∈ T, x.n.length ≤ 150 ∧ x.s.length ≤ 150) ∧ ∀ x ∈ l, x.length ≤ 150 := by
  unfold farB at h
  rw [Bool.or_eq_false_iff, Bool.or_eq_false_iff] at h
  obtain ⟨⟨h1, h2⟩, h3⟩ := h
  have h1 := of_decide_eq_false h1
  rw [List.any_eq_false] at h2 h3
  refine ⟨by omega, by omega, fun x hx => ?_, fun x hx => ?_⟩
  · have := h2 x hx
    simp at this; omega
  · have := h3 x hx
    simp at this; omega
theorem far_1 {T : List Bd} {l : List (List UInt8)} (h : 60 < T.length ∧ T.length ≤ 1000 ∨ 1005 < T.length) : farB T l = true := by unfold farB; rw [decide_eq_true h]; rfl
theorem far_2 {T : List Bd} {l : List (List UInt8)} {x : Bd} (hx : x ∈ T) (h : 150 < x.n.length ∨ 150 < x.s.length) : farB T l = true := by
  unfold farB
  have : (T.any fun x => decide (150 < x.n.length) || decide (150 < x.s.length)) = true := List.any_eq_true.2 ⟨x, hx, by simpa using h⟩
  rw [this, Bool.or_true]; rfl
theorem far_3 {T : List Bd} {l : List (List UInt8)} {x : List UInt8} (hx : x ∈ l) (h : 150 < x.length) : farB T l = true := by
  unfold farB
  have : (l.any fun x => decide (150 < x.length)) = true := List.any_eq_true.2 ⟨x, hx, by simpa using h⟩
  rw [this, Bool.or_true]
theorem far_0 {T : List Bd} {l : List (List UInt8)} (h1 : ¬ (60 < T.length ∧ T.length ≤ 1000 ∨ 1005 < T.length)) (h2 : ∀ x ∈ T, ¬ (150 < x.n.length ∨ 150 < x.s.length)) (h3 : ∀ x ∈ l, ¬ 150 < x.length) : farB T l = false := by
  unfold farB
  rw [decide_eq_false h1]
  have e2 : (T.any fun x => decide (150 < x.n.length) || decide (150 < x.s.length)) = false := List.any_eq_false.2 fun x hx => by simpa using h2 x hx
  have e3 : (l.any fun x => decide (150 < x.length)) = false := List.any_eq_false.2 fun x hx => by simpa using h3 x hx
  rw [e2, e3]; rfl
set_option maxRecDepth 100000 in
set_option maxHeartbeats 3200000 in
theorem far_any (v v2 : Value) (T : List Bd) (l : List (List UInt8)) (w : World) (h : BsAt w v T) (h2 : SsAt w v2 l) (hl : l.length ≤ 1000) :
    Calls Try.prog 10 #[v, v2] w fun e w' => e = .returned (.bool (farB T l)) ∧ Below w.heap.size w w' := by
  have HV := Lib.hid (fun W (hW : Below w.heap.size w W) => h.below hW (Nat.le_refl _))
  have HV2 := Lib.hid (fun W (hW : Below w.heap.size w W) => h2.below hW (Nat.le_refl _))
  obtain ⟨a, c, rfl, hc⟩ := h.slice
  obtain ⟨a2, n2, c2, rfl, hn2, -⟩ := h2
  have HN2 := Lib.hid hn2
  obtain ⟨m, hm⟩ : ∃ m, T.length = m := ⟨_, rfl⟩
  have HN := Lib.hid hm
  have H1 : Hid (60 < m ∧ m ≤ 1000 ∨ 1005 < m → farB T l = true) := Lib.hid (by rw [← hm]; exact far_1)
  have H2 := Lib.hid (fun x (hx : x ∈ T) => far_2 (T := T) (l := l) hx)
  have H3 := Lib.hid (fun x (hx : x ∈ l) => far_3 (T := T) (l := l) hx)
  have H0 : Hid (¬ (60 < m ∧ m ≤ 1000 ∨ 1005 < m) → (∀ x ∈ T, ¬ (150 < x.n.length ∨ 150 < x.s.length)) → (∀ x ∈ l, ¬ 150 < x.length) → farB T l = false) := Lib.hid (by rw [← hm]; exact far_0)
  obtain ⟨F, hF⟩ : ∃ F, farB T l = F := ⟨_, rfl⟩
  rw [hF] at H1 H2 H3 H0 ⊢
  rw [hm] at HV hc ⊢
  have hn9 : n2 ≤ 1000 := by omega
  clear h hm hn2 hF hl
  by_cases p1 : 60 < m ∧ m ≤ 1000
  · have HR := Lib.hid (H1.out (.inl p1))
    have d1 : decide ((60 : Int) < (m : Int)) = true := decide_eq_true (by omega)
    have d2 : decide ((m : Int) ≤ (1000 : Int)) = true := decide_eq_true (by omega)
    have d3 : 60 < m := p1.1
    have d4 : m ≤ 1000 := p1.2
    clear p1
    go_enter Try.func10, Try.ntmps10
    go_wp2_with fail
    go_ret
    exact ⟨ret_bool HR.out.symm, Below.refl _ _⟩
  by_cases p2 : 1005 < m
  · have HR := Lib.hid (H1.out (.inr p2))
    have d1 : decide ((60 : Int) < (m : Int)) = true := decide_eq_true (by omega)
    have d2 : decide ((m : Int) ≤ (1000 : Int)) = false := decide_eq_false (by omega)
    have d3 : 60 < m := by omega
    have d4 : ¬ m ≤ 1000 := by omega
    have d5 : decide ((1005 : Int) < (m : Int)) = true := decide_eq_true (by omega)
    clear p1
    go_enter Try.func10, Try.ntmps10
    go_wp2_with fail
    go_ret
    exact ⟨ret_bool HR.out.symm, Below.refl _ _⟩
  have d5 : decide ((1005 : Int) < (m : Int)) = false := decide_eq_false (by omega)
  have HNo : Hid (¬ (60 < m ∧ m ≤ 1000 ∨ 1005 < m)) := Lib.hid (by omega)
  have hm9 : m ≤ 1005 := by omega
  have d7 : ¬ (1005 < m) := p2
  by_cases q : 60 < m
  · have d1 : decide ((60 : Int) < (m : Int)) = true := decide_eq_true (by omega)
    have d2 : decide ((m : Int) ≤ (1000 : Int)) = false := decide_eq_false (by omega)
    have d4 : ¬ m ≤ 1000 := by omega
    clear p1 p2
    go_enter Try.func10, Try.ntmps10
    go_wp2_with fail
    -- MARK1
    go_loopw [4, 5] (fun x4 x5 wr => ∃ k : Nat, x4 = .bool false ∧ x5 = .int .i64 (k : Int) ∧ k ≤ m ∧ Hid (∀ j x, j < k → T[j]? = some x → ¬ (150 < x.n.length ∨ 150 < x.s.length)) ∧ Below w.heap.size w wr) (fun _ x5 _ => m - (intOf x5).toNat)
    case atStart => exact ⟨0, rfl, rfl, Nat.zero_le _, Lib.hid (fun j x hj => absurd hj (Nat.not_lt_zero _)), Below.refl _ _⟩
    case round =>
      obtain ⟨k, rfl, rfl, hk, HK, hb⟩ := hrel
      have hk0 : (0 : Int) ≤ (k : Int) := Int.natCast_nonneg _
      by_cases hlt : k < m
      · obtain ⟨x, hx⟩ : ∃ x, T[k]? = some x := ⟨_, List.getElem?_eq_getElem (by rw [HN.out]; exact hlt)⟩
        obtain ⟨g, off, rfl, hg, c0, c1, _, _⟩ := (HV.out wr hb).node hx
        have H2x := Lib.hid (H2.out x (List.mem_of_getElem? hx))
        have HX := Lib.hid hx
        have hk1 : (k : Int) < (m : Int) := by omega
        have z0 := str_size x.n
        have z1 := str_size x.s
        obtain ⟨X, hX⟩ : ∃ X, str x.n = X := ⟨_, rfl⟩
        obtain ⟨Y, hY⟩ : ∃ Y, str x.s = Y := ⟨_, rfl⟩
        rw [hX] at c0 z0
        rw [hY] at c1 z1
        clear hx hX hY
        by_cases q0 : 150 < x.n.length
        · have HR := Lib.hid (H2x.out (.inl q0))
          have t0 : decide ((150 : Int) < (X.size : Int)) = true := decide_eq_true (by omega)
          have t1 : 150 < X.size := by omega
          clear z0 z1 q0
          go_wp2_with fail
          go_ret
          exact ⟨ret_bool HR.out.symm, hb⟩
        · have t0 : decide ((150 : Int) < (X.size : Int)) = false := decide_eq_false (by omega)
          have t1 : ¬ 150 < X.size := by omega
          by_cases q1 : 150 < x.s.length
          · have HR := Lib.hid (H2x.out (.inr q1))
            have t2 : decide ((150 : Int) < (Y.size : Int)) = true := decide_eq_true (by omega)
            have t3 : 150 < Y.size := by omega
            clear z0 z1 q1 q0
            go_wp2_with fail
            go_ret
            exact ⟨ret_bool HR.out.symm, hb⟩
          · have t2 : decide ((150 : Int) < (Y.size : Int)) = false := decide_eq_false (by omega)
            have t3 : ¬ 150 < Y.size := by omega
            have HK2 : Hid (∀ j y, j < k + 1 → T[j]? = some y → ¬ (150 < y.n.length ∨ 150 < y.s.length)) := Lib.hid (fun j y hj hy => by
              by_cases e : j = k
              · rw [e, HX.out] at hy; rw [← Option.some.inj hy]; rintro (h | h); exact q0 h; exact q1 h
              · exact HK.out j y (by omega) hy)
            clear z0 z1 q1 q0
            go_wp2_with fail
            exact ⟨⟨k + 1, rfl, by go_num, by omega, HK2, hb⟩, by simp [intOf]; omega⟩
      · obtain rfl : k = m := by omega
        have HA : Hid (∀ x ∈ T, ¬ (150 < x.n.length ∨ 150 < x.s.length)) := Lib.hid (fun x hx => by
          obtain ⟨i, hi⟩ := List.mem_iff_getElem?.1 hx
          exact HK.out i x (by have := (List.getElem?_eq_some_iff.1 hi).1; have := HN.out; omega) hi)
        go_wp2_with fail
        -- MARK2
        go_loopw [4, 6] (fun x4 x6 wr => ∃ i : Nat, x4 = .bool false ∧ x6 = .int .i64 (i : Int) ∧ i ≤ n2 ∧ Hid (∀ j x, j < i → l[j]? = some x → ¬ 150 < x.length) ∧ Below w.heap.size w wr) (fun _ x6 _ => n2 - (intOf x6).toNat)
        case atStart => exact ⟨0, rfl, rfl, Nat.zero_le _, Lib.hid (fun j x hj => absurd hj (Nat.not_lt_zero _)), hb⟩
        case round =>
          obtain ⟨i, rfl, rfl, hi, HI, hb⟩ := hrel
          have hi0 : (0 : Int) ≤ (i : Int) := Int.natCast_nonneg _
          by_cases hlt2 : i < n2
          · obtain ⟨x, hx⟩ : ∃ x, l[i]? = some x := ⟨_, List.getElem?_eq_getElem (by rw [← HN2.out]; exact hlt2)⟩
            obtain ⟨a', n', c', e', hn', h3⟩ := HV2.out wr hb
            obtain ⟨rfl, rfl, rfl⟩ := Value.slice.inj e'
            rcases h3 with h3 | ⟨g, off, rfl, hg, hcell⟩
            · rw [h3] at hx; cases hx
            have c0 := hcell i x hx
            have H3x := Lib.hid (H3.out x (List.mem_of_getElem? hx))
            have HX := Lib.hid hx
            have hi1 : (i : Int) < (n2 : Int) := by omega
            have z0 := str_size x
            obtain ⟨X, hX⟩ : ∃ X, str x = X := ⟨_, rfl⟩
            rw [hX] at c0 z0
            clear hx hX hcell e' hn'
            by_cases q0 : 150 < x.length
            · have HR := Lib.hid (H3x.out q0)
              have t0 : decide ((150 : Int) < (X.size : Int)) = true := decide_eq_true (by omega)
              have t1 : 150 < X.size := by omega
              clear z0 q0
              go_wp2_with fail
              go_ret
              exact ⟨ret_bool HR.out.symm, hb⟩
            · have t0 : decide ((150 : Int) < (X.size : Int)) = false := decide_eq_false (by omega)
              have t1 : ¬ 150 < X.size := by omega
              have HI2 : Hid (∀ j y, j < i + 1 → l[j]? = some y → ¬ 150 < y.length) := Lib.hid (fun j y hj hy => by
                by_cases e : j = i
                · rw [e, HX.out] at hy; rw [← Option.some.inj hy]; exact q0
                · exact HI.out j y (by omega) hy)
              clear z0 q0
              go_wp2_with fail
              exact ⟨⟨i + 1, rfl, by go_num, by omega, HI2, hb⟩, by simp [intOf]; omega⟩
          · obtain rfl : i = n2 := by omega
            have HR := Lib.hid (H0.out HNo.out HA.out (fun x hx => by
              obtain ⟨j, hj⟩ := List.mem_iff_getElem?.1 hx
              exact HI.out j x (by have := (List.getElem?_eq_some_iff.1 hj).1; have := HN2.out; omega) hj))
            go_wp2_with fail
            go_ret
            exact ⟨ret_bool HR.out.symm, hb⟩
  · have d1 : decide ((60 : Int) < (m : Int)) = false := decide_eq_false (by omega)
    clear p1 p2
    go_enter Try.func10, Try.ntmps10
    go_wp2_with fail
    -- MARK1
    go_loopw [4, 5] (fun x4 x5 wr => ∃ k : Nat, x4 = .bool false ∧ x5 = .int .i64 (k : Int) ∧ k ≤ m ∧ Hid (∀ j x, j < k → T[j]? = some x → ¬ (150 < x.n.length ∨ 150 < x.s.length)) ∧ Below w.heap.size w wr) (fun _ x5 _ => m - (intOf x5).toNat)
    case atStart => exact ⟨0, rfl, rfl, Nat.zero_le _, Lib.hid (fun j x hj => absurd hj (Nat.not_lt_zero _)), Below.refl _ _⟩
    case round =>
      obtain ⟨k, rfl, rfl, hk, HK, hb⟩ := hrel
      have hk0 : (0 : Int) ≤ (k : Int) := Int.natCast_nonneg _
      by_cases hlt : k < m
      · obtain ⟨x, hx⟩ : ∃ x, T[k]? = some x := ⟨_, List.getElem?_eq_getElem (by rw [HN.out]; exact hlt)⟩
        obtain ⟨g, off, rfl, hg, c0, c1, _, _⟩ := (HV.out wr hb).node hx
        have H2x := Lib.hid (H2.out x (List.mem_of_getElem? hx))
        have HX := Lib.hid hx
        have hk1 : (k : Int) < (m : Int) := by omega
        have z0 := str_size x.n
        have z1 := str_size x.s
        obtain ⟨X, hX⟩ : ∃ X, str x.n = X := ⟨_, rfl⟩
        obtain ⟨Y, hY⟩ : ∃ Y, str x.s = Y := ⟨_, rfl⟩
        rw [hX] at c0 z0
        rw [hY] at c1 z1
        clear hx hX hY
        by_cases q0 : 150 < x.n.length
        · have HR := Lib.hid (H2x.out (.inl q0))
          have t0 : decide ((150 : Int) < (X.size : Int)) = true := decide_eq_true (by omega)
          have t1 : 150 < X.size := by omega
          clear z0 z1 q0
          go_wp2_with fail
          go_ret
          exact ⟨ret_bool HR.out.symm, hb⟩
        · have t0 : decide ((150 : Int) < (X.size : Int)) = false := decide_eq_false (by omega)
          have t1 : ¬ 150 < X.size := by omega
          by_cases q1 : 150 < x.s.length
          · have HR := Lib.hid (H2x.out (.inr q1))
            have t2 : decide ((150 : Int) < (Y.size : Int)) = true := decide_eq_true (by omega)
            have t3 : 150 < Y.size := by omega
            clear z0 z1 q1 q0
            go_wp2_with fail
            go_ret
            exact ⟨ret_bool HR.out.symm, hb⟩
          · have t2 : decide ((150 : Int) < (Y.size : Int)) = false := decide_eq_false (by omega)
            have t3 : ¬ 150 < Y.size := by omega
            have HK2 : Hid (∀ j y, j < k + 1 → T[j]? = some y → ¬ (150 < y.n.length ∨ 150 < y.s.length)) := Lib.hid (fun j y hj hy => by
              by_cases e : j = k
              · rw [e, HX.out] at hy; rw [← Option.some.inj hy]; rintro (h | h); exact q0 h; exact q1 h
              · exact HK.out j y (by omega) hy)
            clear z0 z1 q1 q0
            go_wp2_with fail
            exact ⟨⟨k + 1, rfl, by go_num, by omega, HK2, hb⟩, by simp [intOf]; omega⟩
      · obtain rfl : k = m := by omega
        have HA : Hid (∀ x ∈ T, ¬ (150 < x.n.length ∨ 150 < x.s.length)) := Lib.hid (fun x hx => by
          obtain ⟨i, hi⟩ := List.mem_iff_getElem?.1 hx
          exact HK.out i x (by have := (List.getElem?_eq_some_iff.1 hi).1; have := HN.out; omega) hi)
        go_wp2_with fail
        -- MARK2
        go_loopw [4, 6] (fun x4 x6 wr => ∃ i : Nat, x4 = .bool false ∧ x6 = .int .i64 (i : Int) ∧ i ≤ n2 ∧ Hid (∀ j x, j < i → l[j]? = some x → ¬ 150 < x.length) ∧ Below w.heap.size w wr) (fun _ x6 _ => n2 - (intOf x6).toNat)
        case atStart => exact ⟨0, rfl, rfl, Nat.zero_le _, Lib.hid (fun j x hj => absurd hj (Nat.not_lt_zero _)), hb⟩
        case round =>
          obtain ⟨i, rfl, rfl, hi, HI, hb⟩ := hrel
          have hi0 : (0 : Int) ≤ (i : Int) := Int.natCast_nonneg _
          by_cases hlt2 : i < n2
          · obtain ⟨x, hx⟩ : ∃ x, l[i]? = some x := ⟨_, List.getElem?_eq_getElem (by rw [← HN2.out]; exact hlt2)⟩
            obtain ⟨a', n', c', e', hn', h3⟩ := HV2.out wr hb
            obtain ⟨rfl, rfl, rfl⟩ := Value.slice.inj e'
            rcases h3 with h3 | ⟨g, off, rfl, hg, hcell⟩
            · rw [h3] at hx; cases hx
            have c0 := hcell i x hx
            have H3x := Lib.hid (H3.out x (List.mem_of_getElem? hx))
            have HX := Lib.hid hx
            have hi1 : (i : Int) < (n2 : Int) := by omega
            have z0 := str_size x
            obtain ⟨X, hX⟩ : ∃ X, str x = X := ⟨_, rfl⟩
            rw [hX] at c0 z0
            clear hx hX hcell e' hn'
            by_cases q0 : 150 < x.length
            · have HR := Lib.hid (H3x.out q0)
              have t0 : decide ((150 : Int) < (X.size : Int)) = true := decide_eq_true (by omega)
              have t1 : 150 < X.size := by omega
              clear z0 q0
              go_wp2_with fail
              go_ret
              exact ⟨ret_bool HR.out.symm, hb⟩
            · have t0 : decide ((150 : Int) < (X.size : Int)) = false := decide_eq_false (by omega)
              have t1 : ¬ 150 < X.size := by omega
              have HI2 : Hid (∀ j y, j < i + 1 → l[j]? = some y → ¬ 150 < y.length) := Lib.hid (fun j y hj hy => by
                by_cases e : j = i
                · rw [e, HX.out] at hy; rw [← Option.some.inj hy]; exact q0
                · exact HI.out j y (by omega) hy)
              clear z0 q0
              go_wp2_with fail
              exact ⟨⟨i + 1, rfl, by go_num, by omega, HI2, hb⟩, by simp [intOf]; omega⟩
          · obtain rfl : i = n2 := by omega
            have HR := Lib.hid (H0.out HNo.out HA.out (fun x hx => by
              obtain ⟨j, hj⟩ := List.mem_iff_getElem?.1 hx
              exact HI.out j x (by have := (List.getElem?_eq_some_iff.1 hj).1; have := HN2.out; omega) hj))
            go_wp2_with fail
            go_ret
            exact ⟨ret_bool HR.out.symm, hb⟩
-- ENDFAR
-- MARK9
end Go.Proofs.Ytbkkmcfpjpbhaaa
