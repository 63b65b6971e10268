/- The law's strings; the law LexerPrints. -/
import Derived.Test.YtlpbhncdkhppkaaDoorLu
import Derived.Test.YtlpbhncdkhppkaaDoorLa
import Derived.Test.YtlpbhncdkhppkaaDoorLdt
import Derived.Test.YtlpbhncdkhppkaaDoorLlw
namespace Go.Proofs.YtlpbhncdkhppkaaDoor
open Go.RowKit Go.PlainAid

set_option maxRecDepth 50000 in
set_option maxHeartbeats 3200000 in
theorem strings_any (v : Value) (l : List Tok) (w : World) (h : TksAt w v l) :
    Calls Tryd.prog 28 #[v] w fun e w' => ∃ b, e = .returned (.bool b) ∧ Below w.heap.size w w' ∧ Hid (b = false → l.length ≤ 5000 ∧ ∀ t ∈ l, t.2.2.2.2.length ≤ 100) := by
  obtain ⟨a, c, rfl⟩ := h.slice
  obtain ⟨n, hn⟩ : ∃ n, l.length = n := ⟨_, rfl⟩
  have HN := Lib.hid hn
  have HC : Hid (∀ (k : Nat) (t : Tok), l[k]? = some t → ∃ g off, a = some ⟨g, off, none⟩ ∧ ∀ W, Below w.heap.size w W → W.cell? ⟨g, off + k * 5 + 4, none⟩ = some (.string (str t.2.2.2.2))) := Lib.hid fun k t ht => by
    obtain ⟨g, off, cap, e, hg, hc⟩ := h.some (by intro e; rw [e] at ht; cases ht)
    obtain ⟨rfl, _, rfl⟩ := Value.slice.inj e
    obtain ⟨d0, d1, d2, d3, d4⟩ := tcs_at l ht
    exact ⟨g, off, rfl, fun W hW => (hW.cell (p := ⟨g, off + (k * 5 + 4), none⟩) hg).trans (hc _ _ d4)⟩
  rw [hn]
  clear h hn
  go_enter Tryd.func28, Tryd.ntmps28
  go_wp2_with fail
  -- MARK1
  go_loopw [3] (fun x3 wr => ∃ i : Nat, x3 = .int .i64 (i : Int) ∧ i ≤ n ∧ i ≤ 5000 ∧ Hid (∀ (j : Nat) (t : Tok), j < i → l[j]? = some t → t.2.2.2.2.length ≤ 100) ∧ Below w.heap.size w wr) (fun x3 _ => n - (intOf x3).toNat)
  case atStart => exact ⟨0, rfl, Nat.zero_le _, Nat.zero_le _, Lib.hid (fun j t hj => absurd hj (Nat.not_lt_zero _)), Below.refl _ _⟩
  case round =>
    obtain ⟨i, rfl, hin, hi5, HA, hb⟩ := hrel
    have hi0 : (0 : Int) ≤ (i : Int) := Int.natCast_nonneg _
    by_cases hlt : i < n
    · have d1 : decide ((i : Int) < (n : Int)) = true := decide_eq_true (by omega)
      by_cases h5 : i < 5000
      · have d2 : decide ((i : Int) < 5000) = true := decide_eq_true (by omega)
        obtain ⟨t, ht⟩ : ∃ t, l[i]? = some t := ⟨_, List.getElem?_eq_getElem (by rw [HN.out]; exact hlt)⟩
        obtain ⟨g, off, rfl, hcell⟩ := HC.out i t ht
        have c4 := hcell wr hb
        have hi1 : (i : Int) < (n : Int) := by omega
        obtain ⟨m, hm⟩ : ∃ m, t.2.2.2.2.length = m := ⟨_, rfl⟩
        have hz : (str t.2.2.2.2).size = m := by rw [str_size, hm]
        obtain ⟨X, hX⟩ : ∃ X, str t.2.2.2.2 = X := ⟨_, rfl⟩
        rw [hX] at hz c4
        by_cases hbig : 100 < m
        · have d3 : decide ((100 : Int) < (m : Int)) = true := decide_eq_true (by omega)
          clear ht hcell hm hX hbig
          go_wp2_with fail
          -- MARK2
          go_ret
          exact ⟨true, rfl, hb, Lib.hid (fun h => by cases h)⟩
        · have d3 : decide ((100 : Int) < (m : Int)) = false := decide_eq_false (by omega)
          have HS : Hid (∀ (j : Nat) (t : Tok), j < i + 1 → l[j]? = some t → t.2.2.2.2.length ≤ 100) := Lib.hid (fun j u hj hu => by
            rcases Nat.lt_or_ge j i with h | h
            · exact HA.out j u h hu
            · have hji : j = i := by omega
              subst hji
              rw [ht] at hu
              obtain rfl := Option.some.inj hu
              omega)
          clear ht hcell hm hX hbig
          go_wp2_with fail
          -- MARK3
          go_roundw
          case rel => exact ⟨i + 1, by go_num, by omega, by omega, HS, hb⟩
          case measure => simp [intOf]; omega
      · have d2 : decide ((i : Int) < 5000) = false := decide_eq_false (by omega)
        by_cases hn5 : 5000 < n
        · have d3 : decide ((100 : Int) < (n : Int)) = true := decide_eq_true (by omega)
          have d4 : decide ((n : Int) < 340) = false := decide_eq_false (by omega)
          have d5 : decide ((5000 : Int) < (n : Int)) = true := decide_eq_true (by omega)
          go_wp2_with fail
          -- MARK4
          go_ret
          exact ⟨true, rfl, hb, Lib.hid (fun h => by cases h)⟩
        · omega
    · obtain rfl : i = n := by omega
      have d1 : decide ((i : Int) < (i : Int)) = false := decide_eq_false (Int.lt_irrefl _)
      have HR : Hid (i ≤ 5000 ∧ ∀ t ∈ l, t.2.2.2.2.length ≤ 100) := Lib.hid ⟨hi5, fun t ht => by
        obtain ⟨j, hj, rfl⟩ := List.getElem_of_mem ht
        exact HA.out j _ (by rw [← HN.out]; exact hj) (List.getElem?_eq_getElem hj)⟩
      have d5 : decide ((5000 : Int) < (i : Int)) = false := decide_eq_false (by omega)
      by_cases h1 : 100 < i
      · have d3 : decide ((100 : Int) < (i : Int)) = true := decide_eq_true (by omega)
        by_cases h3 : i < 340
        · have d4 : decide ((i : Int) < 340) = true := decide_eq_true (by omega)
          go_wp2_with fail
          -- MARK5
          go_ret
          exact ⟨true, rfl, hb, Lib.hid (fun h => by cases h)⟩
        · have d4 : decide ((i : Int) < 340) = false := decide_eq_false (by omega)
          go_wp2_with fail
          go_ret
          exact ⟨false, rfl, hb, Lib.hid (fun _ => HR.out)⟩
      · have d3 : decide ((100 : Int) < (i : Int)) = false := decide_eq_false (by omega)
        go_wp2_with fail
        go_ret
        exact ⟨false, rfl, hb, Lib.hid (fun _ => HR.out)⟩

set_option maxRecDepth 100000 in
set_option maxHeartbeats 6400000 in
theorem lawP_any (v : Value) (l : List Tok) (w : World) (h : TksAt w v l) (hf : ∀ t ∈ l, fits t.2.2.2.1) (T : PTabs w) :
    Calls Tryd.prog 5 #[v] w fun e w' => e = .returned (.bool true) ∧ Below w.heap.size w w' := by
  have CAw := Lib.hid (fun W (hW : Below w.heap.size w W) => awake_any W (T.below hW))
  have CS := Lib.hid (strings_any v l w h)
  obtain ⟨r, hr⟩ : ∃ r, prS l = r := ⟨_, rfl⟩
  obtain ⟨ps, pa, pe⟩ := r
  have HP : Hid ((l.length ≤ 5000 ∧ ∀ t ∈ l, t.2.2.2.2.length ≤ 100) → ∀ W, Below w.heap.size w W → Calls Tryd.prog 29 #[v] W fun e w' => e = .returned (.tuple #[.string (str ps), .int .i64 (pa : Int), .int .i64 pe]) ∧ Below W.heap.size W w') := Lib.hid fun hs W hW => by
    have := Print_any v l W (h.below hW (Nat.le_refl _)) (by omega) (fun t ht => ⟨hf t ht, by have := hs.2 t ht; omega⟩) (T.below hW)
    unfold prV at this; rw [hr] at this; exact this
  have HQ : Hid ((l.length ≤ 5000 ∧ ∀ t ∈ l, t.2.2.2.2.length ≤ 100) → ∀ W, Below w.heap.size w W → Calls Tryd.prog 30 #[v] W fun e w' => e = .returned (.tuple #[.string (str ps), .int .i64 (pa : Int), .int .i64 pe]) ∧ Below W.heap.size W w') := Lib.hid fun hs W hW => by
    have := rPrint_any v l W (h.below hW (Nat.le_refl _)) (by omega) (fun t ht => ⟨hf t ht, by have := hs.2 t ht; omega⟩)
    unfold prV at this; rw [hr] at this; exact this
  obtain ⟨S, hS⟩ : ∃ S, str ps = S := ⟨_, rfl⟩
  rw [hS] at HP HQ
  obtain ⟨q, hq⟩ : ∃ q : Int, (pa : Int) = q := ⟨_, rfl⟩
  rw [hq] at HP HQ
  clear h hf T hr hS hq
  go_enter Tryd.func5, Tryd.ntmps5
  go_wp2_with fail
  refine CS.out.mono ?_
  rintro e w1 ⟨b, rfl, hb1, HR⟩
  cases b
  · have CP := Lib.hid (HP.out (HR.out rfl))
    have CQ := Lib.hid (HQ.out (HR.out rfl))
    go_wp2_with fail
    refine (CP.out _ hb1).mono ?_
    rintro e w2 ⟨rfl, hb2⟩
    have hB2 := below_step hb1 hb2
    go_wp2_with fail
    refine (CQ.out _ hB2).mono ?_
    rintro e w3 ⟨rfl, hb3⟩
    have hB3 := below_step hB2 hb3
    go_wp2_with fail
    -- MARK6
    refine (CAw.out _ hB3).mono ?_
    rintro e w4 ⟨rfl, hb4⟩
    go_wp2_with fail
    -- MARK7
    go_ret
    exact ⟨rfl, below_step hB3 hb4⟩
  · go_wp2_with fail
    refine (CAw.out _ hb1).mono ?_
    rintro e w2 ⟨rfl, hb2⟩
    go_wp2_with fail
    go_ret
    exact ⟨rfl, below_step hb1 hb2⟩
end Go.Proofs.YtlpbhncdkhppkaaDoor
