/- Layer 3: firstBad. -/
import Derived.Test.YtbajikkjkiacnaaDoorPleaf
namespace Go.Proofs.YtbajikkjkiacnaaDoor
open Go.RowKit Go.PlainAid

/-- One parameter that was boxed. -/
theorem one_cells (w W : World) (a b : Int) (t : TypeId) (h : Below (w.alloc (.cells #[.int .i64 a, .int .i64 b] t)).heap.size (w.alloc (.cells #[.int .i64 a, .int .i64 b] t)) W) :
    W.cell? ⟨w.heap.size, 0, none⟩ = some (.int .i64 a) ∧ W.cell? ⟨w.heap.size, 1, none⟩ = some (.int .i64 b) ∧ Below w.heap.size w W := by
  have h1 := h.block w.heap.size (by simp only [World.size_alloc]; omega)
  rw [World.alloc_heap_new] at h1
  refine ⟨?_, ?_, (below_a1 _ _).trans (h.mono (by simp only [World.size_alloc]; omega))⟩
  · simp [World.cell?, h1]
  · simp [World.cell?, h1]

set_option maxHeartbeats 1600000 in
theorem bad1_any (a b : Int) (w : World) : Calls Tryd.prog 59 #[.agg #[.int .i64 a, .int .i64 b]] w fun e w' => e = .returned (.bool (!okS (a, b))) ∧ Below w.heap.size w w' := by
  have HK : Hid (okS (a, b) = (isS (a, b) && decide (b ≤ 4611686018427387904))) := Lib.hid (by rw [Bool.eq_iff_iff]; simp [okS, isS]; omega)
  cases h1 : isS (a, b) <;> (
    go_enter Tryd.func59, Tryd.ntmps59
    go_wp2_with (go_at_call 43; refine (isSpan_any _ _ _).mono ?_; rintro e w1 ⟨rfl, hb1⟩; rw [h1]; obtain ⟨c0, c1, hB⟩ := one_cells _ _ _ _ _ hb1)
    all_goals go_ret
    all_goals exact ⟨ret_bool (by rw [HK.out, h1]; first | (simp; done) | (rw [Bool.eq_iff_iff]; simp)), hB⟩)

set_option maxHeartbeats 1600000 in
theorem idxf_any (v : Value) (l : List Sp) (w : World) (h : SpsAt w v l) (hl : l.length ≤ 1000000000) :
    Calls Tryd.prog 58 #[v, .func (.func 59) #[] #[]] w fun e w' => e = .returned (.int .i64 (badS l)) ∧ Below w.heap.size w w' := by
  rcases h with ⟨a0, c0, rfl, rfl⟩ | ⟨g, off, cap, rfl, hg, hc⟩
  · go_enter Tryd.func58, Tryd.ntmps58
    go_wp2
    go_loop [8] (fun i => i = .int .i64 0) (fun _ => 0)
    case atStart => rfl
    case round =>
      subst hrel
      go_wp2
      go_ret
      exact ⟨rfl, Below.refl _ _⟩
  · go_enter Tryd.func58, Tryd.ntmps58
    go_wp2
    go_loopw [8] (fun i wr => ∃ k : Nat, k ≤ l.length ∧ i = .int .i64 k ∧ Hid (∀ (j : Nat) s, j < k → l[j]? = some s → okS s = true) ∧ Below w.heap.size w wr) (fun i _ => l.length - (intOf i).toNat)
    case atStart => exact ⟨0, Nat.zero_le _, rfl, Lib.hid (fun j s h => by omega), Below.refl _ _⟩
    case round =>
      obtain ⟨k, hk, rfl, hno, hbel⟩ := hrel
      by_cases hlt : k < l.length
      · obtain ⟨x, hxk⟩ : ∃ x, l[k]? = some x := ⟨_, List.getElem?_eq_getElem hlt⟩
        obtain ⟨a, b⟩ := x
        have hc0 : wr.cell? ⟨g, off + k * 2, none⟩ = some (.int .i64 a) := (hbel.cell (p := ⟨g, off + k * 2, none⟩) hg).trans (hc _ _ (scs_at l hxk).1)
        have hc1 : wr.cell? ⟨g, off + k * 2 + 1, none⟩ = some (.int .i64 b) := (hbel.cell (p := ⟨g, off + k * 2 + 1, none⟩) hg).trans (hc _ _ (scs_at l hxk).2)
        have HX := Lib.hid hxk
        clear hc hxk
        cases hok : okS (a, b)
        · have HE : Hid (badS l = (k : Int)) := Lib.hid (badS_at hno.out HX.out hok)
          go_wp2_with (go_at_call 59; refine (bad1_any _ _ _).mono ?_; rintro e w1 ⟨rfl, hb1⟩; rw [hok]; simp only [Bool.not_false])
          go_ret
          exact ⟨ret_int HE.out.symm, hbel.trans (hb1.mono hbel.size)⟩
        · have HN : Hid (∀ (j : Nat) s, j < k + 1 → l[j]? = some s → okS s = true) := Lib.hid (fun j s h1 h2 => by
            by_cases e : j = k
            · rw [e, HX.out] at h2; rw [← Option.some.inj h2]; exact hok
            · exact hno.out j s (by omega) h2)
          clear hno
          go_wp2_with (go_at_call 59; refine (bad1_any _ _ _).mono ?_; rintro e w1 ⟨rfl, hb1⟩; rw [hok]; simp only [Bool.not_true])
          go_roundw
          case rel => exact ⟨k + 1, by omega, by go_num, HN, hbel.trans (hb1.mono hbel.size)⟩
          case measure => simp [intOf]; omega
      · obtain rfl : k = l.length := by omega
        have HE : Hid (badS l = -1) := Lib.hid (badS_no fun j s h => hno.out j s (List.getElem?_eq_some_iff.1 h).1 h)
        clear hno
        go_wp2
        go_ret
        exact ⟨ret_int HE.out.symm, hbel⟩

theorem firstBad_any (v : Value) (l : List Sp) (w : World) (h : SpsAt w v l) (hl : l.length ≤ 1000000000) :
    Calls Tryd.prog 40 #[v] w fun e w' => e = .returned (.int .i64 (badS l)) ∧ Below w.heap.size w w' := by
  have C := Lib.hid (idxf_any v l w h hl)
  clear h
  go_enter Tryd.func40, Tryd.ntmps40
  go_wp2_with (refine C.out.mono ?_; rintro e w1 ⟨rfl, hb1⟩)
  go_ret
  exact ⟨rfl, hb1⟩
end Go.Proofs.YtbajikkjkiacnaaDoor
