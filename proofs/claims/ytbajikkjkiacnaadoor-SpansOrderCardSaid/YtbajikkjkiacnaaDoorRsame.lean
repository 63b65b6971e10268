/- The reference's Same and SameInts. -/
import Derived.Test.YtbajikkjkiacnaaDoorRbytes
namespace Go.Proofs.YtbajikkjkiacnaaDoor
open Go.RowKit Go.PlainAid

set_option maxHeartbeats 1600000 in
theorem sameints_some (g off cap g' off' cap' n : Nat) (l m : List Int) (w : World) (hn : n = l.length) (hl : n ≤ 1000000000) (hlm : l.length = m.length)
    (hc : ∀ j u, (l.map (Value.int .i64))[j]? = some u → w.cell? ⟨g, off + j, none⟩ = some u) (hc' : ∀ j u, (m.map (Value.int .i64))[j]? = some u → w.cell? ⟨g', off' + j, none⟩ = some u) :
    Calls Tryd.prog 27 #[.slice (some ⟨g, off, none⟩) n cap, .slice (some ⟨g', off', none⟩) n cap'] w fun e w' => e = .returned (.bool (decide (l = m))) ∧ Below w.heap.size w w' := by
  have HC : Hid (∀ (k : Nat) x, l[k]? = some x → w.cell? ⟨g, off + k, none⟩ = some (.int .i64 x)) := Lib.hid fun k x h => hc k _ (by rw [List.getElem?_map, h]; rfl)
  have HC' : Hid (∀ (k : Nat) x, m[k]? = some x → w.cell? ⟨g', off' + k, none⟩ = some (.int .i64 x)) := Lib.hid fun k x h => hc' k _ (by rw [List.getElem?_map, h]; rfl)
  have HN := Lib.hid hn
  have HM : Hid (n = m.length) := Lib.hid (by omega)
  have hne : (((n : Int)) != (n : Int)) = false := by simp
  clear hc hc' hn hlm
  go_enter Tryd.func27, Tryd.ntmps27
  go_wp2
  go_loopw [5] (fun i wr => ∃ k : Nat, k ≤ n ∧ i = .int .i64 k ∧ Hid (l.take k = m.take k) ∧ wr.heap = w.heap ∧ Below w.heap.size w wr) (fun i _ => n - (intOf i).toNat)
  case atStart => exact ⟨0, Nat.zero_le _, rfl, Lib.hid rfl, rfl, Below.refl _ _⟩
  case round =>
    obtain ⟨k, hk, rfl, HT, hheap, hbel⟩ := hrel
    by_cases hlt : k < n
    · obtain ⟨x, hx⟩ : ∃ x, l[k]? = some x := ⟨_, List.getElem?_eq_getElem (by rw [← HN.out]; exact hlt)⟩
      obtain ⟨y, hy⟩ : ∃ y, m[k]? = some y := ⟨_, List.getElem?_eq_getElem (by rw [← HM.out]; exact hlt)⟩
      have hcell : ∀ a : Addr, wr.cell? a = w.cell? a := fun a => by simp [World.cell?, hheap]
      have c0 : wr.cell? ⟨g, off + k, none⟩ = some (.int .i64 x) := by rw [hcell]; exact HC.out _ _ hx
      have d0 : wr.cell? ⟨g', off' + k, none⟩ = some (.int .i64 y) := by rw [hcell]; exact HC'.out _ _ hy
      have hkm : (k : Int) < (n : Int) := by omega
      have hk0 : (0 : Int) ≤ (k : Int) := Int.natCast_nonneg _
      have HH := Lib.hid hheap
      clear hcell hheap
      by_cases hxy : x = y
      · have HN' : Hid (l.take (k + 1) = m.take (k + 1)) := Lib.hid (by rw [List.take_add_one, List.take_add_one, HT.out, hx, hy, hxy])
        have hb : ((x : Int) != y) = false := by simp [hxy]
        clear hx hy HT hxy
        go_wp2
        go_quiet (fail)
        go_wp2
        exact ⟨⟨k + 1, by omega, by go_num, HN', HH.out, ⟨hbel.os, hbel.tape, hbel.output, hbel.size, hbel.block⟩⟩, by simp [intOf]; omega⟩
      · have HN' : Hid (l ≠ m) := Lib.hid (fun e => hxy (by rw [e, hy] at hx; exact (Option.some.inj hx).symm))
        have hb : ((x : Int) != y) = true := by simpa using hxy
        clear hx hy HT hxy
        go_wp2
        go_quiet (fail)
        go_wp2
        go_ret
        exact ⟨ret_bool (decide_eq_false HN'.out).symm, ⟨hbel.os, hbel.tape, hbel.output, hbel.size, hbel.block⟩⟩
    · obtain rfl : k = n := by omega
      have HN' : Hid (l = m) := Lib.hid (by have := HT.out; rw [List.take_of_length_le (by rw [← HN.out]; omega), List.take_of_length_le (by rw [← HM.out]; omega)] at this; exact this)
      clear HT hheap
      go_wp2
      go_ret
      exact ⟨ret_bool (decide_eq_true HN'.out).symm, hbel⟩
theorem sameints_len (a a' : Option Addr) (n n' c c' : Nat) (hn : n ≠ n') (w : World) :
    Calls Tryd.prog 27 #[.slice a n c, .slice a' n' c'] w fun e w' => e = .returned (.bool false) ∧ Below w.heap.size w w' := by
  have hne : (((n : Int)) != (n' : Int)) = true := by rw [bne_iff_ne]; omega
  go_enter Tryd.func27, Tryd.ntmps27
  go_wp2
  go_ret
  exact ⟨rfl, Below.refl _ _⟩
theorem sameints_nil (a a' : Option Addr) (c c' : Nat) (w : World) :
    Calls Tryd.prog 27 #[.slice a 0 c, .slice a' 0 c'] w fun e w' => e = .returned (.bool true) ∧ Below w.heap.size w w' := by
  go_enter Tryd.func27, Tryd.ntmps27
  go_wp2
  go_loop [5] (fun i => i = .int .i64 0) (fun _ => 0)
  case atStart => rfl
  case round =>
    subst hrel
    go_wp2
    go_ret
    exact ⟨rfl, Below.refl _ _⟩
theorem sameints_any (v v' : Value) (l m : List Int) (w : World) (h : RowAt w v (l.map (Value.int .i64))) (h' : RowAt w v' (m.map (Value.int .i64))) (hl : l.length ≤ 1000000000) :
    Calls Tryd.prog 27 #[v, v'] w fun e w' => e = .returned (.bool (decide (l = m))) ∧ Below w.heap.size w w' := by
  by_cases hlm : l.length = m.length
  · by_cases h0 : l = []
    · have h0' : m = [] := List.eq_nil_of_length_eq_zero (by rw [← hlm, h0]; rfl)
      obtain ⟨a, c, rfl⟩ := h.slice
      obtain ⟨a', c', rfl⟩ := h'.slice
      subst h0 h0'
      exact sameints_nil a a' c c' w
    · rcases h with ⟨_, _, _, h⟩ | ⟨g, off, n, cap, rfl, hn, hg, hc⟩
      · exact absurd (List.map_eq_nil_iff.1 h) h0
      · rcases h' with ⟨_, _, _, h'⟩ | ⟨g', off', n', cap', rfl, hn', hg', hc'⟩
        · exact absurd (List.eq_nil_of_length_eq_zero (by rw [hlm, List.map_eq_nil_iff.1 h']; rfl)) h0
        · rw [List.length_map] at hn hn'
          obtain rfl : n = n' := by omega
          exact sameints_some g off cap g' off' cap' n l m w hn (by omega) hlm hc hc'
  · obtain ⟨a, c, rfl⟩ := h.slice
    obtain ⟨a', c', rfl⟩ := h'.slice
    rw [decide_eq_false (fun e => hlm (by rw [e]))]
    exact sameints_len a a' _ _ c c' (by simpa using hlm) w

end Go.Proofs.YtbajikkjkiacnaaDoor
