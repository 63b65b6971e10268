/- The reference's Same; and what the law's 'shown' returns. -/
import Derived.Test.YtnajkkbcfebegaaGreatDoorList
namespace Go.Proofs.YtnajkkbcfebegaaGreatDoor
open Go.RowKit Go.PlainAid

theorem str_toList (l : List UInt8) : (str l).toList = l := by rw [ByteArray.toList_eq]; rfl
theorem mk_toList (a : Array UInt8) : (ByteArray.mk a).toList = a.toList := by rw [ByteArray.toList_eq]

set_option maxHeartbeats 1600000 in
theorem same_some (g off cap g' off' cap' : Nat) (l m : List Fld) (w : World) (hl : l.length ≤ 1000000) (hlm : l.length = m.length)
    (hc : ∀ j u, (fcs l)[j]? = some u → w.cell? ⟨g, off + j, none⟩ = some u) (hc' : ∀ j u, (fcs m)[j]? = some u → w.cell? ⟨g', off' + j, none⟩ = some u) :
    Calls Tryz.prog 15 #[.slice (some ⟨g, off, none⟩) l.length cap, .slice (some ⟨g', off', none⟩) m.length cap'] w fun e w' => e = .returned (.bool (decide (l = m))) ∧ Below w.heap.size w w' := by
  have HC := Lib.hid hc
  have HC' := Lib.hid hc'
  clear hc hc'
  have hne : (((l.length : Int)) != (m.length : Int)) = false := by rw [hlm]; simp
  go_enter Tryz.func15, Tryz.ntmps15
  go_wp2
  go_loopw [5] (fun i wr => ∃ k : Nat, k ≤ l.length ∧ i = .int .i64 k ∧ Hid (l.take k = m.take k) ∧ wr.heap = w.heap ∧ Below w.heap.size w wr) (fun i _ => l.length - (intOf i).toNat)
  case atStart => exact ⟨0, Nat.zero_le _, rfl, Lib.hid rfl, rfl, Below.refl _ _⟩
  case round =>
    obtain ⟨k, hk, rfl, HT, hheap, hbel⟩ := hrel
    by_cases hlt : k < l.length
    · obtain ⟨x, hx⟩ : ∃ x, l[k]? = some x := ⟨_, List.getElem?_eq_getElem hlt⟩
      obtain ⟨y, hy⟩ : ∃ y, m[k]? = some y := ⟨_, List.getElem?_eq_getElem (by omega)⟩
      have hcell : ∀ a : Addr, wr.cell? a = w.cell? a := fun a => by simp [World.cell?, hheap]
      have c0 : wr.cell? ⟨g, off + k * 2, none⟩ = some (.string (str x.1)) := by rw [hcell]; exact HC.out _ _ (fcs_at l hx).1
      have c1 : wr.cell? ⟨g, off + k * 2 + 1, none⟩ = some (.bool x.2) := by rw [hcell]; exact HC.out _ _ (fcs_at l hx).2
      have d0 : wr.cell? ⟨g', off' + k * 2, none⟩ = some (.string (str y.1)) := by rw [hcell]; exact HC'.out _ _ (fcs_at m hy).1
      have d1 : wr.cell? ⟨g', off' + k * 2 + 1, none⟩ = some (.bool y.2) := by rw [hcell]; exact HC'.out _ _ (fcs_at m hy).2
      have hkm : (k : Int) < (m.length : Int) := by omega
      have hkl : (k : Int) < (l.length : Int) := by omega
      have hk0 : (0 : Int) ≤ (k : Int) := Int.natCast_nonneg _
      clear hcell
      by_cases hxy : x = y
      · have HN : Hid (l.take (k + 1) = m.take (k + 1)) := Lib.hid (by rw [List.take_add_one, List.take_add_one, HT.out, hx, hy, hxy])
        clear hx hy HT
        subst hxy
        go_wp2
        go_quiet (fail)
        go_wp2
        exact ⟨⟨k + 1, by omega, by go_num, HN, hheap, ⟨hbel.os, hbel.tape, hbel.output, hbel.size, hbel.block⟩⟩, by simp [intOf]; omega⟩
      · have HN : Hid (l ≠ m) := Lib.hid (fun e => hxy (by rw [e, hy] at hx; exact (Option.some.inj hx).symm))
        clear hx hy HT
        obtain ⟨x1, x2⟩ := x
        obtain ⟨y1, y2⟩ := y
        simp only at c0 c1 d0 d1
        by_cases h1 : x1 = y1
        · subst h1
          have h2 : ¬ x2 = y2 := fun e => hxy (by rw [e])
          have h2' : (x2 == y2) = false := by rw [beq_eq_false_iff_ne]; exact h2
          go_wp2
          go_quiet (fail)
          go_wp2
          go_ret
          exact ⟨ret_bool (decide_eq_false HN.out).symm, ⟨hbel.os, hbel.tape, hbel.output, hbel.size, hbel.block⟩⟩
        · have h2 : ¬ str x1 = str y1 := fun e => h1 (str_inj e)
          have h2' : ((str x1).toList == (str y1).toList) = false := by rw [str_toList, str_toList, beq_eq_false_iff_ne]; exact h1
          go_wp2
          go_quiet (fail)
          go_wp2
          go_ret
          exact ⟨ret_bool (decide_eq_false HN.out).symm, ⟨hbel.os, hbel.tape, hbel.output, hbel.size, hbel.block⟩⟩
    · obtain rfl : k = l.length := by omega
      have HN : Hid (l = m) := Lib.hid (by have := HT.out; rw [List.take_length, hlm, List.take_length] at this; exact this)
      clear HT
      go_wp2
      go_ret
      exact ⟨ret_bool (decide_eq_true HN.out).symm, hbel⟩

theorem same_len (v v' : Value) (a a' : Option Addr) (n n' c c' : Nat) (hv : v = .slice a n c) (hv' : v' = .slice a' n' c') (hn : n ≠ n') (w : World) :
    Calls Tryz.prog 15 #[v, v'] w fun e w' => e = .returned (.bool false) ∧ Below w.heap.size w w' := by
  subst hv hv'
  have hne : (((n : Int)) != (n' : Int)) = true := by rw [bne_iff_ne]; omega
  go_enter Tryz.func15, Tryz.ntmps15
  go_wp2
  go_ret
  exact ⟨rfl, Below.refl _ _⟩
theorem same_nil (a a' : Option Addr) (c c' : Nat) (w : World) :
    Calls Tryz.prog 15 #[.slice a 0 c, .slice a' 0 c'] w fun e w' => e = .returned (.bool true) ∧ Below w.heap.size w w' := by
  go_enter Tryz.func15, Tryz.ntmps15
  go_wp2
  go_loop [5] (fun i => i = .int .i64 0) (fun _ => 0)
  case atStart => rfl
  case round =>
    subst hrel
    go_wp2
    go_ret
    exact ⟨rfl, Below.refl _ _⟩
theorem FldsAt.slice {w : World} {v : Value} {l : List Fld} (h : FldsAt w v l) : ∃ a c, v = .slice a l.length c := by
  rcases h with ⟨rfl, rfl⟩ | ⟨g, off, cap, rfl, _⟩
  · exact ⟨none, 0, rfl⟩
  · exact ⟨_, _, rfl⟩
theorem same_any (v v' : Value) (l m : List Fld) (w : World) (h : FldsAt w v l) (h' : FldsAt w v' m) (hl : l.length ≤ 1000000) :
    Calls Tryz.prog 15 #[v, v'] w fun e w' => e = .returned (.bool (decide (l = m))) ∧ Below w.heap.size w w' := by
  by_cases hlm : l.length = m.length
  · by_cases h0 : l = []
    · have h0' : m = [] := List.eq_nil_of_length_eq_zero (by rw [← hlm, h0]; rfl)
      obtain ⟨a, c, rfl⟩ := h.slice
      obtain ⟨a', c', rfl⟩ := h'.slice
      subst h0 h0'
      exact same_nil a a' c c' w
    · rcases h with ⟨_, h⟩ | ⟨g, off, cap, rfl, hg, hc⟩
      · exact absurd h h0
      · rcases h' with ⟨_, h'⟩ | ⟨g', off', cap', rfl, hg', hc'⟩
        · exact absurd (List.eq_nil_of_length_eq_zero (by rw [hlm, h']; rfl)) h0
        · exact same_some g off cap g' off' cap' l m w hl hlm hc hc'
  · obtain ⟨a, c, rfl⟩ := h.slice
    obtain ⟨a', c', rfl⟩ := h'.slice
    rw [decide_eq_false (fun e => hlm (by rw [e]))]
    exact same_len _ _ a a' _ _ c c' rfl rfl hlm w

theorem listS_ex : listS [1, 2, 3, 5, 8, 9] = ([49, 45, 51, 44, 53, 44, 56, 45, 57], 0) := by
  have e : ∀ n : Nat, n < 10 → Lib.itoa (n : Int) = [UInt8.ofNat (48 + n)] := fun n h => by
    unfold Lib.itoa; rw [if_neg (by omega), Int.toNat_natCast, Lib.decDigits_one h]
  have e1 : Lib.itoa 1 = [49] := e 1 (by omega)
  have e3 : Lib.itoa 3 = [51] := e 3 (by omega)
  have e5 : Lib.itoa 5 = [53] := e 5 (by omega)
  have e8 : Lib.itoa 8 = [56] := e 8 (by omega)
  have e9 : Lib.itoa 9 = [57] := e 9 (by omega)
  rw [listS_ok (by decide) (by decide) (by decide) (by decide)]
  have h : runsFrom ([1, 2, 3, 5, 8, 9] : List Int).length [1, 2, 3, 5, 8, 9] 0 = [runT 1 3, runT 5 5, runT 8 9] := rfl
  rw [h]
  have r1 : runT 1 3 = [49, 45, 51] := by unfold runT; rw [if_neg (by decide), e1, e3]; rfl
  have r2 : runT 5 5 = [53] := by unfold runT; rw [if_pos rfl, e5]
  have r3 : runT 8 9 = [56, 45, 57] := by unfold runT; rw [if_neg (by decide), e8, e9]; rfl
  rw [r1, r2, r3]; rfl
theorem splitS_ex : splitS [103, 101, 116, 32, 47, 32, 34, 97, 32, 98, 34] = ([([103, 101, 116], false), ([47], false), ([97, 32, 98], true)], 0) := by
  decide
theorem intS_ex : intS [45, 49, 50] (-20) 20 = (-12, 0) := by decide
theorem unqS_ex : unqS (ByteArray.mk #[34, 97, 92, 110, 92, 120, 48, 48, 92, 34, 34]) = some [97, 10, 0, 34] := by decide
theorem nameB_ex : nameB (ByteArray.mk #[119, 101, 98, 45, 49]) = true := by decide

theorem ints_new (w : World) (l : List Int) (t : TypeId) (cap : Nat) : IntsAt (w.alloc (.cells (l.map fun n => .int .i64 n).toArray t)) (.slice (some ⟨w.heap.size, 0, none⟩) l.length cap) l := by
  refine .inr ⟨_, 0, cap, rfl, by simp, fun j n h => ?_⟩
  rw [Nat.zero_add, World.cell?_alloc_new, List.getElem?_toArray, List.getElem?_map, h]; rfl
theorem flds_new (w : World) (l : List Fld) (t : TypeId) (cap : Nat) : FldsAt (w.alloc (.cells (fcs l).toArray t)) (.slice (some ⟨w.heap.size, 0, none⟩) l.length cap) l := by
  refine .inr ⟨_, 0, cap, rfl, by simp, fun j u h => ?_⟩
  rw [Nat.zero_add, World.cell?_alloc_new, List.getElem?_toArray, h]
theorem flds_alloc {w : World} {v : Value} {l : List Fld} (h : FldsAt w v l) (o : Obj) : FldsAt (w.alloc o) v l :=
  h.below (Below.alloc (Below.refl _ w) (Nat.le_refl _) o) (Nat.le_refl _)
/-- What the law and its callees read of the library's and the program's variables. -/
structure Tabs (w : World) : Prop where
  esc : EscTab w
  pow : PowIs w
  rng : RangeIs w
  he : 0 < w.heap.size
  hp : 3 < w.heap.size

set_option maxRecDepth 50000 in
set_option maxHeartbeats 1600000 in
theorem shown_any (w : World) (T : Tabs w) (TB : ∀ w', Below w.heap.size w w' → Tabs w') : Calls Tryz.prog 6 #[] w fun e w' => e = .returned (.bool true) ∧ Below w.heap.size w w' := by
  have C1 : Hid (Calls Tryz.prog 13 #[.string ⟨#[103, 101, 116, 32, 47, 32, 34, 97, 32, 98, 34]⟩] w fun e w' => ∃ a c, e = .returned (.tuple #[.slice a 3 c, .int .i64 0]) ∧ FldsAt w' (.slice a 3 c) [([103, 101, 116], false), ([47], false), ([97, 32, 98], true)] ∧ Below w.heap.size w w') := Lib.hid (by
    refine (split_any _ w T.esc T.he).mono ?_
    rintro e w' ⟨v, h1, h2, h3⟩
    rw [splitS_ex] at h1 h2
    have h4 := FldsAt.own h2
    obtain ⟨a, c, rfl⟩ := h4.slice
    exact ⟨a, c, h1, h4, h3⟩)
  have C2 : Hid (∀ w', Below w.heap.size w w' → Calls Tryz.prog 18 #[.string ⟨#[45, 49, 50]⟩, .int .i64 (-20), .int .i64 20] w' fun e w'' => e = .returned (.tuple #[.int .i64 (-12), .int .i64 0]) ∧ Below w'.heap.size w' w'') := Lib.hid fun w' hb => by
    refine (int_any ⟨#[45, 49, 50]⟩ (-20) 20 w' (by decide) (TB w' hb).rng).mono ?_
    rintro e w'' ⟨h1, h2⟩
    exact ⟨by rw [h1]; exact congrArg (fun x : Int × Int => Ending.returned (.tuple #[.int .i64 x.1, .int .i64 x.2])) intS_ex, h2⟩
  have C3 : Hid (∀ w' v, Below w.heap.size w w' → IntsAt w' v [1, 2, 3, 5, 8, 9] → Calls Tryz.prog 7 #[v] w' fun e w'' => e = .returned (.tuple #[.string ⟨#[49, 45, 51, 44, 53, 44, 56, 45, 57]⟩, .int .i64 0]) ∧ Below w'.heap.size w' w'') := Lib.hid fun w' v hb hv => by
    refine (list_any v _ w' hv (by decide) (fun n hn => by simp at hn; unfold i64r; omega) (TB w' hb).pow (TB w' hb).hp).mono ?_
    rintro e w'' ⟨h1, h2⟩
    rw [listS_ex] at h1
    exact ⟨h1, h2⟩
  have C4 : Hid (∀ w', Below w.heap.size w w' → Calls Tryz.prog 16 #[.string ⟨#[34, 97, 92, 110, 92, 120, 48, 48, 92, 34, 34]⟩] w' fun e w'' => e = .returned (.tuple #[.string ⟨#[97, 10, 0, 34]⟩, .int .i64 0]) ∧ Below w'.heap.size w' w'') := Lib.hid fun w' hb => by
    refine (unquote_any _ w' (by decide) (TB w' hb).esc (Nat.lt_of_le_of_lt (Nat.zero_le _) (TB w' hb).he)).mono ?_
    rintro e w'' ⟨h1, h2⟩
    rw [unqS_ex] at h1
    exact ⟨h1, h2⟩
  have C5 : Hid (∀ w', Calls Tryz.prog 20 #[.string ⟨#[119, 101, 98, 45, 49]⟩] w' fun e w'' => e = .returned (.bool true) ∧ w' = w'') := Lib.hid fun w' => by
    refine (name_any _ w' (by decide)).mono ?_
    rintro e w'' ⟨h1, h2⟩
    rw [nameB_ex] at h1
    exact ⟨h1, h2⟩
  clear T TB
  go_enter Tryz.func6, Tryz.ntmps6
  go_wp2_with (first
    | (go_at_call 13; refine C1.out.mono ?_; rintro e w1 ⟨sa, sc, rfl, hf1, hb1⟩; have hB1 := hb1)
    | (go_at_call 18; refine (C2.out _ hB1).mono ?_; rintro e w2 ⟨rfl, hb2⟩; have hB2 := hB1.trans (hb2.mono hB1.size); have hf2 := hf1.below hb2 (Nat.le_refl _))
    | (go_at_call 7; refine (C3.out _ _ (hB2.alloc hB2.size _) (ints_new w2 [1, 2, 3, 5, 8, 9] _ 6)).mono ?_; rintro e w3 ⟨rfl, hb3⟩; have hB3 := (hB2.alloc hB2.size (.cells #[.int .i64 1, .int .i64 2, .int .i64 3, .int .i64 5, .int .i64 8, .int .i64 9] 3)).trans (hb3.mono (Nat.le_trans hB2.size (by simp))); have hf3 := (flds_alloc hf2 _).below hb3 (Nat.le_refl _))
    | (go_at_call 16; refine (C4.out _ hB3).mono ?_; rintro e w4 ⟨rfl, hb4⟩; have hB4 := hB3.trans (hb4.mono hB3.size); have hf4 := hf3.below hb4 (Nat.le_refl _))
    | (go_at_call 15; refine (same_any _ _ _ [([103, 101, 116], false), ([47], false), ([97, 32, 98], true)] _ (flds_alloc hf4 _) (flds_new w4 [([103, 101, 116], false), ([47], false), ([97, 32, 98], true)] _ 3) (by decide)).mono ?_; rintro e w5 ⟨rfl, hb5⟩; have hB5 := (hB4.alloc hB4.size (.cells (fcs [([103, 101, 116], false), ([47], false), ([97, 32, 98], true)]).toArray 47)).trans (hb5.mono (Nat.le_trans hB4.size (by simp))))
    | (go_at_call 20; refine (C5.out _).mono ?_; rintro e w6 ⟨rfl, rfl⟩))
  go_ret
  exact ⟨rfl, hB5⟩
end Go.Proofs.YtnajkkbcfebegaaGreatDoor
