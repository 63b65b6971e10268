/- Layer 3: Place. -/
import Derived.Test.YtbajikkjkiacnaaDoorPbytes
namespace Go.Proofs.YtbajikkjkiacnaaDoor
open Go.RowKit Go.PlainAid

theorem take_at {w : World} {a : Option Addr} {n c i : Nat} {l : List UInt8} (h : BytesAt w (.slice a n c) l) (hi : i ≤ n) : BytesAt w (.slice a i c) (l.take i) := by
  have hl : n = l.length := by
    obtain ⟨a', c', e⟩ := RowAt.slice h
    have := (Value.slice.inj e).2.1; rw [List.length_map] at this; exact this
  by_cases h0 : i = 0
  · subst h0; exact .inl ⟨_, _, rfl, rfl⟩
  · rcases h with ⟨a', c', e, hnil⟩ | ⟨g, off, n', cap, e, hn, hg, hc⟩
    · have := (Value.slice.inj e).2.1; omega
    · obtain ⟨rfl, rfl, rfl⟩ := Value.slice.inj e
      refine .inr ⟨g, off, i, _, rfl, by rw [List.length_map, List.length_take]; omega, hg, fun j u hj => ?_⟩
      rw [List.map_take, List.getElem?_take] at hj
      split at hj
      · exact hc j u hj
      · cases hj
theorem drop_at {w : World} {a : Option Addr} {n c i : Nat} {l : List UInt8} (h : BytesAt w (.slice a n c) l) (hi : i ≤ n) (hcap : n ≤ c) : BytesAt w (.slice (if c = i then a else a.map (·.add i)) (n - i) (c - i)) (l.drop i) := by
  have hl : n = l.length := by
    obtain ⟨a', c', e⟩ := RowAt.slice h
    have := (Value.slice.inj e).2.1; rw [List.length_map] at this; exact this
  by_cases h0 : i = n
  · subst h0; exact .inl ⟨_, _, by rw [Nat.sub_self], by rw [List.drop_of_length_le (by omega)]; rfl⟩
  · rcases h with ⟨a', c', e, hnil⟩ | ⟨g, off, n', cap, e, hn, hg, hc⟩
    · have := (Value.slice.inj e).2.1; omega
    · obtain ⟨rfl, rfl, rfl⟩ := Value.slice.inj e
      rw [if_neg (by omega), Option.map_some, Go.WideShapes.add_plain]
      refine .inr ⟨g, off + i, n - i, _, rfl, by rw [List.length_map, List.length_drop]; omega, hg, fun j u hj => ?_⟩
      rw [List.map_drop, List.getElem?_drop] at hj
      have := hc (i + j) u hj
      rw [← Nat.add_assoc] at this
      exact this

theorem lbS_bd (c : Int) (l : List UInt8) : ∀ k, -1 ≤ lbS c l k ∧ lbS c l k < k := by
  intro k
  induction k with
  | zero => exact ⟨by unfold lbS; omega, by unfold lbS; omega⟩
  | succ k ih =>
    unfold lbS
    split <;> split <;> omega
/-- The bytes of its line before a place. -/
def inL (l : List UInt8) (m : Nat) : List UInt8 := (l.take m).drop (lbS 10 (l.take m) (l.take m).length + 1).toNat
/-- What Place returns. -/
def placeP (l : List UInt8) (i : Int) : Int × Int × Int :=
  if (onS l i).2 ≠ 0 then (0, 0, (onS l i).2) else if (onS l i).1 = false then (0, 0, 6)
  else if (cntS (inL l i.toNat)).2 ≠ 0 then (0, 0, (cntS (inL l i.toNat)).2) else (1 + ((l.take i.toNat).count 10 : Nat), 1 + ((cntS (inL l i.toNat)).1 : Nat), 0)
def plcV (r : Int × Int × Int) : Value := .tuple #[.int .i64 r.1, .int .i64 r.2.1, .int .i64 r.2.2]
theorem on_in {l : List UInt8} {i : Int} (h : (onS l i).2 = 0) : 0 ≤ i ∧ i ≤ l.length := by
  have h1 : (backS l i).2 = 0 := h
  unfold backS at h1
  split at h1
  · exact absurd h1 (by assumption)
  · split at h1
    · exact absurd h1 (by decide)
    · omega

set_option maxRecDepth 50000 in
set_option maxHeartbeats 3200000 in
theorem Place_any (a : Option Addr) (n c : Nat) (l : List UInt8) (i : Int) (w : World) (h : BytesAt w (.slice a n c) l) (hn : n = l.length) (hcap : n ≤ c) (hl : l.length ≤ 1000000) (hm : MarksTab w) (hg : 0 < w.heap.size) :
    Calls Tryd.prog 33 #[.slice a n c, .int .i64 i] w fun e w' => e = .returned (plcV (placeP l i)) ∧ Below w.heap.size w w' := by
  obtain ⟨x, e, hx, he, hxx⟩ : ∃ (x : Bool) (e : Int), onV l i = .tuple #[.bool x, .int .i64 e] ∧ e = (onS l i).2 ∧ x = (onS l i).1 := ⟨_, _, rfl, rfl, rfl⟩
  have C1 : Hid (Calls Tryd.prog 51 #[.slice a n c, .int .i64 i] w fun e' w' => e' = .returned (.tuple #[.bool x, .int .i64 e]) ∧ Below w.heap.size w w') := Lib.hid (by
    rw [← hx]; exact on_any _ l i w h (by omega) hm hg)
  by_cases hc : e = 0
  · cases hxb : x
    · have HV : Hid (plcV (placeP l i) = .tuple #[.int .i64 0, .int .i64 0, .int .i64 6]) := Lib.hid (by unfold placeP; rw [← he, ← hxx, if_neg (by simpa using hc), hxb]; rfl)
      subst hc hxb
      clear h hn hcap hl hm hx he hxx
      go_enter Tryd.func33, Tryd.ntmps33
      go_wp2_with (go_at_call 51; refine C1.out.mono ?_; rintro e w1 ⟨rfl, hb1⟩)
      go_returns
      exact ⟨(congrArg Ending.returned HV.out).symm, hb1⟩
    · obtain ⟨hi0, hi1⟩ := on_in (l := l) (i := i) (by rw [← he]; exact hc)
      obtain ⟨m, rfl⟩ : ∃ m : Nat, i = m := ⟨i.toNat, by omega⟩
      have hmn : m ≤ n := by omega
      have hmc : m ≤ c := by omega
      obtain ⟨k, hk, hkm⟩ : ∃ k : Nat, lbS 10 (l.take m) (l.take m).length = (k : Int) - 1 ∧ k ≤ m := by
        have := lbS_bd 10 (l.take m) (l.take m).length
        have h2 : (l.take m).length ≤ m := by rw [List.length_take]; omega
        exact ⟨(lbS 10 (l.take m) (l.take m).length + 1).toNat, by omega, by omega⟩
      have hil : inL l m = (l.take m).drop k := by unfold inL; rw [hk]; congr 1; omega
      obtain ⟨y, f, hy, hf, hyy⟩ : ∃ (y : Nat) (f : Int), cntV (inL l m) = .tuple #[.int .i64 (y : Int), .int .i64 f] ∧ f = (cntS (inL l m)).2 ∧ y = (cntS (inL l m)).1 := ⟨_, _, rfl, rfl, rfl⟩
      have HV : Hid (plcV (placeP l (m : Int)) = if f ≠ 0 then .tuple #[.int .i64 0, .int .i64 0, .int .i64 f] else .tuple #[.int .i64 (1 + ((l.take m).count 10 : Nat)), .int .i64 (1 + (y : Int)), .int .i64 0]) := Lib.hid (by
        unfold placeP; rw [← he, ← hxx, if_neg (by simpa using hc), hxb, if_neg (by simp), Int.toNat_natCast, ← hf, ← hyy]; split <;> rfl)
      have HB : Hid (∀ W, Below w.heap.size w W → BytesAt W (.slice a m c) (l.take m)) := Lib.hid fun W hb => take_at (RowAt.below h hb (Nat.le_refl _)) hmn
      have HM : Hid (∀ W, Below w.heap.size w W → MarksTab W ∧ 0 < W.heap.size) := Lib.hid fun W hb => ⟨marks_below hm hb hg, Nat.lt_of_lt_of_le hg hb.size⟩
      have C2 : Hid (∀ W, Below w.heap.size w W → Calls Tryd.prog 53 #[.slice a m c, .int .u8 10] W fun e w' => e = .returned (.int .i64 ((k : Int) - 1)) ∧ Below W.heap.size W w') := Lib.hid fun W hb => by
        rw [← hk]; exact lbb_any _ _ 10 W (HB.out W hb) (by rw [List.length_take]; omega)
      have C3 : Hid (∀ A cc, ((c = k ∧ A = a ∧ cc = 0) ∨ (¬ c = k ∧ A = a.map (·.add k) ∧ cc = c - k)) → ∀ W, Below w.heap.size w W → Calls Tryd.prog 54 #[.slice A (m - k) cc] W fun e' w' => e' = .returned (.tuple #[.int .i64 (y : Int), .int .i64 f]) ∧ Below W.heap.size W w') := Lib.hid fun A cc hA W hb => by
        rw [← hy]
        refine count_any _ _ W ?_ (by rw [hil, List.length_drop, List.length_take]; omega) (HM.out W hb).1 (HM.out W hb).2
        have := drop_at (HB.out W hb) hkm hmc
        rw [hil]
        rcases hA with ⟨hA1, rfl, rfl⟩ | ⟨hA1, rfl, rfl⟩
        · rw [if_pos hA1, show c - k = 0 by omega] at this; exact this
        · rw [if_neg hA1] at this; exact this
      have C4 : Hid (∀ W t nn, W.heap.size = nn → Below w.heap.size w W → Calls Tryd.prog 55 #[.slice a m c, .slice (some ⟨nn, 0, none⟩) 1 1] (W.alloc (.cells #[.int .u8 10] t)) fun e' w' => e' = .returned (.int .i64 (((l.take m).count 10 : Nat) : Int)) ∧ Below W.heap.size W w') := Lib.hid fun W t nn hnn hb => by
        subst hnn
        refine (cnt_any _ _ (l.take m) _ ((HB.out _ (hb.alloc hb.size _))) (row_new W [bc 10] _ _ 1 1 rfl rfl)).mono ?_
        rintro e w1 ⟨h1, h2⟩
        exact ⟨h1, (below_a1 _ _).trans (h2.mono (by simp))⟩
      obtain ⟨q, hq⟩ : ∃ q, (l.take m).count 10 = q := ⟨_, rfl⟩
      rw [hq] at C4 HV
      have hql : q ≤ 1000000 := by rw [← hq]; have := List.count_le_length (a := (10 : UInt8)) (l := l.take m); rw [List.length_take] at this; omega
      have hyl : y ≤ 1000000 := by
        have h3 : (cntS (inL l m)).1 ≤ l.length := by
          unfold cntS; split
          · have := runs_len_le (inL l m); have h4 : (inL l m).length ≤ l.length := by rw [hil, List.length_drop, List.length_take]; omega
            simp only; omega
          · simp
        omega
      have hnl : n ≤ 1000000 := by omega
      subst hc hxb
      clear h hn hl hm hx he hxx hk hil hy hf hyy hq hi0 hi1
      go_enter Tryd.func33, Tryd.ntmps33
      go_wp2_with (first
        | (go_at_call 51; refine C1.out.mono ?_; rintro e w1 ⟨rfl, hb1⟩)
        | (go_at_call 53; refine (C2.out _ hb1).mono ?_; rintro e w2 ⟨rfl, hb2⟩; have hB2 := hb1.trans (hb2.mono hb1.size)))
      all_goals
        refine (C3.out _ _ (by first | exact .inl ⟨by assumption, rfl, rfl⟩ | exact .inr ⟨by assumption, rfl, rfl⟩) w2 hB2).mono ?_
        rintro e w3 ⟨rfl, hb3⟩
        first | subst c | clear h
        have hB3 := hB2.trans (hb3.mono hB2.size)
        by_cases hf0 : f = 0
        · have HE : Hid (plcV (placeP l (m : Int)) = .tuple #[.int .i64 (1 + (q : Int)), .int .i64 (1 + (y : Int)), .int .i64 0]) := Lib.hid (by rw [HV.out, if_neg (by simpa using hf0)])
          subst hf0
          go_wp2_with (go_at_call 55; refine (C4.out _ _ _ rfl hB3).mono ?_; rintro e w4 ⟨rfl, hb4⟩; have hB4 := hB3.trans (hb4.mono hB3.size))
          go_returns
          exact ⟨(congrArg Ending.returned HE.out).symm, hB4⟩
        · have HE : Hid (plcV (placeP l (m : Int)) = .tuple #[.int .i64 0, .int .i64 0, .int .i64 f]) := Lib.hid (by rw [HV.out, if_pos hf0])
          have hne : (f != 0) = true := by rw [bne_iff_ne]; exact hf0
          clear hf0
          go_wp2_with fail
          go_returns
          exact ⟨(congrArg Ending.returned HE.out).symm, hB3⟩
  · have HV : Hid (plcV (placeP l i) = .tuple #[.int .i64 0, .int .i64 0, .int .i64 e]) := Lib.hid (by unfold placeP; rw [← he, if_pos hc]; rfl)
    have hne : (e != 0) = true := by rw [bne_iff_ne]; exact hc
    clear h hn hcap hl hm hx he hxx hc
    go_enter Tryd.func33, Tryd.ntmps33
    go_wp2_with (go_at_call 51; refine C1.out.mono ?_; rintro e w1 ⟨rfl, hb1⟩)
    go_returns
    exact ⟨(congrArg Ending.returned HV.out).symm, hb1⟩
end Go.Proofs.YtbajikkjkiacnaaDoor
