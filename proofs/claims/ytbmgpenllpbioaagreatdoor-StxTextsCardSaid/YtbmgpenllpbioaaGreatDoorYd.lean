/- checkAll. -/
import Derived.Test.YtbmgpenllpbioaaGreatDoorYq
namespace Go.Proofs.YtbmgpenllpbioaaGreatDoor
open Go.RowKit Go.PlainAid

/-- The slice value v holds the trees ls. -/
def LsAt (w : World) (v : Value) (ls : List (List Sx)) : Prop :=
  ∃ a n c, v = .slice a n c ∧ n = ls.length ∧ (ls = [] ∨ ∃ g off, a = some ⟨g, off, none⟩ ∧ g < w.heap.size ∧ ∀ (j : Nat) (t : List Sx), ls[j]? = some t → ∃ vt, w.cell? ⟨g, off + j, none⟩ = some vt ∧ XsAt w vt t)
theorem LsAt.below {w w' : World} {v : Value} {ls : List (List Sx)} (h : LsAt w v ls) (hb : Below w.heap.size w w') : LsAt w' v ls := by
  obtain ⟨a, n, c, e, hn, h⟩ := h
  refine ⟨a, n, c, e, hn, h.imp id ?_⟩
  rintro ⟨g, off, rfl, hg, hcell⟩
  refine ⟨g, off, rfl, Nat.lt_of_lt_of_le hg hb.size, fun j t hj => ?_⟩
  obtain ⟨vt, h1, h2⟩ := hcell j t hj
  exact ⟨vt, (hb.cell (p := ⟨g, off + j, none⟩) hg).trans h1, h2.below hb (Nat.le_refl _)⟩
theorem ls_lit {w : World} {ls : List (List Sx)} {vs : List Value} (n : Nat) (hn : ls.length = n) (hv : ∀ (j : Nat) (t : List Sx), ls[j]? = some t → ∃ vt, vs[j]? = some vt ∧ XsAt w vt t) (ty : TypeId) :
    LsAt (w.alloc (.cells vs.toArray ty)) (.slice (some ⟨w.heap.size, 0, none⟩) n n) ls := by
  refine ⟨_, n, n, rfl, hn.symm, .inr ⟨w.heap.size, 0, rfl, by rw [World.size_alloc]; omega, fun j t hj => ?_⟩⟩
  obtain ⟨vt, h1, h2⟩ := hv j t hj
  refine ⟨vt, ?_, h2.below (below_b1 _ _) (Nat.le_refl _)⟩
  have h := World.alloc_heap_new w (.cells vs.toArray ty)
  rw [Nat.zero_add]
  simp only [World.cell?, h, Option.isSome_none]
  simpa using h1
theorem ls_one {w : World} {v : Value} {l : List Sx} (h : XsAt w v l) (ty : TypeId) : LsAt (w.alloc (.cells #[v] ty)) (.slice (some ⟨w.heap.size, 0, none⟩) 1 1) [l] :=
  ls_lit (vs := [v]) 1 rfl (fun j t hj => by
    cases j with
    | zero => simp at hj; subst hj; exact ⟨v, rfl, h⟩
    | succ j => simp at hj) ty
theorem ls_two {w : World} {v u : Value} {l s : List Sx} (h : XsAt w v l) (h2 : XsAt w u s) (ty : TypeId) : LsAt (w.alloc (.cells #[v, u] ty)) (.slice (some ⟨w.heap.size, 0, none⟩) 2 2) [l, s] :=
  ls_lit (vs := [v, u]) 2 rfl (fun j t hj => by
    match j, hj with
    | 0, hj => simp at hj; subst hj; exact ⟨v, rfl, h⟩
    | 1, hj => simp at hj; subst hj; exact ⟨u, rfl, h2⟩
    | j + 2, hj => simp at hj) ty
theorem allX_step {ls : List (List Sx)} {k : Nat} {t : List Sx} (h : ls[k]? = some t) (h0 : (chkX t).2 = 0) : allX (ls.drop k) = allX (ls.drop (k + 1)) := by
  obtain ⟨hk, e⟩ := List.getElem?_eq_some_iff.1 h
  rw [List.drop_eq_getElem_cons hk, e, allX, if_neg (by simpa using h0)]
theorem allX_stop {ls : List (List Sx)} {k : Nat} {t : List Sx} (h : ls[k]? = some t) (h0 : (chkX t).2 ≠ 0) : allX (ls.drop k) = (chkX t).2 := by
  obtain ⟨hk, e⟩ := List.getElem?_eq_some_iff.1 h
  rw [List.drop_eq_getElem_cons hk, e, allX, if_pos h0]
set_option maxRecDepth 50000 in
set_option maxHeartbeats 3200000 in
theorem checkAll_any (v : Value) (ls : List (List Sx)) (w : World) (h : LsAt w v ls) (hs : ∀ t ∈ ls, SmX t ∧ InX t) (T : STabs w) (hl : ls.length ≤ 1000000) :
    Calls Tryz.prog 56 #[v] w fun e w' => e = .returned (.int .i64 (allX ls)) ∧ Below w.heap.size w w' := by
  have HC := Lib.hid (fun (k : Nat) (t : List Sx) (hk : ls[k]? = some t) vt W (hW : Below w.heap.size w W) (hx : XsAt W vt t) => Check_x vt t W hx (hs t (List.mem_of_getElem? hk)).1 (hs t (List.mem_of_getElem? hk)).2 (T.below hW))
  obtain ⟨a, n, c, rfl, hn, hr⟩ := h
  have HN := Lib.hid hn
  rw [← hn] at hl
  have HR := Lib.hid hr
  clear hn hr hs T
  go_enter Tryz.func56, Tryz.ntmps56
  go_wp2_with fail
  -- MARK1
  go_loopw [9] (fun x9 wr => ∃ k : Nat, x9 = .int .i64 (k : Int) ∧ k ≤ n ∧ Hid (allX ls = allX (ls.drop k)) ∧ Below w.heap.size w wr) (fun x9 _ => n - (intOf x9).toNat)
  case atStart => exact ⟨0, rfl, Nat.zero_le _, Lib.hid (by rw [List.drop_zero]), Below.refl _ _⟩
  case round =>
    obtain ⟨k, rfl, hk, HK, hb⟩ := hrel
    have hk0 : (0 : Int) ≤ (k : Int) := Int.natCast_nonneg _
    by_cases hlt : k < n
    · obtain ⟨t, ht⟩ : ∃ t, ls[k]? = some t := ⟨_, List.getElem?_eq_getElem (by rw [← HN.out]; exact hlt)⟩
      rcases HR.out with h0 | ⟨g, off, rfl, hg, hcell⟩
      · rw [h0] at ht; simp at ht
      obtain ⟨vt, h1, h2⟩ := hcell k t ht
      have c0 := (hb.cell (p := ⟨g, off + k, none⟩) hg).trans h1
      have C := Lib.hid (HC.out k t ht vt wr hb (h2.below hb (Nat.le_refl _)))
      obtain ⟨va, vc, rfl, _⟩ := h2.slice
      have hk1 : (k : Int) < (n : Int) := by omega
      unfold chkXV at C
      obtain ⟨⟨z, er⟩, hz⟩ : ∃ r, chkX t = r := ⟨_, rfl⟩
      rw [hz] at C
      simp only at C
      by_cases he : er = 0
      · subst he
        have HS := Lib.hid (HK.out.trans (allX_step ht (by rw [hz])))
        clear hcell h1 h2 ht hz
        go_wp2_with fail
        refine C.out.mono ?_
        rintro e w1 ⟨rfl, hb1⟩
        go_wp2_with fail
        go_roundw
        case rel => exact ⟨k + 1, by go_num, by omega, HS, below_step hb hb1⟩
        case measure => simp [intOf]; omega
      · have hne : (er != 0) = true := bne_iff_ne.2 he
        have HS := Lib.hid (HK.out.trans (allX_stop ht (by rw [hz]; exact he)))
        rw [hz] at HS
        clear hcell h1 h2 ht hz he
        go_wp2_with fail
        refine C.out.mono ?_
        rintro e w1 ⟨rfl, hb1⟩
        go_wp2_with fail
        go_ret
        exact ⟨by rw [HS.out]; rfl, below_step hb hb1⟩
    · obtain rfl : k = n := by omega
      have HS : Hid (allX ls = 0) := Lib.hid (by rw [HK.out, List.drop_of_length_le (Nat.le_of_eq HN.out.symm)]; rfl)
      go_wp2_with fail
      go_ret
      exact ⟨by rw [HS.out]; rfl, hb⟩
theorem check_one (v : Value) (l : List Sx) (w : World) (h : XsAt w v l) (hs : SmX l) (hi : InX l) (T : STabs w) :
    Calls Tryz.prog 56 #[.slice (some ⟨w.heap.size, 0, none⟩) 1 1] (w.alloc (.cells #[v] 22)) fun e w' => e = .returned (.int .i64 (chkX l).2) ∧ Below w.heap.size w w' := by
  have := checkAll_any _ _ _ (ls_one h 22) (fun t ht => by obtain rfl := List.mem_singleton.1 ht; exact ⟨hs, hi⟩) (T.below (below_b1 _ _)) (by simp)
  rw [allX_one] at this
  refine this.mono ?_
  rintro e w' ⟨rfl, hb⟩
  exact ⟨rfl, (below_b1 w _).trans (hb.mono (below_b1 w _).size)⟩
theorem check_two (v u : Value) (l s : List Sx) (w : World) (h : XsAt w v l) (h2 : XsAt w u s) (hs : SmX l) (hi : InX l) (hs2 : SmX s) (hi2 : InX s) (T : STabs w) :
    Calls Tryz.prog 56 #[.slice (some ⟨w.heap.size, 0, none⟩) 2 2] (w.alloc (.cells #[v, u] 22)) fun e w' => e = .returned (.int .i64 (if (chkX l).2 ≠ 0 then (chkX l).2 else (chkX s).2)) ∧ Below w.heap.size w w' := by
  have := checkAll_any _ _ _ (ls_two h h2 22) (fun t ht => by
    rcases List.mem_cons.1 ht with e | e
    · rw [e]; exact ⟨hs, hi⟩
    · obtain rfl := List.mem_singleton.1 e; exact ⟨hs2, hi2⟩) (T.below (below_b1 _ _)) (by simp)
  have e : allX [l, s] = if (chkX l).2 ≠ 0 then (chkX l).2 else (chkX s).2 := by
    have h1 := allX_one s
    show (if (chkX l).2 ≠ 0 then (chkX l).2 else allX [s]) = _
    rw [h1]
  rw [e] at this
  refine this.mono ?_
  rintro e w' ⟨rfl, hb⟩
  exact ⟨rfl, (below_b1 w _).trans (hb.mono (below_b1 w _).size)⟩
-- MARK9
end Go.Proofs.YtbmgpenllpbioaaGreatDoor
