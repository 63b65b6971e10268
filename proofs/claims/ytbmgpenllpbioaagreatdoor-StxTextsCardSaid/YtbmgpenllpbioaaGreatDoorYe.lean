/- changed, Add, Flip. (Written by tools/gen_ye.py.) -/
import Derived.Test.YtbmgpenllpbioaaGreatDoorYb
import Derived.Test.YtbmgpenllpbioaaGreatDoorYd
namespace Go.Proofs.YtbmgpenllpbioaaGreatDoor
open Go.RowKit Go.PlainAid

theorem chgS_bad {g : List UInt8 → List UInt8 × Int} {l : List Sx} (h : (chkX l).2 ≠ 0) : chgS g l = ([], (chkX l).2) := by unfold chgS; rw [if_pos h]
theorem chgS_err {g : List UInt8 → List UInt8 × Int} {l : List Sx} (h : (chkX l).2 = 0) (h2 : firstE g l ≠ 0) : chgS g l = ([], firstE g l) := by unfold chgS; rw [if_neg (by simpa using h), if_pos h2]
theorem chgS_ok {g : List UInt8 → List UInt8 × Int} {l : List Sx} (h : (chkX l).2 = 0) (h2 : firstE g l = 0) : chgS g l = (l.map (setP g), 0) := by unfold chgS; rw [if_neg (by simpa using h), if_neg (by simpa using h2)]
/-- What changed returns. -/
def ChgV (r : List Sx × Int) (w : World) (e : Ending) (w' : World) : Prop := ∃ a c, e = .returned (.tuple #[.slice a r.1.length c, .int .i64 r.2]) ∧ Hid (w'.ownsRow w.heap.size 28 8 (.slice a r.1.length c) r.1.length (xcs r.1)) ∧ Below w.heap.size w w'
theorem own_nilX (w : World) (e : TypeId) (z B : Nat) : w.ownsRow B e z (.slice none 0 0) 0 [] := ⟨by simp, .inl ⟨rfl, rfl⟩⟩
theorem chgV_err {r : List Sx × Int} {w w' : World} {er : Int} (h : r = ([], er)) (hb : Below w.heap.size w w') : ChgV r w (.returned (.tuple #[.slice none 0 0, .int .i64 er])) w' := by
  subst h; exact ⟨none, 0, rfl, Lib.hid (own_nilX _ _ _ _), hb⟩
theorem eg_change : ∀ args w, (callFunc 83 args).run Tryz.prog w = .ok (.enter 83 args) w := fun args w => by kernel_rfl

/-- How far the walk has come. -/
def ChJAdd (sc : Int) (w : World) (l : List Sx) (k : Nat) (W : World) : Prop :=
  ChSt 64 sc w.heap.size (w.heap.size + 1) ((l.take k).map (setP (fun p => oneS true true true p sc))) w W ∧ ∀ j y, j < k → l[j]? = some y → (oneS true true true y.p sc).2 = 0
def ChRAdd (sc : Int) (w : World) (l : List Sx) (_ : Nat) (er : Int) (W : World) : Prop := Below w.heap.size w W ∧ firstE (fun p => oneS true true true p sc) l = er
theorem chJAdd_step {sc : Int} {w : World} {l : List Sx} (hs : SmX l) (hl : l.length ≤ 1000000) (k : Nat) (x : Sx) (W : World) (hx : l[k]? = some x) (h : ChJAdd sc w l k W) :
    Calls Tryz.prog 83 #[.pointer (some ⟨w.heap.size, 0, none⟩), .int .i64 (k : Int), sxA x] W fun e w' => ∃ er, e = .returned (.int .i64 er) ∧ (er = 0 → ChJAdd sc w l (k + 1) w') ∧ (er ≠ 0 → ChRAdd sc w l k er w') := by
  refine (visitAdd_any sc w.heap.size (w.heap.size + 1) k x _ w W h.1 (Nat.le_refl _) (Nat.le_succ _) (hs x (List.mem_of_getElem? hx)).2 (by rw [List.length_map, List.length_take]; omega)).mono ?_
  rintro e w' ⟨rfl, hst⟩
  refine ⟨_, rfl, fun h0 => ⟨?_, fun j y hj hy => ?_⟩, fun h0 => ⟨hst.be, ?_⟩⟩
  · rw [List.take_add_one, hx, List.map_append]; exact hst
  · rcases Nat.lt_succ_iff_lt_or_eq.1 hj with hj | rfl
    · exact h.2 j y hj hy
    · rw [hx] at hy; cases hy; exact h0
  · exact firstE_at (g := fun p => oneS true true true p sc) h.2 hx h0
set_option maxRecDepth 50000 in
set_option maxHeartbeats 3200000 in
theorem changedAdd_any (sc : Int) (v : Value) (l : List Sx) (w : World) (h : XsAt w v l) (hs : SmX l) (hi : InX l) (T : STabs w) (hl : l.length ≤ 1000000) :
    Calls Tryz.prog 63 #[v, .agg #[.int .i64 sc, .func (.func 64) #[] #[], .slice none 0 0]] w (ChgV (chgS (fun p => oneS true true true p sc) l) w) := by
  obtain ⟨W0, hW0⟩ : ∃ W0, W0 = w.alloc (.cells #[.int .i64 sc, .func (.func 64) #[] #[], .slice none 0 0] 87) := ⟨_, rfl⟩
  have hb0 : Below w.heap.size w W0 := by rw [hW0]; exact below_b1 _ _
  have hx0 : W0.heap[w.heap.size]? = some (.cells #[.int .i64 sc, .func (.func 64) #[] #[], .slice none 0 0] 87 (0, 0)) := by rw [hW0]; exact World.alloc_heap_new _ _
  have hs0 : W0.heap.size = w.heap.size + 1 := by rw [hW0]; simp
  have CC := Lib.hid (check_one v l W0 (h.below hb0 (Nat.le_refl _)) hs hi (T.below hb0))
  have CW : Hid (∀ W, Below W0.heap.size W0 W → Calls Tryz.prog 47 #[v, .func (.func 83) #[.pointer (some ⟨w.heap.size, 0, none⟩)] #[]] W fun e w' => (e = .returned (.tuple #[.int .i64 0, .int .i64 0]) ∧ ChJAdd sc w l l.length w') ∨ ∃ (k : Nat) (er : Int), er ≠ 0 ∧ e = .returned (.tuple #[.int .i64 (k : Int), .int .i64 er]) ∧ ChRAdd sc w l k er w') := Lib.hid fun W hW =>
    walk_any 83 w.heap.size v l w W (ChJAdd sc w l) (ChRAdd sc w l) h hl (Lib.hid eg_change) (Lib.hid fun k W hJ => hJ.1.be) (Lib.hid fun k W o hJ => ⟨hJ.1.below (below_b1 _ _), hJ.2⟩) (Lib.hid fun k x W hx hJ => chJAdd_step hs hl k x W hx hJ)
      (Lib.hid ⟨⟨⟨.slice none 0 0, (hW.block w.heap.size (by omega)).trans hx0, own_nilX _ _ _ _⟩, hb0.trans (hW.mono hb0.size), by have := hW.size; omega⟩, fun j y hj => by omega⟩)
  have HEr := Lib.hid (fun e => chgS_bad (g := fun p => oneS true true true p sc) (l := l) e)
  have HEr2 := Lib.hid (fun e e2 => chgS_err (g := fun p => oneS true true true p sc) (l := l) e e2)
  have HOk := Lib.hid (fun e e2 => chgS_ok (g := fun p => oneS true true true p sc) (l := l) e e2)
  have HF0 : Hid ((∀ j y, j < l.length → l[j]? = some y → (oneS true true true y.p sc).2 = 0) → firstE (fun p => oneS true true true p sc) l = 0) := Lib.hid fun h0 => firstE_none fun x hx => by
    obtain ⟨j, hj⟩ := List.mem_iff_getElem?.1 hx
    exact h0 j x (List.getElem?_eq_some_iff.1 hj).1 hj
  obtain ⟨va, vc, rfl, hc⟩ := h.slice
  obtain ⟨n, hn⟩ : ∃ n, l.length = n := ⟨_, rfl⟩
  obtain ⟨z, hz⟩ : ∃ z, (chkX l).2 = z := ⟨_, rfl⟩
  rw [hz] at CC HEr HEr2 HOk
  have HN := Lib.hid hn
  rw [hn] at CC CW ⊢
  obtain ⟨r, hr⟩ : ∃ r, chgS (fun p => oneS true true true p sc) l = r := ⟨_, rfl⟩
  rw [hr] at HEr HEr2 HOk ⊢
  have HB0 := Lib.hid hb0
  clear h hs hi T hl hx0 hn hz hr hc hb0
  go_enter Tryz.func63, Tryz.ntmps63
  go_wp2_with fail
  -- MARK1
  rw [← hW0]
  rw [← hs0]
  refine CC.out.mono ?_
  rintro e w1 ⟨rfl, hb1⟩
  by_cases he : z = 0
  · subst he
    have HOk1 := Lib.hid (HOk.out rfl)
    have HEr3 := Lib.hid (HEr2.out rfl)
    clear HOk HEr2 HEr
    go_wp2_with fail
    -- MARK2
    refine (CW.out w1 hb1).mono ?_
    rintro e w2 (⟨rfl, hJ, hE⟩ | ⟨k, er, her, rfl, hR⟩)
    · obtain ⟨v2, x1, x2⟩ := hJ.bx
      have HB2 := Lib.hid hJ.be
      obtain ⟨va2, vc2, rfl⟩ := own_lenR x2
      obtain ⟨_, _, c2, _⟩ := box3_fr x1
      have HV := Lib.hid (HOk1.out (HF0.out (by rw [HN.out]; exact hE)))
      have e1 : (l.take n).map (setP (fun p => oneS true true true p sc)) = l.map (setP (fun p => oneS true true true p sc)) := by rw [List.take_of_length_le (Nat.le_of_eq HN.out)]
      rw [e1] at c2
      rw [e1] at x2
      have HX2 := Lib.hid x2
      clear x1 x2 hE hJ e1
      go_wp2_with fail
      -- MARK3
      go_ret2
      refine ⟨va2, vc2, by rw [HV.out]; simp only [List.length_map]; rfl, Lib.hid ?_, HB2.out⟩
      rw [HV.out]
      exact own_mono HX2.out (Nat.le_succ _)
    · have hne : (er != 0) = true := bne_iff_ne.2 her
      have HV : Hid (r = ([], er)) := Lib.hid (by have := HEr3.out (by rw [hR.2]; exact her); rw [this, hR.2])
      have HB2 := Lib.hid hR.1
      clear her hR
      go_wp2_with fail
      go_ret2
      exact chgV_err HV.out HB2.out
  · have hne : (z != 0) = true := bne_iff_ne.2 he
    have HV := Lib.hid (HEr.out he)
    have HB2 := Lib.hid (HB0.out.trans (hb1.mono HB0.out.size))
    clear he
    go_wp2_with fail
    go_ret2
    exact chgV_err HV.out HB2.out
set_option maxRecDepth 50000 in
theorem Add_any (sc : Int) (v : Value) (l : List Sx) (w : World) (h : XsAt w v l) (hs : SmX l) (hi : InX l) (T : STabs w) (hl : l.length ≤ 1000000) :
    Calls Tryz.prog 34 #[v, .int .i64 sc] w (ChgV (chgS (fun p => oneS true true true p sc) l) w) := by
  have C := Lib.hid (changedAdd_any sc v l w h hs hi T hl)
  obtain ⟨r, hr⟩ : ∃ r, chgS (fun p => oneS true true true p sc) l = r := ⟨_, rfl⟩
  rw [hr] at C ⊢
  obtain ⟨va, vc, rfl, hc⟩ := h.slice
  obtain ⟨n, hn⟩ : ∃ n, l.length = n := ⟨_, rfl⟩
  rw [hn] at C ⊢
  clear h hs hi T hl hr hc hn
  go_enter Tryz.func34, Tryz.ntmps34
  go_wp2_with fail
  -- MARK4
  refine C.out.mono ?_
  rintro e w1 ⟨a, c, rfl, ho, hb⟩
  go_wp2_with fail
  go_ret2
  exact ⟨a, c, rfl, ho, hb⟩

/-- How far the walk has come. -/
def ChJFlip (sc : Int) (w : World) (l : List Sx) (k : Nat) (W : World) : Prop :=
  ChSt 65 sc w.heap.size (w.heap.size + 1) ((l.take k).map (setP (fun p => oneS true false true p sc))) w W ∧ ∀ j y, j < k → l[j]? = some y → (oneS true false true y.p sc).2 = 0
def ChRFlip (sc : Int) (w : World) (l : List Sx) (_ : Nat) (er : Int) (W : World) : Prop := Below w.heap.size w W ∧ firstE (fun p => oneS true false true p sc) l = er
theorem chJFlip_step {sc : Int} {w : World} {l : List Sx} (hs : SmX l) (hl : l.length ≤ 1000000) (k : Nat) (x : Sx) (W : World) (hx : l[k]? = some x) (h : ChJFlip sc w l k W) :
    Calls Tryz.prog 83 #[.pointer (some ⟨w.heap.size, 0, none⟩), .int .i64 (k : Int), sxA x] W fun e w' => ∃ er, e = .returned (.int .i64 er) ∧ (er = 0 → ChJFlip sc w l (k + 1) w') ∧ (er ≠ 0 → ChRFlip sc w l k er w') := by
  refine (visitFlip_any sc w.heap.size (w.heap.size + 1) k x _ w W h.1 (Nat.le_refl _) (Nat.le_succ _) (hs x (List.mem_of_getElem? hx)).2 (by rw [List.length_map, List.length_take]; omega)).mono ?_
  rintro e w' ⟨rfl, hst⟩
  refine ⟨_, rfl, fun h0 => ⟨?_, fun j y hj hy => ?_⟩, fun h0 => ⟨hst.be, ?_⟩⟩
  · rw [List.take_add_one, hx, List.map_append]; exact hst
  · rcases Nat.lt_succ_iff_lt_or_eq.1 hj with hj | rfl
    · exact h.2 j y hj hy
    · rw [hx] at hy; cases hy; exact h0
  · exact firstE_at (g := fun p => oneS true false true p sc) h.2 hx h0
set_option maxRecDepth 50000 in
set_option maxHeartbeats 3200000 in
theorem changedFlip_any (sc : Int) (v : Value) (l : List Sx) (w : World) (h : XsAt w v l) (hs : SmX l) (hi : InX l) (T : STabs w) (hl : l.length ≤ 1000000) :
    Calls Tryz.prog 63 #[v, .agg #[.int .i64 sc, .func (.func 65) #[] #[], .slice none 0 0]] w (ChgV (chgS (fun p => oneS true false true p sc) l) w) := by
  obtain ⟨W0, hW0⟩ : ∃ W0, W0 = w.alloc (.cells #[.int .i64 sc, .func (.func 65) #[] #[], .slice none 0 0] 87) := ⟨_, rfl⟩
  have hb0 : Below w.heap.size w W0 := by rw [hW0]; exact below_b1 _ _
  have hx0 : W0.heap[w.heap.size]? = some (.cells #[.int .i64 sc, .func (.func 65) #[] #[], .slice none 0 0] 87 (0, 0)) := by rw [hW0]; exact World.alloc_heap_new _ _
  have hs0 : W0.heap.size = w.heap.size + 1 := by rw [hW0]; simp
  have CC := Lib.hid (check_one v l W0 (h.below hb0 (Nat.le_refl _)) hs hi (T.below hb0))
  have CW : Hid (∀ W, Below W0.heap.size W0 W → Calls Tryz.prog 47 #[v, .func (.func 83) #[.pointer (some ⟨w.heap.size, 0, none⟩)] #[]] W fun e w' => (e = .returned (.tuple #[.int .i64 0, .int .i64 0]) ∧ ChJFlip sc w l l.length w') ∨ ∃ (k : Nat) (er : Int), er ≠ 0 ∧ e = .returned (.tuple #[.int .i64 (k : Int), .int .i64 er]) ∧ ChRFlip sc w l k er w') := Lib.hid fun W hW =>
    walk_any 83 w.heap.size v l w W (ChJFlip sc w l) (ChRFlip sc w l) h hl (Lib.hid eg_change) (Lib.hid fun k W hJ => hJ.1.be) (Lib.hid fun k W o hJ => ⟨hJ.1.below (below_b1 _ _), hJ.2⟩) (Lib.hid fun k x W hx hJ => chJFlip_step hs hl k x W hx hJ)
      (Lib.hid ⟨⟨⟨.slice none 0 0, (hW.block w.heap.size (by omega)).trans hx0, own_nilX _ _ _ _⟩, hb0.trans (hW.mono hb0.size), by have := hW.size; omega⟩, fun j y hj => by omega⟩)
  have HEr := Lib.hid (fun e => chgS_bad (g := fun p => oneS true false true p sc) (l := l) e)
  have HEr2 := Lib.hid (fun e e2 => chgS_err (g := fun p => oneS true false true p sc) (l := l) e e2)
  have HOk := Lib.hid (fun e e2 => chgS_ok (g := fun p => oneS true false true p sc) (l := l) e e2)
  have HF0 : Hid ((∀ j y, j < l.length → l[j]? = some y → (oneS true false true y.p sc).2 = 0) → firstE (fun p => oneS true false true p sc) l = 0) := Lib.hid fun h0 => firstE_none fun x hx => by
    obtain ⟨j, hj⟩ := List.mem_iff_getElem?.1 hx
    exact h0 j x (List.getElem?_eq_some_iff.1 hj).1 hj
  obtain ⟨va, vc, rfl, hc⟩ := h.slice
  obtain ⟨n, hn⟩ : ∃ n, l.length = n := ⟨_, rfl⟩
  obtain ⟨z, hz⟩ : ∃ z, (chkX l).2 = z := ⟨_, rfl⟩
  rw [hz] at CC HEr HEr2 HOk
  have HN := Lib.hid hn
  rw [hn] at CC CW ⊢
  obtain ⟨r, hr⟩ : ∃ r, chgS (fun p => oneS true false true p sc) l = r := ⟨_, rfl⟩
  rw [hr] at HEr HEr2 HOk ⊢
  have HB0 := Lib.hid hb0
  clear h hs hi T hl hx0 hn hz hr hc hb0
  go_enter Tryz.func63, Tryz.ntmps63
  go_wp2_with fail
  -- MARK1
  rw [← hW0]
  rw [← hs0]
  refine CC.out.mono ?_
  rintro e w1 ⟨rfl, hb1⟩
  by_cases he : z = 0
  · subst he
    have HOk1 := Lib.hid (HOk.out rfl)
    have HEr3 := Lib.hid (HEr2.out rfl)
    clear HOk HEr2 HEr
    go_wp2_with fail
    -- MARK2
    refine (CW.out w1 hb1).mono ?_
    rintro e w2 (⟨rfl, hJ, hE⟩ | ⟨k, er, her, rfl, hR⟩)
    · obtain ⟨v2, x1, x2⟩ := hJ.bx
      have HB2 := Lib.hid hJ.be
      obtain ⟨va2, vc2, rfl⟩ := own_lenR x2
      obtain ⟨_, _, c2, _⟩ := box3_fr x1
      have HV := Lib.hid (HOk1.out (HF0.out (by rw [HN.out]; exact hE)))
      have e1 : (l.take n).map (setP (fun p => oneS true false true p sc)) = l.map (setP (fun p => oneS true false true p sc)) := by rw [List.take_of_length_le (Nat.le_of_eq HN.out)]
      rw [e1] at c2
      rw [e1] at x2
      have HX2 := Lib.hid x2
      clear x1 x2 hE hJ e1
      go_wp2_with fail
      -- MARK3
      go_ret2
      refine ⟨va2, vc2, by rw [HV.out]; simp only [List.length_map]; rfl, Lib.hid ?_, HB2.out⟩
      rw [HV.out]
      exact own_mono HX2.out (Nat.le_succ _)
    · have hne : (er != 0) = true := bne_iff_ne.2 her
      have HV : Hid (r = ([], er)) := Lib.hid (by have := HEr3.out (by rw [hR.2]; exact her); rw [this, hR.2])
      have HB2 := Lib.hid hR.1
      clear her hR
      go_wp2_with fail
      go_ret2
      exact chgV_err HV.out HB2.out
  · have hne : (z != 0) = true := bne_iff_ne.2 he
    have HV := Lib.hid (HEr.out he)
    have HB2 := Lib.hid (HB0.out.trans (hb1.mono HB0.out.size))
    clear he
    go_wp2_with fail
    go_ret2
    exact chgV_err HV.out HB2.out
set_option maxRecDepth 50000 in
theorem Flip_any (sc : Int) (v : Value) (l : List Sx) (w : World) (h : XsAt w v l) (hs : SmX l) (hi : InX l) (T : STabs w) (hl : l.length ≤ 1000000) :
    Calls Tryz.prog 36 #[v, .int .i64 sc] w (ChgV (chgS (fun p => oneS true false true p sc) l) w) := by
  have C := Lib.hid (changedFlip_any sc v l w h hs hi T hl)
  obtain ⟨r, hr⟩ : ∃ r, chgS (fun p => oneS true false true p sc) l = r := ⟨_, rfl⟩
  rw [hr] at C ⊢
  obtain ⟨va, vc, rfl, hc⟩ := h.slice
  obtain ⟨n, hn⟩ : ∃ n, l.length = n := ⟨_, rfl⟩
  rw [hn] at C ⊢
  clear h hs hi T hl hr hc hn
  go_enter Tryz.func36, Tryz.ntmps36
  go_wp2_with fail
  -- MARK4
  refine C.out.mono ?_
  rintro e w1 ⟨a, c, rfl, ho, hb⟩
  go_wp2_with fail
  go_ret2
  exact ⟨a, c, rfl, ho, hb⟩
-- MARK9
end Go.Proofs.YtbmgpenllpbioaaGreatDoor
