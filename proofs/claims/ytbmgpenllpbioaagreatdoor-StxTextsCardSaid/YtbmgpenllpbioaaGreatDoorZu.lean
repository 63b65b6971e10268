import Derived.Test.YtbmgpenllpbioaaGreatDoorSk
import Derived.Maps.AppendAt
/- scopes.setOf; mergeOne, mergeTwo, and the functions that are made of them. -/
namespace Go.Proofs.YtbmgpenllpbioaaGreatDoor
open Go.RowKit Go.PlainAid

/-- The slice value v holds the scopes l. -/
def NatAt (w : World) (v : Value) (l : List Nat) : Prop :=
  ∃ a n c, v = .slice a n c ∧ n = l.length ∧ n ≤ c ∧ (l = [] ∨ ∃ g off, a = some ⟨g, off, none⟩ ∧ g < w.heap.size ∧ ∀ (j x : Nat), l[j]? = some x → w.cell? ⟨g, off + j, none⟩ = some (.int .i64 (x : Int)))
theorem NatAt.below {B : Nat} {w w' : World} {v : Value} {l : List Nat} (h : NatAt w v l) (hb : Below B w w') (hB : w.heap.size ≤ B) : NatAt w' v l := by
  obtain ⟨a, n, c, e, hn, hc, h⟩ := h
  refine ⟨a, n, c, e, hn, hc, h.imp id ?_⟩
  rintro ⟨g, off, rfl, hg, hcell⟩
  exact ⟨g, off, rfl, Nat.lt_of_lt_of_le hg hb.size, fun j u hj => (hb.cell (p := ⟨g, off + j, none⟩) (by show g < B; omega)).trans (hcell j u hj)⟩
theorem hi_conv {x : Nat} (h : x < 65536) : ((hiB x).toNat : Int) = (x : Int) / 256 ∧ ((loB x).toNat : Int) = (x : Int) % 256 := by
  rw [hi_nat h, lo_nat]; omega
set_option maxRecDepth 100000 in
set_option maxHeartbeats 3200000 in
theorem setOf_any (v : Value) (l : List Nat) (w : World) (h : NatAt w v l) (hx : ∀ x ∈ l, x < 65536) (hl : l.length ≤ 100000) :
    Calls Tryz.prog 101 #[v] w fun e w' => e = .returned (.string (str (setL l))) ∧ Below w.heap.size w w' := by
  obtain ⟨a, n, c, rfl, hn, hc, hm⟩ := h
  have HM := Lib.hid hm
  have HN := Lib.hid hn
  have HX := Lib.hid hx
  have hnb : n ≤ 100000 := by omega
  clear hm hn hx hl
  obtain ⟨i0, hi, hj0, hj1, hj2⟩ := info_parts2 infoU8
  go_enter Tryz.func101, Tryz.ntmps101
  go_wp2
  go_loopw [3, 8] (fun x3 x8 wr => ∃ (k : Nat), x8 = .int .i64 (k : Int) ∧ k ≤ n ∧ wr.ownsRow w.heap.size 5 1 x3 (2 * k) ((setL (l.take k)).map bc) ∧ Below w.heap.size w wr) (fun _ x8 _ => n - (intOf x8).toNat)
  case atStart => exact ⟨0, rfl, Nat.zero_le _, ⟨rfl, .inl ⟨rfl, rfl⟩⟩, Below.refl _ _⟩
  case round =>
    obtain ⟨k, rfl, hk, hown, hbel⟩ := hrel
    have HO := Lib.hid hown
    have HB := Lib.hid hbel
    obtain ⟨va, vc, rfl⟩ := own_len hown
    clear hown hbel
    by_cases hlt : k < n
    · obtain ⟨x, hxk⟩ : ∃ x, l[k]? = some x := ⟨_, List.getElem?_eq_getElem (by rw [← HN.out]; exact hlt)⟩
      have hx64 := HX.out x (List.mem_of_getElem? hxk)
      rcases HM.out with hl0 | ⟨g, off, rfl, hg, hcell⟩
      · rw [hl0] at hxk; cases hxk
      have c0 := (HB.out.cell (p := ⟨g, off + k, none⟩) hg).trans (hcell k x hxk)
      have HT : Hid ((setL (l.take (k + 1))).map bc = (setL (l.take k)).map bc ++ [bc (hiB x), bc (loB x)]) := Lib.hid (by rw [← take_snocN hxk, setL_app, List.map_append]; rfl)
      have hk0 : (0 : Int) ≤ (k : Int) := Int.natCast_nonneg _
      have hk1 : (k : Int) < (n : Int) := by omega
      obtain ⟨hh, hlo⟩ := hi_conv hx64
      clear hxk hcell
      have hbs := HB.out.size
      have e8 : bc (hiB x) = .int .u8 ((x : Int) / 256) := by unfold bc; rw [hh]
      have e9 : bc (loB x) = .int .u8 ((x : Int) % 256) := by unfold bc; rw [hlo]
      rw [e8, e9] at HT
      clear e8 e9 hh hlo
      go_wp2_with (at_builtin; refine wpList_append_own _ rfl _ _ 88 rfl w.heap.size 5 i0 (.int .u8 0) 1 1 Tryz.underlying88 hi hj0 hj1 hj2 rfl (by decide) _ _ _ rfl (HO.out.alloc _) ⟨wr.heap.size, 0, none⟩ 2 2 [.int .u8 ((x : Int) / 256), .int .u8 ((x : Int) % 256)] rfl rfl (new_cells2 wr _ _ _ _ rfl) (one_ints rfl) (by unfold maxLen; omega) (by omega) (by rw [World.size_alloc]; omega) ?_; intro v' w3 hown' hgrow _; obtain ⟨b3, cb3, rfl⟩ := own_len hown'; have HB3 : Below w.heap.size w w3 := (HB.out.alloc hbs _).grown hgrow (by rw [World.size_alloc]; omega) (fun q hq => (HO.out.lt q hq).1))
      exact ⟨⟨k + 1, by go_num, by omega, by rw [HT.out]; exact hown', HB3⟩, by simp [intOf]; omega⟩
    · obtain rfl : k = n := by omega
      have HE : Hid (l.take k = l) := Lib.hid (List.take_of_length_le (by rw [HN.out]; exact Nat.le_refl _))
      have hcv := conv_own Tryz.underlying88 Tryz.underlying5 HO.out 9 Tryz.underlying9
      rw [HE.out] at hcv
      have hd0 : decide ((k : Int) < (k : Int)) = false := decide_eq_false (Int.lt_irrefl _)
      go_wp2
      go_ret
      exact ⟨rfl, HB.out⟩
-- MARK8
end Go.Proofs.YtbmgpenllpbioaaGreatDoor

/- mergeTwo, mergeOne, within, and the functions that are made of them: Add, Drop, Flip, Union, Meet, Minus, Sub, Has. -/
namespace Go.Proofs.YtbmgpenllpbioaaGreatDoor
open Go.RowKit Go.PlainAid

theorem below_step {w w1 w2 : World} (h : Below w.heap.size w w1) (h2 : Below w1.heap.size w1 w2) : Below w.heap.size w w2 := h.trans (h2.mono h.size)
/-- Two results: a string, an error. -/
def strE (r : List UInt8 × Int) : Value := .tuple #[.string (str r.1), .int .i64 r.2]
theorem box3_at {w : World} {f b s : Bool} : (w.alloc (.cells #[.bool f, .bool b, .bool s] 107)).heap[w.heap.size]? = some (.cells #[.bool f, .bool b, .bool s] 107 (0, 0)) := World.alloc_heap_new _ _
theorem box3_cells {w : World} {p : Nat} {f b s : Bool} (h : w.heap[p]? = some (.cells #[.bool f, .bool b, .bool s] 107 (0, 0))) :
    w.cell? ⟨p, 0, none⟩ = some (.bool f) ∧ w.cell? ⟨p, 1, none⟩ = some (.bool b) ∧ w.cell? ⟨p, 2, none⟩ = some (.bool s) := by
  refine ⟨?_, ?_, ?_⟩ <;> simp [World.cell?, h]
theorem one_lt {k : Nat} (h : k < 65536) : ∀ x ∈ [k], x < 65536 := by simpa using h
theorem natRow (w : World) (n : Nat) : NatAt (w.alloc (.cells #[.int .i64 (n : Int)] 3)) (.slice (some ⟨w.heap.size, 0, none⟩) 1 1) [n] := by
  refine ⟨_, _, _, rfl, rfl, Nat.le_refl _, .inr ⟨_, _, rfl, by simp, fun j x hj => ?_⟩⟩
  have h := new_cells w [.int .i64 (n : Int)] 3
  cases j with
  | zero =>
    obtain rfl : n = x := by simpa using hj
    exact h 0 _ rfl
  | succ j => simp at hj
set_option maxRecDepth 100000 in
set_option maxHeartbeats 3200000 in
theorem mergeOne_any (f b s : Bool) (A : List UInt8) (n : Int) (w : World) (hA : A.length ≤ 100000) :
    Calls Tryz.prog 84 #[.string (str A), .int .i64 n, choV f b s] w fun e w' => e = .returned (strE (oneS f b s A n)) ∧ Below w.heap.size w w' := by
  have C := Lib.hid (fun W => checkWith_any A n W (by omega))
  have hb0 : Below w.heap.size w (w.alloc (.cells #[.bool f, .bool b, .bool s] 107)) := (Below.refl _ w).alloc (Nat.le_refl _) _
  unfold strE choV
  by_cases h0 : oneE A n = 0
  · obtain ⟨l, rfl, hl⟩ := set_of (oneE_ok h0).1
    obtain ⟨k, rfl⟩ : ∃ k : Nat, n = k := ⟨n.toNat, by have := (oneE_ok h0).2.1; omega⟩
    have hk : k < 65536 := by have := (oneE_ok h0).2.2; omega
    have CS : Hid (∀ W : World, Calls Tryz.prog 101 #[.slice (some ⟨W.heap.size, 0, none⟩) 1 1] (W.alloc (.cells #[.int .i64 (k : Int)] 3)).drew fun e w' => e = .returned (.string (str (setL [k]))) ∧ Below W.heap.size W w') := Lib.hid (fun W => by
      have hB : Below W.heap.size W (W.alloc (.cells #[.int .i64 (k : Int)] 3)).drew := ((Below.refl _ W).alloc (Nat.le_refl _) _).drew
      exact (setOf_any _ [k] _ ((natRow W k).below (Below.refl _ _).drew (Nat.le_refl _)) (one_lt hk) (by show 1 ≤ 100000; omega)).mono fun e w' h => ⟨h.1, below_step hB h.2⟩)
    have CM := Lib.hid (fun W => merge_any f b s l [k] W hl.lt (one_lt hk) (by have := hl.few; omega) (by show 1 ≤ 100000; omega))
    have CLm := Lib.hid (fun W => limited_any (mg f b s l [k]) W (by have := mg_len' f b s l [k]; have := hl.few; have e1 : ([k] : List Nat).length = 1 := rfl; omega))
    have HV : Hid (oneS f b s (setL l) (k : Int) = outS (mg f b s l [k])) := Lib.hid (one_set hl hk)
    rw [h0] at C
    unfold choV at CM
    obtain ⟨S, hS⟩ : ∃ S, str (setL l) = S := ⟨_, rfl⟩
    obtain ⟨T, hT⟩ : ∃ T, str (setL [k]) = T := ⟨_, rfl⟩
    obtain ⟨R, hR⟩ : ∃ R, str (setL (mg f b s l [k])) = R := ⟨_, rfl⟩
    rw [hS] at C CM
    rw [hT] at CS CM
    rw [hR] at CM CLm
    rw [HV.out, hS]
    obtain ⟨o1, ho1⟩ : ∃ o, str (outS (mg f b s l [k])).1 = o := ⟨_, rfl⟩
    obtain ⟨o2, ho2⟩ : ∃ o, (outS (mg f b s l [k])).2 = o := ⟨_, rfl⟩
    rw [ho1, ho2] at CLm ⊢
    clear hS hT hR ho1 ho2 h0 HV hl hk
    go_enter Tryz.func84, Tryz.ntmps84
    go_wp2_with fail
    refine (C.out _).mono ?_
    rintro e w1 ⟨rfl, hb1⟩
    have hx1 := (hb1.block _ (by simp)).trans (box3_at (w := w) (f := f) (b := b) (s := s))
    have hbA := below_step hb0 hb1
    obtain ⟨p, hp⟩ : ∃ p, w.heap.size = p := ⟨_, rfl⟩
    rw [hp] at hx1
    have hlt1 := (Array.getElem?_eq_some_iff.1 hx1).1
    have HX : Hid (∀ W, Below w1.heap.size w1 W → W.cell? ⟨p, 0, none⟩ = some (.bool f) ∧ W.cell? ⟨p, 1, none⟩ = some (.bool b) ∧ W.cell? ⟨p, 2, none⟩ = some (.bool s)) := Lib.hid fun W hW => box3_cells ((hW.block _ hlt1).trans hx1)
    have HB := Lib.hid hbA
    clear hx1 hb1 hbA hb0
    rw [hp]
    go_wp2_with fail
    have k0 : w1.drew.cell? ⟨p, 0, none⟩ = some (.bool f) := (HX.out _ (Below.refl _ _)).1
    have k1 : w1.drew.cell? ⟨p, 1, none⟩ = some (.bool b) := (HX.out _ (Below.refl _ _)).2.1
    have k2 : w1.drew.cell? ⟨p, 2, none⟩ = some (.bool s) := (HX.out _ (Below.refl _ _)).2.2
    obtain ⟨k3, k4, k5⟩ := HX.out (w1.alloc (.cells #[.int .i64 (k : Int)] 3)).drew (((Below.refl _ w1).alloc (Nat.le_refl _) _).drew)
    -- MARK1
    go_region_held3 (fun w' => w'.cell? ⟨p, 0, none⟩ = some (.bool f) ∧ w'.cell? ⟨p, 1, none⟩ = some (.bool b) ∧ w'.cell? ⟨p, 2, none⟩ = some (.bool s)) (first | exact ⟨k0, k1, k2⟩ | exact ⟨k3, k4, k5⟩ | exact ⟨q0, q1, q2⟩ | exact ⟨q3, q4, q5⟩)
      (first
        | (go_at_call 101; refine (CS.out w1).mono ?_; rintro e w2 ⟨rfl, hb2⟩; obtain ⟨q0, q1, q2⟩ := HX.out _ hb2)
        | (go_at_call 100; refine (CM.out _).mono ?_; rintro e w3 ⟨rfl, hb3⟩; have hb4 := below_step hb2 hb3; obtain ⟨q3, q4, q5⟩ := HX.out _ hb4)
        | (go_at_call 99; refine (CLm.out _).mono ?_; rintro e w4 ⟨rfl, rfl⟩))
    go_wp2_with fail
    go_ret2
    exact ⟨rfl, below_step HB.out hb4⟩
  · have HV : Hid (oneS f b s A n = ([], oneE A n)) := Lib.hid (one_no h0)
    rw [HV.out]
    obtain ⟨e0, he0⟩ : ∃ e, oneE A n = e := ⟨_, rfl⟩
    rw [he0] at h0 C ⊢
    have hne : (e0 != 0) = true := bne_iff_ne.2 h0
    obtain ⟨S, hS⟩ : ∃ S, str A = S := ⟨_, rfl⟩
    rw [hS] at C ⊢
    clear hS h0 HV he0
    go_enter Tryz.func84, Tryz.ntmps84
    go_wp2_with fail
    refine (C.out _).mono ?_
    rintro e w1 ⟨rfl, hb1⟩
    have hbA := below_step hb0 hb1
    go_wp2_with fail
    go_ret2
    exact ⟨rfl, hbA⟩
theorem strE_two (r : List UInt8 × Int) : ∃ (S : ByteArray) (e : Int), strE r = .tuple #[.string S, .int .i64 e] := ⟨_, _, rfl⟩
set_option maxRecDepth 100000 in
theorem add_any (A : List UInt8) (n : Int) (w : World) (hA : A.length ≤ 100000) :
    Calls Tryz.prog 64 #[.string (str A), .int .i64 n] w fun e w' => e = .returned (strE (oneS true true true A n)) ∧ Below w.heap.size w w' := by
  have C := Lib.hid (mergeOne_any true true true A n w hA)
  unfold choV at C
  obtain ⟨S, e0, hr⟩ := strE_two (oneS true true true A n)
  rw [hr] at C ⊢
  obtain ⟨T, hT⟩ : ∃ T, str A = T := ⟨_, rfl⟩
  rw [hT] at C ⊢
  clear hr hT
  go_enter Tryz.func64, Tryz.ntmps64
  go_wp2_with fail
  refine C.out.mono ?_
  rintro e w1 ⟨rfl, hb1⟩
  go_wp2_with fail
  go_ret2
  exact ⟨rfl, hb1⟩
set_option maxRecDepth 100000 in
theorem flip_any (A : List UInt8) (n : Int) (w : World) (hA : A.length ≤ 100000) :
    Calls Tryz.prog 65 #[.string (str A), .int .i64 n] w fun e w' => e = .returned (strE (oneS true false true A n)) ∧ Below w.heap.size w w' := by
  have C := Lib.hid (mergeOne_any true false true A n w hA)
  unfold choV at C
  obtain ⟨S, e0, hr⟩ := strE_two (oneS true false true A n)
  rw [hr] at C ⊢
  obtain ⟨T, hT⟩ : ∃ T, str A = T := ⟨_, rfl⟩
  rw [hT] at C ⊢
  clear hr hT
  go_enter Tryz.func65, Tryz.ntmps65
  go_wp2_with fail
  refine C.out.mono ?_
  rintro e w1 ⟨rfl, hb1⟩
  go_wp2_with fail
  go_ret2
  exact ⟨rfl, hb1⟩
end Go.Proofs.YtbmgpenllpbioaaGreatDoor

/- scopes.Ids. -/
namespace Go.Proofs.YtbmgpenllpbioaaGreatDoor
open Go.RowKit Go.Shelf Go.PlainAid

attribute [local go_sem] Oper.semAt_some

def natC (l : List Nat) : List Value := l.map fun x : Nat => Value.int .i64 (x : Int)
def idsS (L : List UInt8) : List Nat × Int := if chkE L ≠ 0 then ([], chkE L) else (idsL L, 0)
/-- What Ids returns: a row of its own, and the error. -/
def IdsV (L : List UInt8) (w : World) (e : Ending) (w' : World) : Prop :=
  ∃ v, e = .returned (.tuple #[v, .int .i64 (idsS L).2]) ∧ w'.ownsRow w.heap.size 3 1 v (idsS L).1.length (natC (idsS L).1) ∧ Below w.heap.size w w'
set_option maxRecDepth 50000 in
theorem ids_no (L : List UInt8) (w : World) (hL : L.length ≤ 1000000) (hc : chkE L ≠ 0) : Calls Tryz.prog 118 #[.string (str L)] w (IdsV L w) := by
  have C := Lib.hid (check_any L w hL)
  have HV : Hid (idsS L = ([], chkE L)) := Lib.hid (by unfold idsS; rw [if_pos hc])
  obtain ⟨e0, he0⟩ : ∃ e, chkE L = e := ⟨_, rfl⟩
  rw [he0] at hc C HV
  have hne : (e0 != 0) = true := bne_iff_ne.2 hc
  obtain ⟨S, hS⟩ : ∃ S, str L = S := ⟨_, rfl⟩
  rw [hS] at C ⊢
  clear hS hc he0
  go_enter Tryz.func118, Tryz.ntmps118
  go_wp2_with fail
  refine C.out.mono ?_
  rintro e w1 ⟨rfl, hb1⟩
  go_wp2_with fail
  go_ret2
  exact ⟨.slice none 0 0, by rw [HV.out]; rfl, by rw [HV.out]; exact ⟨rfl, .inl ⟨rfl, rfl⟩⟩, hb1⟩
def IdI (A : Nat) (w : World) (pre : List Nat) (W : World) : Prop :=
  ∃ v, W.heap[A]? = some (.cells #[v] 33 (0, 0)) ∧ W.ownsRow (A + 4) 3 1 v pre.length (natC pre) ∧ Below A w W
theorem idI_bears (A : Nat) (w : World) : Bears (A + 2) (A + 2 + 2 + 0) (IdI A w) := by
  intro pre W W' row h hg hr
  obtain ⟨v, h1, h3, h2⟩ := h
  refine ⟨v, (hg.block A (Array.getElem?_eq_some_iff.1 h1).1 fun e => by have := hr _ e.symm; omega).trans h1, h3.kept hg ?_, ?_⟩
  · cases hv : v.ownBlock with
    | none => exact .inl rfl
    | some r => exact .inr fun e => by have h4 := hr _ e.symm; have h5 := (h3.lt r hv).1; omega
  · exact h2.grown hg (Nat.le_of_lt (Array.getElem?_eq_some_iff.1 h1).1) (fun k e => by have := hr _ e; omega)
def IdA (A : Nat) (w : World) (pre : List Nat) (x : Nat) (a : Act) (W : World) : Prop :=
  IdI A w pre W ∧ ∃ u0 u1 u2 u3 u4 u7 u8 u9 u10 u11 u12 u13 u14 u15 u16 u17 u18 u19 : Value, a = { tmps := #[u0, u1, u2, u3, u4, .pointer (some ⟨A, 0, none⟩), .int .i64 (x : Int), u7, u8, u9, u10, u11, u12, u13, u14, u15, u16, u17, u18, u19], defers := [] }
theorem idA_bears (A : Nat) (w : World) (pre : List Nat) (x : Nat) : Bears (A + 2) (A + 2 + 2 + 0) (IdA A w pre x) := by
  intro a W W' row h hg hr
  exact ⟨idI_bears A w pre W W' row h.1 hg hr, h.2⟩
set_option maxRecDepth 50000 in
set_option maxHeartbeats 1600000 in
theorem ids_yes (l : List Nat) (w : World) (h : SetOf l) : CallsIn Fence.wide 5 Tryz.prog 118 #[.string (str (setL l))] w (IdsV (setL l) w) := by
  have C := Lib.hid (check_any (setL l) w (by rw [setL_len]; have := h.few; omega))
  rw [h.chk] at C
  have HV : Hid (idsS (setL l) = (l, 0)) := Lib.hid (by unfold idsS; rw [if_neg (by rw [h.chk]; simp), h.ids])
  have hseqA := Lib.hid (fun (W0 : World) (A : Nat) (hsz : W0.heap.size = A + 2) (hv : W0.heap[A + 1]? = some (.cells #[.string (str (setL l))] 9 (0, 0))) =>
    each_seq (5 - 1) (A + 1) (fun k => k = A + 1) l W0 (by omega) h.lt (by have := h.few; omega) (fun k hk => by omega) rfl hv)
  have HFew := Lib.hid h.few
  obtain ⟨S, hS⟩ : ∃ S, str (setL l) = S := ⟨_, rfl⟩
  rw [hS] at C hseqA ⊢
  clear hS h
  refine callsIn_of_wp_marks Tryz.func118 rfl trivial ?_ rfl
  simp only [Tryz.ntmps118, List.size_toArray, List.length_cons, List.length_nil, Nat.reduceAdd, Nat.reduceSub, Array.replicate_succ, Array.replicate_zero, List.push_toArray, List.append_toArray, List.nil_append, List.cons_append]
  gi_wp2
  refine ⟨trivial, (callsIn_wide.2 C.out).mono ?_⟩
  rintro e w1 ⟨rfl, hb1⟩
  gi_wp2
  refine ⟨trivial, (callsIn_wide.2 (each_any _ _)).mono ?_⟩
  rintro e w2 ⟨rfl, rfl⟩
  gi_wp2
  obtain ⟨W0, hW0⟩ : ∃ W0, W0 = ((w1.alloc (.cells #[.slice none 0 0] 33)).alloc (.cells #[.string S] 9)) := ⟨_, rfl⟩
  rw [← hW0]
  obtain ⟨A, hA⟩ : ∃ A, w1.heap.size = A := ⟨_, rfl⟩
  have hsz : W0.heap.size = A + 2 := by rw [hW0, ← hA]; simp
  have hbel : Below A w1 W0 := by
    rw [hW0, ← hA]
    exact ((Below.refl _ w1).alloc (Nat.le_refl _) _).alloc (by simp only [World.size_alloc]; omega) _
  have ha0 : W0.heap[A]? = some (.cells #[.slice none 0 0] 33 (0, 0)) := by
    rw [hW0, ← hA]; exact (Below.heap_alloc _ _ _ (by simp only [World.size_alloc]; omega)).trans (World.alloc_heap_new _ _)
  have ha1 : W0.heap[A + 1]? = some (.cells #[.string S] 9 (0, 0)) := by
    rw [hW0, ← hA]
    have := World.alloc_heap_new (w1.alloc (.cells #[.slice none 0 0] 33)) (.cells #[.string S] 9); rwa [World.size_alloc] at this
  clear hW0
  have hAw : w.heap.size ≤ A := by rw [← hA]; exact hb1.size
  rw [hA]
  have hseq := hseqA.out W0 A hsz ha1
  refine wpIn_rangeB (by omega) rfl (enters_of Tryz.func125 (by kernel_rfl) rfl) hseq (Below.refl _ _) (fun k hk => by omega) (fun _ => rfl) (IdI A w1) (fun _ _ _ => False) (by rw [hsz]; exact idI_bears A w1) (fun c => by intro _ _ _ _ h; exact h.elim) ?_ (IdA A w1) (fun pre x => by rw [hsz]; exact idA_bears A w1 pre x) ?_ ?_ ?_ ?_
  · exact ⟨_, ha0, ⟨rfl, .inl ⟨rfl, rfl⟩⟩, hbel⟩
  · intro l pre x W K hI hW hK
    rw [hsz] at hW hK
    simp only [encN]
    gi_wp2
    exact hK _ _ (KeepsB.refl _ _ _ _) ⟨hI, _, _, _, _, _, _, _, _, _, _, _, _, _, _, _, _, _, _, rfl⟩
  · obtain ⟨i0, hi, hj0, hj1, hj2⟩ := info_parts2 infoInt
    intro l' pre x a' W hAx hW hlt
    rw [hsz] at hW
    obtain ⟨⟨v, r0, hown, r1⟩, u0, u1, u2, u3, u4, u7, u8, u9, u10, u11, u12, u13, u14, u15, u16, u17, u18, u19, rfl⟩ := hAx
    have hc0 : W.cell? ⟨A, 0, none⟩ = some v := by simp [World.cell?, r0]
    have hz0 : W.frozen? ⟨A, 0, none⟩ = false := by simp [World.frozen?, r0]
    have hb8 : pre.length < 1000000 := by have := HFew.out; omega
    rw [hsz]
    have hkeep : ∀ {w2 : World}, (W.alloc (.cells #[.int .i64 (x : Int)] 3)).grownBy w2 v.ownBlock → ∀ k, k < A + 4 → w2.heap[k]? = W.heap[k]? := fun hg k hk =>
      (hg.block k (by rw [World.size_alloc]; omega) (fun e => by have := (hown.lt k e.symm).1; omega)).trans (Below.heap_alloc _ _ _ (by omega))
    have hsA := World.size_alloc W (.cells #[.int .i64 (x : Int)] 3)
    gi_wp2_with (gi_at_builtin; refine wpListIn_append_own _ rfl _ _ 33 rfl (A + 4) 3 i0 (.int .i64 0) 1 8 Tryz.underlying33 hi hj0 hj1 hj2 rfl (by decide) _ _ _ rfl (hown.alloc _) ⟨W.heap.size, 0, none⟩ 1 1 [.int .i64 (x : Int)] rfl rfl (new_cells W [.int .i64 (x : Int)] _) (by simp [Value.oneCell']) (by unfold maxLen; omega) (by omega) (by rw [hsA]; omega) ?_; intro v' w2 hown' hgrow _; obtain ⟨sa, sm, sc, rfl⟩ := own_slice hown'; have hkk := hkeep hgrow; have hv2 := (hkk A (by omega)).trans r0; have hc2' : w2.cell? ⟨A, 0, none⟩ = some v := (by simp [World.cell?, hv2]); have hz2' : w2.frozen? ⟨A, 0, none⟩ = false := (by simp [World.frozen?, hv2]))
    have hne : ∀ g, (Value.slice sa sm sc).ownBlock = some g → A + 4 ≤ g := fun g hg => (hown'.lt g hg).1
    refine ⟨⟨?_, fun k hk => ?_⟩, _, set_block _ hv2, ?_, ?_⟩
    · exact Nat.le_trans (Nat.le_trans (by rw [hsA]; omega) hgrow.size) (KeepsWalks.setCell _ _ _).size
    · have hk' : k ≠ A ∧ k < A + 4 := by rcases hk with hk | hk <;> omega
      exact (set_other _ hk'.1).trans (hkk k hk'.2)
    · have hw3 : (w2.setCell ⟨A, 0, none⟩ (.slice sa sm sc)).ownsRow (A + 4) 3 1 (.slice sa sm sc) (pre.length + 1) (natC pre ++ [.int .i64 (x : Int)]) :=
        hown'.kept (grown_set _ _ _ _) (.inr fun e => by have := hne _ e; omega)
      unfold natC at hw3 ⊢
      rw [List.length_append, List.map_append]
      exact hw3
    · have hAW : A ≤ W.heap.size := by omega
      exact ((r1.alloc hAW _).grown hgrow (by rw [hsA]; omega) (fun k hk => by have := (hown.lt k hk).1; omega)).setCell (Nat.le_refl A) _
  · intro xs W hSS hI hD
    rw [hsz] at hD
    subst hSS
    obtain ⟨v, r0, hown, r1⟩ := hI
    have hc0 : W.cell? ⟨A, 0, none⟩ = some v := by simp [World.cell?, r0]
    rw [hsz]
    gi_wp2
    refine ⟨by simp, .inl ⟨_, _, rfl, run_takeDeferred hD, ?_⟩⟩
    refine ⟨.tuple #[v, .int .i64 0], by simp [results, Tryz.results118, go_sem], v, ?_, ?_, ?_⟩
    · rw [HV.out]
    · rw [HV.out]
      exact own_mono (B' := w.heap.size) (hown.kept (grownBy_putObj' _ (A + 2) (.deferred none)) (by
        cases hv : v.ownBlock with
        | none => exact .inl rfl
        | some r => exact .inr fun e => by have := (hown.lt r hv).1; cases e; omega)) (by omega)
    · exact hb1.trans ((r1.grown (grownBy_putObj' _ _ _) (Nat.le_of_lt (Array.getElem?_eq_some_iff.1 r0).1) (fun k e => by cases e; omega)).mono hAw)
  · intro c pre W _ h _; exact h.elim
theorem idsP_any (L : List UInt8) (w : World) (hL : L.length ≤ 1000000) : Calls Tryz.prog 118 #[.string (str L)] w (IdsV L w) := by
  by_cases hc : chkE L = 0
  · obtain ⟨l, rfl, h⟩ := set_of hc
    exact callsIn_wide.1 (ids_yes l w h)
  · exact ids_no L w hL hc
end Go.Proofs.YtbmgpenllpbioaaGreatDoor
