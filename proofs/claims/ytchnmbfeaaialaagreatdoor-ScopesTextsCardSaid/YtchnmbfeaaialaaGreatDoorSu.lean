/- mergeTwo, mergeOne, within, and the functions that are made of them: Add, Drop, Flip, Union, Meet, Minus, Sub, Has. -/
import Derived.Test.YtchnmbfeaaialaaGreatDoorSl
namespace Go.Proofs.YtchnmbfeaaialaaGreatDoor
open Go.RowKit Go.PlainAid

theorem below_step {w w1 w2 : World} (h : Below w.heap.size w w1) (h2 : Below w1.heap.size w1 w2) : Below w.heap.size w w2 := h.trans (h2.mono h.size)
/-- Two results: a string, an error. -/
def strE (r : List UInt8 × Int) : Value := .tuple #[.string (str r.1), .int .i64 r.2]
theorem box3_at {w : World} {f b s : Bool} : (w.alloc (.cells #[.bool f, .bool b, .bool s] 40)).heap[w.heap.size]? = some (.cells #[.bool f, .bool b, .bool s] 40 (0, 0)) := World.alloc_heap_new _ _
theorem box3_cells {w : World} {p : Nat} {f b s : Bool} (h : w.heap[p]? = some (.cells #[.bool f, .bool b, .bool s] 40 (0, 0))) :
    w.cell? ⟨p, 0, none⟩ = some (.bool f) ∧ w.cell? ⟨p, 1, none⟩ = some (.bool b) ∧ w.cell? ⟨p, 2, none⟩ = some (.bool s) := by
  refine ⟨?_, ?_, ?_⟩ <;> simp [World.cell?, h]
theorem one_lt {k : Nat} (h : k < 65536) : ∀ x ∈ [k], x < 65536 := by simpa using h
theorem natRow (w : World) (n : Nat) : NatAt (w.alloc (.cells #[.int .i64 (n : Int)] 3)) (.slice (some ⟨w.heap.size, 0, none⟩) 1 1) [n] := by
  refine ⟨_, _, _, rfl, rfl, Nat.le_refl _, .inr ⟨_, _, rfl, by simp, fun j x hj => ?_⟩⟩
  have h := new_cells w [.int .i64 (n : Int)] 3
  cases j with
  | zero =>
    obtain rfl : n = x := by simpa using hj
    exact h 0 _ rfl
  | succ j => simp at hj
set_option maxRecDepth 100000 in
set_option maxHeartbeats 3200000 in
theorem mergeOne_any (f b s : Bool) (A : List UInt8) (n : Int) (w : World) (hA : A.length ≤ 100000) :
    Calls Tryz.prog 27 #[.string (str A), .int .i64 n, choV f b s] w fun e w' => e = .returned (strE (oneS f b s A n)) ∧ Below w.heap.size w w' := by
  have C := Lib.hid (fun W => checkWith_any A n W (by omega))
  have hb0 : Below w.heap.size w (w.alloc (.cells #[.bool f, .bool b, .bool s] 40)) := (Below.refl _ w).alloc (Nat.le_refl _) _
  unfold strE choV
  by_cases h0 : oneE A n = 0
  · obtain ⟨l, rfl, hl⟩ := set_of (oneE_ok h0).1
    obtain ⟨k, rfl⟩ : ∃ k : Nat, n = k := ⟨n.toNat, by have := (oneE_ok h0).2.1; omega⟩
    have hk : k < 65536 := by have := (oneE_ok h0).2.2; omega
    have CS : Hid (∀ W : World, Calls Tryz.prog 26 #[.slice (some ⟨W.heap.size, 0, none⟩) 1 1] (W.alloc (.cells #[.int .i64 (k : Int)] 3)).drew fun e w' => e = .returned (.string (str (setL [k]))) ∧ Below W.heap.size W w') := Lib.hid (fun W => by
      have hB : Below W.heap.size W (W.alloc (.cells #[.int .i64 (k : Int)] 3)).drew := ((Below.refl _ W).alloc (Nat.le_refl _) _).drew
      exact (setOf_any _ [k] _ ((natRow W k).below (Below.refl _ _).drew (Nat.le_refl _)) (one_lt hk) (by show 1 ≤ 100000; omega)).mono fun e w' h => ⟨h.1, below_step hB h.2⟩)
    have CM := Lib.hid (fun W => merge_any f b s l [k] W hl.lt (one_lt hk) (by have := hl.few; omega) (by show 1 ≤ 100000; omega))
    have CLm := Lib.hid (fun W => limited_any (mg f b s l [k]) W (by have := mg_len' f b s l [k]; have := hl.few; have e1 : ([k] : List Nat).length = 1 := rfl; omega))
    have HV : Hid (oneS f b s (setL l) (k : Int) = outS (mg f b s l [k])) := Lib.hid (one_set hl hk)
    rw [h0] at C
    unfold choV at CM
    obtain ⟨S, hS⟩ : ∃ S, str (setL l) = S := ⟨_, rfl⟩
    obtain ⟨T, hT⟩ : ∃ T, str (setL [k]) = T := ⟨_, rfl⟩
    obtain ⟨R, hR⟩ : ∃ R, str (setL (mg f b s l [k])) = R := ⟨_, rfl⟩
    rw [hS] at C CM
    rw [hT] at CS CM
    rw [hR] at CM CLm
    rw [HV.out, hS]
    obtain ⟨o1, ho1⟩ : ∃ o, str (outS (mg f b s l [k])).1 = o := ⟨_, rfl⟩
    obtain ⟨o2, ho2⟩ : ∃ o, (outS (mg f b s l [k])).2 = o := ⟨_, rfl⟩
    rw [ho1, ho2] at CLm ⊢
    clear hS hT hR ho1 ho2 h0 HV hl hk
    go_enter Tryz.func27, Tryz.ntmps27
    go_wp2_with fail
    refine (C.out _).mono ?_
    rintro e w1 ⟨rfl, hb1⟩
    have hx1 := (hb1.block _ (by simp)).trans (box3_at (w := w) (f := f) (b := b) (s := s))
    have hbA := below_step hb0 hb1
    obtain ⟨p, hp⟩ : ∃ p, w.heap.size = p := ⟨_, rfl⟩
    rw [hp] at hx1
    have hlt1 := (Array.getElem?_eq_some_iff.1 hx1).1
    have HX : Hid (∀ W, Below w1.heap.size w1 W → W.cell? ⟨p, 0, none⟩ = some (.bool f) ∧ W.cell? ⟨p, 1, none⟩ = some (.bool b) ∧ W.cell? ⟨p, 2, none⟩ = some (.bool s)) := Lib.hid fun W hW => box3_cells ((hW.block _ hlt1).trans hx1)
    have HB := Lib.hid hbA
    clear hx1 hb1 hbA hb0
    rw [hp]
    go_wp2_with fail
    have k0 : w1.drew.cell? ⟨p, 0, none⟩ = some (.bool f) := (HX.out _ (Below.refl _ _)).1
    have k1 : w1.drew.cell? ⟨p, 1, none⟩ = some (.bool b) := (HX.out _ (Below.refl _ _)).2.1
    have k2 : w1.drew.cell? ⟨p, 2, none⟩ = some (.bool s) := (HX.out _ (Below.refl _ _)).2.2
    obtain ⟨k3, k4, k5⟩ := HX.out (w1.alloc (.cells #[.int .i64 (k : Int)] 3)).drew (((Below.refl _ w1).alloc (Nat.le_refl _) _).drew)
    -- MARK1
    go_region_held3 (fun w' => w'.cell? ⟨p, 0, none⟩ = some (.bool f) ∧ w'.cell? ⟨p, 1, none⟩ = some (.bool b) ∧ w'.cell? ⟨p, 2, none⟩ = some (.bool s)) (first | exact ⟨k0, k1, k2⟩ | exact ⟨k3, k4, k5⟩ | exact ⟨q0, q1, q2⟩ | exact ⟨q3, q4, q5⟩)
      (first
        | (go_at_call 26; refine (CS.out w1).mono ?_; rintro e w2 ⟨rfl, hb2⟩; obtain ⟨q0, q1, q2⟩ := HX.out _ hb2)
        | (go_at_call 53; refine (CM.out _).mono ?_; rintro e w3 ⟨rfl, hb3⟩; have hb4 := below_step hb2 hb3; obtain ⟨q3, q4, q5⟩ := HX.out _ hb4)
        | (go_at_call 52; refine (CLm.out _).mono ?_; rintro e w4 ⟨rfl, rfl⟩))
    go_wp2_with fail
    go_ret2
    exact ⟨rfl, below_step HB.out hb4⟩
  · have HV : Hid (oneS f b s A n = ([], oneE A n)) := Lib.hid (one_no h0)
    rw [HV.out]
    obtain ⟨e0, he0⟩ : ∃ e, oneE A n = e := ⟨_, rfl⟩
    rw [he0] at h0 C ⊢
    have hne : (e0 != 0) = true := bne_iff_ne.2 h0
    obtain ⟨S, hS⟩ : ∃ S, str A = S := ⟨_, rfl⟩
    rw [hS] at C ⊢
    clear hS h0 HV he0
    go_enter Tryz.func27, Tryz.ntmps27
    go_wp2_with fail
    refine (C.out _).mono ?_
    rintro e w1 ⟨rfl, hb1⟩
    have hbA := below_step hb0 hb1
    go_wp2_with fail
    go_ret2
    exact ⟨rfl, hbA⟩
theorem strE_two (r : List UInt8 × Int) : ∃ (S : ByteArray) (e : Int), strE r = .tuple #[.string S, .int .i64 e] := ⟨_, _, rfl⟩
set_option maxRecDepth 100000 in
theorem add_any (A : List UInt8) (n : Int) (w : World) (hA : A.length ≤ 100000) :
    Calls Tryz.prog 13 #[.string (str A), .int .i64 n] w fun e w' => e = .returned (strE (oneS true true true A n)) ∧ Below w.heap.size w w' := by
  have C := Lib.hid (mergeOne_any true true true A n w hA)
  unfold choV at C
  obtain ⟨S, e0, hr⟩ := strE_two (oneS true true true A n)
  rw [hr] at C ⊢
  obtain ⟨T, hT⟩ : ∃ T, str A = T := ⟨_, rfl⟩
  rw [hT] at C ⊢
  clear hr hT
  go_enter Tryz.func13, Tryz.ntmps13
  go_wp2_with fail
  refine C.out.mono ?_
  rintro e w1 ⟨rfl, hb1⟩
  go_wp2_with fail
  go_ret2
  exact ⟨rfl, hb1⟩
set_option maxRecDepth 100000 in
theorem drop_any (A : List UInt8) (n : Int) (w : World) (hA : A.length ≤ 100000) :
    Calls Tryz.prog 10 #[.string (str A), .int .i64 n] w fun e w' => e = .returned (strE (oneS true false false A n)) ∧ Below w.heap.size w w' := by
  have C := Lib.hid (mergeOne_any true false false A n w hA)
  unfold choV at C
  obtain ⟨S, e0, hr⟩ := strE_two (oneS true false false A n)
  rw [hr] at C ⊢
  obtain ⟨T, hT⟩ : ∃ T, str A = T := ⟨_, rfl⟩
  rw [hT] at C ⊢
  clear hr hT
  go_enter Tryz.func10, Tryz.ntmps10
  go_wp2_with fail
  refine C.out.mono ?_
  rintro e w1 ⟨rfl, hb1⟩
  go_wp2_with fail
  go_ret2
  exact ⟨rfl, hb1⟩
set_option maxRecDepth 100000 in
theorem flip_any (A : List UInt8) (n : Int) (w : World) (hA : A.length ≤ 100000) :
    Calls Tryz.prog 11 #[.string (str A), .int .i64 n] w fun e w' => e = .returned (strE (oneS true false true A n)) ∧ Below w.heap.size w w' := by
  have C := Lib.hid (mergeOne_any true false true A n w hA)
  unfold choV at C
  obtain ⟨S, e0, hr⟩ := strE_two (oneS true false true A n)
  rw [hr] at C ⊢
  obtain ⟨T, hT⟩ : ∃ T, str A = T := ⟨_, rfl⟩
  rw [hT] at C ⊢
  clear hr hT
  go_enter Tryz.func11, Tryz.ntmps11
  go_wp2_with fail
  refine C.out.mono ?_
  rintro e w1 ⟨rfl, hb1⟩
  go_wp2_with fail
  go_ret2
  exact ⟨rfl, hb1⟩
end Go.Proofs.YtchnmbfeaaialaaGreatDoor
