/- The law StxChecks. (Written by tools/gen_yck.py.) -/
import Derived.Test.YtbmgpenllpbioaaGreatDoorYy
import Derived.BigQuiet
namespace Go.Proofs.YtbmgpenllpbioaaGreatDoor
open Go.RowKit Go.PlainAid

theorem rck_short (c : Nat) (a : Option Addr) (w : World) : Calls Tryz.prog 13 #[.slice a 0 c] w fun e w' => e = .returned (.tuple #[.int .i64 0, .int .i64 6]) ∧ Below w.heap.size w w' := by
  go_enter Tryz.func13, Tryz.ntmps13
  go_wp2_with fail
  go_ret2
  exact ⟨rfl, Below.refl _ _⟩
theorem rck_long (n c : Nat) (a : Option Addr) (w : World) (hn : 2000 < n) : Calls Tryz.prog 13 #[.slice a n c] w fun e w' => e = .returned (.tuple #[.int .i64 0, .int .i64 3]) ∧ Below w.heap.size w w' := by
  have hd1 : ((n : Int) == 0) = false := beq_eq_false_iff_ne.2 (by omega)
  have hd2 : decide ((2000 : Int) < (n : Int)) = true := decide_eq_true (by omega)
  go_enter Tryz.func13, Tryz.ntmps13
  go_wp2_with fail
  go_ret2
  exact ⟨rfl, Below.refl _ _⟩
theorem rCheck10_any (v : Value) (l : List Sx) (w : World) (h : XsAt w v l) (hs : SmX l) (hi : InX l) :
    Calls Tryz.prog 13 #[v] w fun e w' => e = .returned (.tuple #[.int .i64 (chkX l).1, .int .i64 (chkX l).2]) ∧ Below w.heap.size w w' := by
  obtain ⟨a, c, rfl, hc⟩ := h.slice
  by_cases h0 : l = []
  · subst h0; exact rck_short c a w
  · by_cases hl : 2000 < l.length
    · have : chkX l = (0, 3) := by unfold chkX; rw [if_neg h0, if_pos hl]
      rw [this]; exact rck_long _ c a w hl
    · have hp : 0 < l.length := List.length_pos_iff.2 h0
      have h' := h
      obtain ⟨a', n', c', e, hn, hcc, hx⟩ := h
      obtain ⟨rfl, rfl, rfl⟩ := Value.slice.inj e
      rcases hx with rfl | ⟨g, off, rfl, _, _⟩
      · exact absurd rfl h0
      · exact rchk10_go g off _ _ l w h' rfl hp (by omega) hs hi
-- MARKL
set_option maxRecDepth 100000 in
set_option maxHeartbeats 6400000 in
theorem lawCk_any (v : Value) (l : List Sx) (w : World) (h : XsAt w v l) (hi : InX l) (T : XTabs w) :
    Calls Tryz.prog 3 #[v] w fun e w' => e = .returned (.bool true) ∧ Below w.heap.size w w' := by
  obtain ⟨a, c, rfl, hc⟩ := h.slice
  have CF := Lib.hid (farX_any _ l w h)
  have CAw : Hid (∀ W, Below w.heap.size w W → Calls Tryz.prog 11 #[] W fun e w' => e = .returned (.bool true) ∧ Below W.heap.size W w') := Lib.hid fun W hW => awakeX_any W (T.below hW)
  obtain ⟨n, hn⟩ : ∃ n, l.length = n := ⟨_, rfl⟩
  obtain ⟨r, hr⟩ : ∃ r, chkX l = r := ⟨_, rfl⟩
  obtain ⟨r1, r2⟩ := r
  have CP : Hid (SmX l → Calls Tryz.prog 12 #[.slice a n c] w fun e w' => e = .returned (.tuple #[.int .i64 r1, .int .i64 r2]) ∧ Below w.heap.size w w') := Lib.hid fun hs => by
    have := Check_x _ l w h hs hi T.st
    unfold chkXV at this
    rw [hr, hn] at this; exact this
  have CR : Hid (SmX l → ∀ W, Below w.heap.size w W → Calls Tryz.prog 13 #[.slice a n c] W fun e w' => e = .returned (.tuple #[.int .i64 r1, .int .i64 r2]) ∧ Below W.heap.size W w') := Lib.hid fun hs W hW => by
    have := rCheck10_any _ l W (h.below hW (Nat.le_refl _)) hs hi
    rw [hr, hn] at this; exact this
  rw [hn] at h CF ⊢
  have H := Lib.hid h
  have HN := Lib.hid hn
  have q1 : (r1 == r1) = true := beq_self_eq_true r1
  have q2 : (r2 == r2) = true := beq_self_eq_true r2
  clear h hn hr hc hi T
  by_cases h26 : n ≤ 260
  · have d1 : decide ((260 : Int) < (n : Int)) = false := decide_eq_false (by omega)
    clear CF
    go_enter Tryz.func3, Tryz.ntmps3
    go_wp2_with fail
    go_loopw [3] (fun x3 wr => ∃ k : Nat, k ≤ n ∧ x3 = .int .i64 k ∧ wr = w ∧ Hid (∀ (j : Nat) (x : Sx), j < k → l[j]? = some x → x.s.length ≤ 200 ∧ x.p.length ≤ 200)) (fun x3 _ => n - (intOf x3).toNat)
    case atStart => exact ⟨0, Nat.zero_le _, rfl, rfl, Lib.hid fun j x hj => absurd hj (Nat.not_lt_zero _)⟩
    case round =>
      obtain ⟨k, hk, rfl, rfl, HS⟩ := hrel
      by_cases hlt : k < n
      · obtain ⟨x, hx⟩ : ∃ x, l[k]? = some x := ⟨_, List.getElem?_eq_getElem (by rw [HN.out]; exact hlt)⟩
        obtain ⟨g, off, rfl, _, _, _, _, c3, c4, _, _, _⟩ := H.out.node hx
        have HX := Lib.hid hx
        obtain ⟨S, hS⟩ : ∃ S, str x.s = S := ⟨_, rfl⟩
        obtain ⟨P, hP⟩ : ∃ S, str x.p = S := ⟨_, rfl⟩
        have hSl : S.size = x.s.length := by rw [← hS, str_size]
        have hPl : P.size = x.p.length := by rw [← hP, str_size]
        rw [hS] at c3
        rw [hP] at c4
        have hkm : (k : Int) < (n : Int) := by omega
        have hk0 : (0 : Int) ≤ (k : Int) := Int.natCast_nonneg _
        by_cases hs : 200 < S.size
        · have e1 : decide ((200 : Int) < (S.size : Int)) = true := decide_eq_true (by omega)
          clear hx hS hP hSl hPl hs
          go_wp2_with fail
          refine (CAw.out _ (Below.refl _ _)).mono ?_
          rintro e w9 ⟨rfl, hb9⟩
          go_wp2_with fail
          go_ret
          exact ⟨rfl, hb9⟩
        · have e1 : decide ((200 : Int) < (S.size : Int)) = false := decide_eq_false (by omega)
          by_cases hp : 200 < P.size
          · have e2 : decide ((200 : Int) < (P.size : Int)) = true := decide_eq_true (by omega)
            clear hx hS hP hSl hPl hs hp
            go_wp2_with fail
            refine (CAw.out _ (Below.refl _ _)).mono ?_
            rintro e w9 ⟨rfl, hb9⟩
            go_wp2_with fail
            go_ret
            exact ⟨rfl, hb9⟩
          · have e2 : decide ((200 : Int) < (P.size : Int)) = false := decide_eq_false (by omega)
            have HS' : Hid (∀ (j : Nat) (y : Sx), j < k + 1 → l[j]? = some y → y.s.length ≤ 200 ∧ y.p.length ≤ 200) := Lib.hid fun j y hj hy => by
              by_cases hjk : j < k
              · exact HS.out j y hjk hy
              · obtain rfl : j = k := by omega
                rw [hx] at hy
                obtain rfl := Option.some.inj hy
                exact ⟨by omega, by omega⟩
            clear hx hS hP hSl hPl hs hp
            go_wp2_with fail
            exact ⟨⟨k + 1, by omega, by go_num, trivial, HS'⟩, by simp [intOf]; omega⟩
      · obtain rfl : k = n := by omega
        have hs : Hid (SmX l) := Lib.hid fun x hx => by
          obtain ⟨j, hj, e⟩ := List.getElem_of_mem hx
          have := HS.out j x (by rw [← HN.out]; exact hj) (by rw [List.getElem?_eq_getElem hj, e])
          exact ⟨by omega, by omega⟩
        go_wp2_with fail
        refine (CP.out hs.out).mono ?_
        rintro e w1 ⟨rfl, hb1⟩
        go_wp2_with fail
        refine (CR.out hs.out _ hb1).mono ?_
        rintro e w2 ⟨rfl, hb2⟩
        have hB2 := below_step hb1 hb2
        go_wp2_with fail
        refine (CAw.out _ hB2).mono ?_
        rintro e w9 ⟨rfl, hb9⟩
        go_wp2_with fail
        go_ret
        exact ⟨rfl, below_step hB2 hb9⟩
  · have d1 : decide ((260 : Int) < (n : Int)) = true := decide_eq_true (by omega)
    go_enter Tryz.func3, Tryz.ntmps3
    go_wp2_with fail
    refine CF.out.mono ?_
    rintro e w0 ⟨bf, rfl, HF, rfl⟩
    cases bf
    case true =>
      clear HF
      go_wp2_with fail
      refine (CAw.out _ (Below.refl _ _)).mono ?_
      rintro e w9 ⟨rfl, hb9⟩
      go_wp2_with fail
      go_ret
      exact ⟨rfl, hb9⟩
    have hn20 : n ≤ 2010 := by have := (HF.out rfl).1; rw [HN.out] at this; exact this
    clear HF
    go_wp2_with fail
    go_loopw [3] (fun x3 wr => ∃ k : Nat, k ≤ n ∧ x3 = .int .i64 k ∧ wr = w0 ∧ Hid (∀ (j : Nat) (x : Sx), j < k → l[j]? = some x → x.s.length ≤ 200 ∧ x.p.length ≤ 200)) (fun x3 _ => n - (intOf x3).toNat)
    case atStart => exact ⟨0, Nat.zero_le _, rfl, rfl, Lib.hid fun j x hj => absurd hj (Nat.not_lt_zero _)⟩
    case round =>
      obtain ⟨k, hk, rfl, rfl, HS⟩ := hrel
      by_cases hlt : k < n
      · obtain ⟨x, hx⟩ : ∃ x, l[k]? = some x := ⟨_, List.getElem?_eq_getElem (by rw [HN.out]; exact hlt)⟩
        obtain ⟨g, off, rfl, _, _, _, _, c3, c4, _, _, _⟩ := H.out.node hx
        have HX := Lib.hid hx
        obtain ⟨S, hS⟩ : ∃ S, str x.s = S := ⟨_, rfl⟩
        obtain ⟨P, hP⟩ : ∃ S, str x.p = S := ⟨_, rfl⟩
        have hSl : S.size = x.s.length := by rw [← hS, str_size]
        have hPl : P.size = x.p.length := by rw [← hP, str_size]
        rw [hS] at c3
        rw [hP] at c4
        have hkm : (k : Int) < (n : Int) := by omega
        have hk0 : (0 : Int) ≤ (k : Int) := Int.natCast_nonneg _
        by_cases hs : 200 < S.size
        · have e1 : decide ((200 : Int) < (S.size : Int)) = true := decide_eq_true (by omega)
          clear hx hS hP hSl hPl hs
          go_wp2_with fail
          refine (CAw.out _ (Below.refl _ _)).mono ?_
          rintro e w9 ⟨rfl, hb9⟩
          go_wp2_with fail
          go_ret
          exact ⟨rfl, hb9⟩
        · have e1 : decide ((200 : Int) < (S.size : Int)) = false := decide_eq_false (by omega)
          by_cases hp : 200 < P.size
          · have e2 : decide ((200 : Int) < (P.size : Int)) = true := decide_eq_true (by omega)
            clear hx hS hP hSl hPl hs hp
            go_wp2_with fail
            refine (CAw.out _ (Below.refl _ _)).mono ?_
            rintro e w9 ⟨rfl, hb9⟩
            go_wp2_with fail
            go_ret
            exact ⟨rfl, hb9⟩
          · have e2 : decide ((200 : Int) < (P.size : Int)) = false := decide_eq_false (by omega)
            have HS' : Hid (∀ (j : Nat) (y : Sx), j < k + 1 → l[j]? = some y → y.s.length ≤ 200 ∧ y.p.length ≤ 200) := Lib.hid fun j y hj hy => by
              by_cases hjk : j < k
              · exact HS.out j y hjk hy
              · obtain rfl : j = k := by omega
                rw [hx] at hy
                obtain rfl := Option.some.inj hy
                exact ⟨by omega, by omega⟩
            clear hx hS hP hSl hPl hs hp
            go_wp2_with fail
            exact ⟨⟨k + 1, by omega, by go_num, trivial, HS'⟩, by simp [intOf]; omega⟩
      · obtain rfl : k = n := by omega
        have hs : Hid (SmX l) := Lib.hid fun x hx => by
          obtain ⟨j, hj, e⟩ := List.getElem_of_mem hx
          have := HS.out j x (by rw [← HN.out]; exact hj) (by rw [List.getElem?_eq_getElem hj, e])
          exact ⟨by omega, by omega⟩
        go_wp2_with fail
        refine (CP.out hs.out).mono ?_
        rintro e w1 ⟨rfl, hb1⟩
        go_wp2_with fail
        refine (CR.out hs.out _ hb1).mono ?_
        rintro e w2 ⟨rfl, hb2⟩
        have hB2 := below_step hb1 hb2
        go_wp2_with fail
        refine (CAw.out _ hB2).mono ?_
        rintro e w9 ⟨rfl, hb9⟩
        go_wp2_with fail
        go_ret
        exact ⟨rfl, below_step hB2 hb9⟩
end Go.Proofs.YtbmgpenllpbioaaGreatDoor
