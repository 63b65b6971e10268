/- The program's Join. -/
import Derived.Test.YtnajkkbcfebegaaGreatDoorBuild
namespace Go.Proofs.YtnajkkbcfebegaaGreatDoor
open Go.RowKit Go.PlainAid

/-- What Len and String of a builder do (the shelf's contracts say so). -/
def LenOK : Prop := ∀ (B b : Nat) (l : List UInt8) (w : World), BldN B b l w → Calls Tryz.prog 38 #[.pointer (some ⟨b, 0, none⟩)] w fun e w' => e = .returned (.int .i64 l.length) ∧ w' = w
def StrOK : Prop := ∀ (B b : Nat) (l : List UInt8) (w : World), BldN B b l w → B ≤ w.heap.size → Calls Tryz.prog 39 #[.pointer (some ⟨b, 0, none⟩)] w fun e w' => e = .returned (.string (str l)) ∧ Below B w w'

theorem below_dr {B n : Nat} {w w' : World} (h : Below B w w') : Below B w (w'.drewN n) := ⟨h.os, h.tape, h.output, h.size, h.block⟩
theorem bldN_dr {B b n : Nat} {l : List UInt8} {w : World} (h : BldN B b l w) : BldN B b l (w.drewN n) := h
theorem tooL_len {l : List Fld} (h : tooL l = false) : ∀ (j : Nat) x, l[j]? = some x → x.1.length ≤ 2000 := by
  intro j x hj
  rcases Nat.lt_or_ge 2000 x.1.length with h1 | h1
  · rw [tooL_at hj h1] at h; cases h
  · exact h1
theorem tooL_64 {l : List Fld} (h : tooL l = false) : l.length ≤ 64 := by
  unfold tooL at h
  rw [Bool.or_eq_false_iff] at h
  have := of_decide_eq_false h.1; omega
theorem bareE_iff (x : List UInt8) : bareE x 0 = x.length ↔ x.all bareC = true := by
  unfold bareE
  rw [List.drop_zero, Nat.zero_add]
  induction x with
  | nil => simp
  | cons c t ih =>
    rw [List.takeWhile_cons, List.all_cons]
    cases bareC c with
    | false => simp
    | true => simp only [if_true, List.length_cons, Bool.true_and]; rw [← ih]; omega
theorem jn_first {l : List Fld} {k : Nat} {x : Fld} (hx : l[k]? = some x) (hk : k = 0) : jnK l (k + 1) = [] ++ formF x := by
  show (if k = 0 then [] else jnK l k ++ [32]) ++ formF (gf l k) = _
  rw [if_pos hk, gf_at hx]
theorem jn_next {l : List Fld} {k : Nat} {x : Fld} (hx : l[k]? = some x) (hk : ¬ k = 0) : jnK l (k + 1) = (jnK l k ++ [32]) ++ formF x := by
  show (if k = 0 then [] else jnK l k ++ [32]) ++ formF (gf l k) = _
  rw [if_neg hk, gf_at hx]

set_option maxRecDepth 100000 in
set_option maxHeartbeats 6400000 in
theorem join_some (CL : LenOK) (CS : StrOK) (g off cap : Nat) (l : List Fld) (w : World) (hesc : EscTab w) (htw : 0 < w.heap.size) (hg : g < w.heap.size) (hl : l.length ≤ 1000000000)
    (hc : ∀ j u, (fcs l)[j]? = some u → w.cell? ⟨g, off + j, none⟩ = some u) :
    Calls Tryz.prog 14 #[.slice (some ⟨g, off, none⟩) l.length cap] w fun e w' => e = .returned (joinV l) ∧ Below w.heap.size w w' := by
  have CT := Lib.hid (tooLong_any (.slice (some ⟨g, off, none⟩) l.length cap) l w (.inr ⟨g, off, cap, rfl, hg, hc⟩) hl)
  have HC : Hid (∀ (wr : World) (k : Nat) (x : Fld), Below w.heap.size w wr → l[k]? = some x → wr.cell? ⟨g, off + k * 2, none⟩ = some (.string (str x.1)) ∧ wr.cell? ⟨g, off + k * 2 + 1, none⟩ = some (.bool x.2)) :=
    Lib.hid fun wr k x hb hx => ⟨(hb.cell (p := ⟨g, off + k * 2, none⟩) hg).trans (hc _ _ (fcs_at l hx).1), (hb.cell (p := ⟨g, off + k * 2 + 1, none⟩) hg).trans (hc _ _ (fcs_at l hx).2)⟩
  have HL := Lib.hid CL
  have HS := Lib.hid CS
  have HQ : Hid (∀ (wr : World) (x : List UInt8), x.length ≤ 10000 → Below w.heap.size w wr → Calls Tryz.prog 17 #[.string (str x)] wr fun e w' => e = .returned (.string (str (quoteL x))) ∧ Below wr.heap.size wr w') := Lib.hid fun wr x hx hb => by
    have := quote_any (str x) wr (by rw [str_size]; omega) (esc_below hesc hb htw) (by have := hb.size; omega)
    rw [show (str x).data.toList = x by simp [str]] at this
    exact this
  clear hc CL CS hesc
  cases ht : tooL l with
  | true =>
    have HV := Lib.hid (long3 ht)
    rw [ht] at CT
    go_enter Tryz.func14, Tryz.ntmps14
    go_wp2_with (go_at_call 34; refine CT.out.mono ?_; rintro e w1 ⟨rfl, hb1⟩)
    go_returns
    exact ⟨by rw [HV.out]; rfl, hb1⟩
  | false =>
    have HT := Lib.hid ht
    rw [ht] at CT
    go_enter Tryz.func14, Tryz.ntmps14
    go_wp2_with (go_at_call 34; refine CT.out.mono ?_; rintro e w1 ⟨rfl, hb1⟩)
    -- MARK1
    go_loopw [11] (fun i wr => ∃ k : Nat, k ≤ l.length ∧ i = .int .i64 k ∧ Hid (∀ (j : Nat) x, j < k → l[j]? = some x → noForm x = false) ∧ BldN w1.heap.size w1.heap.size (jnK l k) wr ∧ w1.heap.size < wr.heap.size ∧ Below w1.heap.size w1 wr) (fun i _ => l.length - (intOf i).toNat)
    case atStart => exact ⟨0, Nat.zero_le _, rfl, Lib.hid (fun j x h => by omega), bldN_new w1, by simp, (Below.refl _ _).alloc (Nat.le_refl _) _⟩
    case round =>
      obtain ⟨k, hk, rfl, hno, hbd, hsz, hbel1⟩ := hrel
      have hbel := hb1.trans (hbel1.mono hb1.size)
      by_cases hlt : k < l.length
      · obtain ⟨x, hxk⟩ : ∃ x, l[k]? = some x := ⟨_, List.getElem?_eq_getElem hlt⟩
        obtain ⟨c0, c1⟩ := HC.out wr k x hbel hxk
        have hkl : (k : Int) < (l.length : Int) := by omega
        have hk0 : (0 : Int) ≤ (k : Int) := Int.natCast_nonneg _
        have HX := Lib.hid hxk
        clear hxk
        obtain ⟨xs, xq⟩ := x
        simp only at c0 c1
        have hx2 : xs.length ≤ 2000 := (tooL_len HT.out) k _ HX.out
        have hq2 : (quoteL xs).length ≤ 10000 := by have := quote_size xs; omega
        have hxs : (str xs).size ≤ 2000 := by rw [str_size]; exact hx2
        have hJ2 : (jnK l k).length ≤ 900000 := by have := jnK_size (tooL_len HT.out) k hk; have := tooL_64 HT.out; omega
        have HB : Hid ((str xs).data.toList = xs) := Lib.hid (by simp [str])
        have KE : Hid (∀ W, Calls Tryz.prog 37 #[.string (str xs), .int .i64 0] W fun e w' => e = .returned (.int .i64 (bareE xs 0 : Nat)) ∧ w' = W) := Lib.hid fun W => by
          refine (bareEnd_any (str xs) 0 W (Nat.zero_le _) (by omega)).mono ?_
          rintro e w' ⟨rfl, rfl⟩
          rw [HB.out]; exact ⟨rfl, rfl⟩
        obtain ⟨W2, hW2⟩ : ∃ W2, W2 = wr.alloc (.cells #[.string (str xs), .bool xq] 47) := ⟨_, rfl⟩
        have hz2 : W2.heap[wr.heap.size]? = some (.cells #[.string (str xs), .bool xq] 47 (0, 0)) := by subst hW2; exact World.alloc_heap_new _ _
        have hs2 : W2.heap.size = wr.heap.size + 1 := by subst hW2; simp
        have hbd2 : BldN w1.heap.size w1.heap.size (jnK l k) W2 := by subst hW2; exact bldN_below hbd ((Below.refl _ _).alloc (Nat.le_refl _) _)
        have hB2 : Below w1.heap.size w1 W2 := by subst hW2; exact hbel1.alloc (by omega) _
        clear hbd
        cases xq with
        | true =>
          have HN : Hid (∀ (j : Nat) x, j < k + 1 → l[j]? = some x → noForm x = false) := Lib.hid (fun j y h1 h2 => by
            by_cases e : j = k
            · rw [e, HX.out] at h2; rw [← Option.some.inj h2]; rfl
            · exact hno.out j y (by omega) h2)
          clear hno
          by_cases h0 : k = 0
          · have hz : ¬ 0 < k := by omega
            obtain ⟨P, hP⟩ : ∃ P : List UInt8, P = [] := ⟨_, rfl⟩
            have HP : Hid (jnK l (k + 1) = P ++ formF _) := Lib.hid (by rw [hP]; exact jn_first HX.out h0)
            have hPl : P.length ≤ 1000000 := by rw [hP]; simp
            have hbd3 : BldN w1.heap.size w1.heap.size P W2 := by rw [hP]; rw [h0] at hbd2; exact hbd2
            have hB3 := hB2
            have hz3 := hz2
            have hW3 : w1.heap.size < W2.heap.size := by omega
            clear hP hbd2 hB2 hz2 h0
            go_upto_if 17 with fail
            rw [← hW2]
            clear hW2
            obtain ⟨b0, b1, _, _⟩ := fld_box hz3
            clear hz3
            go_wp2_with fail
            -- MARKq
            refine (HQ.out _ xs (by omega) (hb1.trans (hB3.mono hb1.size))).mono ?_
            rintro e w4 ⟨rfl, hb4⟩
            have hbd4 := bldN_below hbd3 hb4
            have hB4 := hB3.trans (hb4.mono hB3.size)
            go_wp2_with (go_at_call 36; refine (ws_any _ _ P (quoteL xs) _ hbd4 (by omega) (by omega) hB4.size).mono ?_; rintro e w5 ⟨rfl, hbd5, hb5, hk5⟩)
            -- MARKq2
            go_roundw
            case rel => exact ⟨k + 1, by omega, by go_num, HN, by rw [HP.out]; exact .inr hbd5, by have := hb5.size; have := hb4.size; omega, hB4.trans (hb5.mono (Nat.le_refl _))⟩
            case measure => simp [intOf]; omega
          · have hz : 0 < k := by omega
            obtain ⟨P, hP⟩ : ∃ P : List UInt8, P = jnK l k ++ [32] := ⟨_, rfl⟩
            have HP : Hid (jnK l (k + 1) = P ++ formF _) := Lib.hid (by rw [hP]; exact jn_next HX.out h0)
            have hPl : P.length ≤ 1000000 := by rw [hP, List.length_append]; simp; omega
            have HPP := Lib.hid hP
            clear hP h0
            go_wp2_with fail
            rw [← hW2]
            clear hW2
            -- MARKw
            refine (wb_any _ _ (jnK l k) 32 _ hbd2 (by omega) hB2.size).mono ?_
            rintro e W3 ⟨rfl, hbd', hb', hk'⟩
            have hbd3 : BldN w1.heap.size w1.heap.size P W3 := by rw [HPP.out]; exact .inr hbd'
            have hB3 := hB2.trans (hb'.mono (Nat.le_refl _))
            have hz3 := kept_box hk' hz2 (by omega) (by decide)
            have hW3 : w1.heap.size < W3.heap.size := by have := hb'.size; omega
            clear hbd2 hB2 hz2 hbd' hb' hk'
            obtain ⟨b0, b1, _, _⟩ := fld_box hz3
            clear hz3
            go_wp2_with fail
            -- MARKq
            refine (HQ.out _ xs (by omega) (hb1.trans (hB3.mono hb1.size))).mono ?_
            rintro e w4 ⟨rfl, hb4⟩
            have hbd4 := bldN_below hbd3 hb4
            have hB4 := hB3.trans (hb4.mono hB3.size)
            go_wp2_with (go_at_call 36; refine (ws_any _ _ P (quoteL xs) _ hbd4 (by omega) (by omega) hB4.size).mono ?_; rintro e w5 ⟨rfl, hbd5, hb5, hk5⟩)
            -- MARKq2
            go_roundw
            case rel => exact ⟨k + 1, by omega, by go_num, HN, by rw [HP.out]; exact .inr hbd5, by have := hb5.size; have := hb4.size; omega, hB4.trans (hb5.mono (Nat.le_refl _))⟩
            case measure => simp [intOf]; omega
        | false =>
          cases hbl : bareL xs with
          | false =>
            have HV := Lib.hid (form6 HT.out (noForm_at HX.out (by unfold noForm; rw [hbl]; rfl)))
            by_cases hxe : xs = []
            · have he := empty_yes (s := str xs) (by rw [str_size, hxe]; rfl)
              clear hxe hbl
              by_cases h0 : k = 0
              · have hz : ¬ 0 < k := by omega
                obtain ⟨P, hP⟩ : ∃ P : List UInt8, P = [] := ⟨_, rfl⟩
                have HP : Hid (jnK l (k + 1) = P ++ formF _) := Lib.hid (by rw [hP]; exact jn_first HX.out h0)
                have hPl : P.length ≤ 1000000 := by rw [hP]; simp
                have hbd3 : BldN w1.heap.size w1.heap.size P W2 := by rw [hP]; rw [h0] at hbd2; exact hbd2
                have hB3 := hB2
                have hz3 := hz2
                have hW3 : w1.heap.size < W2.heap.size := by omega
                clear hP hbd2 hB2 hz2 h0
                go_upto_if 17 with fail
                rw [← hW2]
                clear hW2
                obtain ⟨b0, b1, _, _⟩ := fld_box hz3
                clear hz3
                go_wp2_with fail
                -- MARKe
                go_quiet (fail)
                go_wp2_with fail
                go_returns
                exact ⟨by rw [HV.out]; rfl, below_dr (hb1.trans (hB3.mono hb1.size))⟩
              · have hz : 0 < k := by omega
                obtain ⟨P, hP⟩ : ∃ P : List UInt8, P = jnK l k ++ [32] := ⟨_, rfl⟩
                have HP : Hid (jnK l (k + 1) = P ++ formF _) := Lib.hid (by rw [hP]; exact jn_next HX.out h0)
                have hPl : P.length ≤ 1000000 := by rw [hP, List.length_append]; simp; omega
                have HPP := Lib.hid hP
                clear hP h0
                go_wp2_with fail
                rw [← hW2]
                clear hW2
                -- MARKw
                refine (wb_any _ _ (jnK l k) 32 _ hbd2 (by omega) hB2.size).mono ?_
                rintro e W3 ⟨rfl, hbd', hb', hk'⟩
                have hbd3 : BldN w1.heap.size w1.heap.size P W3 := by rw [HPP.out]; exact .inr hbd'
                have hB3 := hB2.trans (hb'.mono (Nat.le_refl _))
                have hz3 := kept_box hk' hz2 (by omega) (by decide)
                have hW3 : w1.heap.size < W3.heap.size := by have := hb'.size; omega
                clear hbd2 hB2 hz2 hbd' hb' hk'
                obtain ⟨b0, b1, _, _⟩ := fld_box hz3
                clear hz3
                go_wp2_with fail
                -- MARKe
                go_quiet (fail)
                go_wp2_with fail
                go_returns
                exact ⟨by rw [HV.out]; rfl, below_dr (hb1.trans (hB3.mono hb1.size))⟩
            · have he := empty_no (s := str xs) (by rw [str_size]; exact List.length_pos_iff.2 hxe)
              have hne : ((bareE xs 0 : Nat) : Int) != ((str xs).size : Int) := by
                rw [bne_iff_ne, str_size]; intro e
                have := (bareE_iff xs).1 (by omega)
                unfold bareL at hbl; rw [this] at hbl
                cases xs with
                | nil => exact hxe rfl
                | cons => cases hbl
              clear hxe hbl
              by_cases h0 : k = 0
              · have hz : ¬ 0 < k := by omega
                obtain ⟨P, hP⟩ : ∃ P : List UInt8, P = [] := ⟨_, rfl⟩
                have HP : Hid (jnK l (k + 1) = P ++ formF _) := Lib.hid (by rw [hP]; exact jn_first HX.out h0)
                have hPl : P.length ≤ 1000000 := by rw [hP]; simp
                have hbd3 : BldN w1.heap.size w1.heap.size P W2 := by rw [hP]; rw [h0] at hbd2; exact hbd2
                have hB3 := hB2
                have hz3 := hz2
                have hW3 : w1.heap.size < W2.heap.size := by omega
                clear hP hbd2 hB2 hz2 h0
                go_upto_if 17 with fail
                rw [← hW2]
                clear hW2
                obtain ⟨b0, b1, _, _⟩ := fld_box hz3
                clear hz3
                go_wp2_with fail
                -- MARKf
                go_quiet ((go_at_call 37; exact Calls.quiet_of_same (KE.out _)))
                go_wp2_with fail
                go_returns
                exact ⟨by rw [HV.out]; rfl, below_dr (hb1.trans (hB3.mono hb1.size))⟩
              · have hz : 0 < k := by omega
                obtain ⟨P, hP⟩ : ∃ P : List UInt8, P = jnK l k ++ [32] := ⟨_, rfl⟩
                have HP : Hid (jnK l (k + 1) = P ++ formF _) := Lib.hid (by rw [hP]; exact jn_next HX.out h0)
                have hPl : P.length ≤ 1000000 := by rw [hP, List.length_append]; simp; omega
                have HPP := Lib.hid hP
                clear hP h0
                go_wp2_with fail
                rw [← hW2]
                clear hW2
                -- MARKw
                refine (wb_any _ _ (jnK l k) 32 _ hbd2 (by omega) hB2.size).mono ?_
                rintro e W3 ⟨rfl, hbd', hb', hk'⟩
                have hbd3 : BldN w1.heap.size w1.heap.size P W3 := by rw [HPP.out]; exact .inr hbd'
                have hB3 := hB2.trans (hb'.mono (Nat.le_refl _))
                have hz3 := kept_box hk' hz2 (by omega) (by decide)
                have hW3 : w1.heap.size < W3.heap.size := by have := hb'.size; omega
                clear hbd2 hB2 hz2 hbd' hb' hk'
                obtain ⟨b0, b1, _, _⟩ := fld_box hz3
                clear hz3
                go_wp2_with fail
                -- MARKf
                go_quiet ((go_at_call 37; exact Calls.quiet_of_same (KE.out _)))
                go_wp2_with fail
                go_returns
                exact ⟨by rw [HV.out]; rfl, below_dr (hb1.trans (hB3.mono hb1.size))⟩
          | true =>
            have HN : Hid (∀ (j : Nat) x, j < k + 1 → l[j]? = some x → noForm x = false) := Lib.hid (fun j y h1 h2 => by
              by_cases e : j = k
              · rw [e, HX.out] at h2; rw [← Option.some.inj h2]; unfold noForm; rw [hbl]; rfl
              · exact hno.out j y (by omega) h2)
            clear hno
            have he := empty_no (s := str xs) (by rw [str_size]; cases xs with | nil => cases hbl | cons => simp)
            have hne : (((bareE xs 0 : Nat) : Int) != ((str xs).size : Int)) = false := by
              rw [str_size, (bareE_iff xs).2 (by unfold bareL at hbl; rw [Bool.and_eq_true] at hbl; exact hbl.2)]; simp
            clear hbl
            by_cases h0 : k = 0
            · have hz : ¬ 0 < k := by omega
              obtain ⟨P, hP⟩ : ∃ P : List UInt8, P = [] := ⟨_, rfl⟩
              have HP : Hid (jnK l (k + 1) = P ++ formF _) := Lib.hid (by rw [hP]; exact jn_first HX.out h0)
              have hPl : P.length ≤ 1000000 := by rw [hP]; simp
              have hbd3 : BldN w1.heap.size w1.heap.size P W2 := by rw [hP]; rw [h0] at hbd2; exact hbd2
              have hB3 := hB2
              have hz3 := hz2
              have hW3 : w1.heap.size < W2.heap.size := by omega
              clear hP hbd2 hB2 hz2 h0
              go_upto_if 17 with fail
              rw [← hW2]
              clear hW2
              obtain ⟨b0, b1, _, _⟩ := fld_box hz3
              clear hz3
              go_wp2_with fail
              -- MARKb
              go_quiet ((go_at_call 37; exact Calls.quiet_of_same (KE.out _)))
              go_wp2_with fail
              refine (ws_any _ _ P xs _ (bldN_dr hbd3) (by omega) (by omega) (below_dr hB3).size).mono ?_
              rintro e w5 ⟨rfl, hbd5, hb5, hk5⟩
              go_wp2_with fail
              -- MARKb2
              go_roundw
              case rel => exact ⟨k + 1, by omega, by go_num, HN, by rw [HP.out]; exact .inr hbd5, Nat.lt_of_lt_of_le hW3 hb5.size, (below_dr hB3).trans (hb5.mono (Nat.le_refl _))⟩
              case measure => simp [intOf]; omega
            · have hz : 0 < k := by omega
              obtain ⟨P, hP⟩ : ∃ P : List UInt8, P = jnK l k ++ [32] := ⟨_, rfl⟩
              have HP : Hid (jnK l (k + 1) = P ++ formF _) := Lib.hid (by rw [hP]; exact jn_next HX.out h0)
              have hPl : P.length ≤ 1000000 := by rw [hP, List.length_append]; simp; omega
              have HPP := Lib.hid hP
              clear hP h0
              go_wp2_with fail
              rw [← hW2]
              clear hW2
              -- MARKw
              refine (wb_any _ _ (jnK l k) 32 _ hbd2 (by omega) hB2.size).mono ?_
              rintro e W3 ⟨rfl, hbd', hb', hk'⟩
              have hbd3 : BldN w1.heap.size w1.heap.size P W3 := by rw [HPP.out]; exact .inr hbd'
              have hB3 := hB2.trans (hb'.mono (Nat.le_refl _))
              have hz3 := kept_box hk' hz2 (by omega) (by decide)
              have hW3 : w1.heap.size < W3.heap.size := by have := hb'.size; omega
              clear hbd2 hB2 hz2 hbd' hb' hk'
              obtain ⟨b0, b1, _, _⟩ := fld_box hz3
              clear hz3
              go_wp2_with fail
              -- MARKb
              go_quiet ((go_at_call 37; exact Calls.quiet_of_same (KE.out _)))
              go_wp2_with fail
              refine (ws_any _ _ P xs _ (bldN_dr hbd3) (by omega) (by omega) (below_dr hB3).size).mono ?_
              rintro e w5 ⟨rfl, hbd5, hb5, hk5⟩
              go_wp2_with fail
              -- MARKb2
              go_roundw
              case rel => exact ⟨k + 1, by omega, by go_num, HN, by rw [HP.out]; exact .inr hbd5, Nat.lt_of_lt_of_le hW3 hb5.size, (below_dr hB3).trans (hb5.mono (Nat.le_refl _))⟩
              case measure => simp [intOf]; omega
      · obtain rfl : k = l.length := by omega
        have HF : Hid (l.any noForm = false) := Lib.hid (noForm_no fun j x h => hno.out j x (List.getElem?_eq_some_iff.1 h).1 h)
        have CLn := Lib.hid (HL.out _ _ _ _ hbd)
        have CSt := Lib.hid (HS.out _ _ _ _ hbd (by omega))
        clear hno hbd
        by_cases hbig : 8192 < (jnK l l.length).length
        · have hd2 : decide ((8192 : Int) < ((jnK l l.length).length : Int)) = true := decide_eq_true (by omega)
          have HV := Lib.hid (line3 HT.out HF.out hbig)
          clear hbig
          go_wp2_with (go_at_call 38; refine CLn.out.mono ?_; rintro e w9 ⟨rfl, rfl⟩)
          -- MARKl
          go_returns
          exact ⟨by rw [HV.out]; rfl, hbel⟩
        · have hd2 : decide ((8192 : Int) < ((jnK l l.length).length : Int)) = false := decide_eq_false (by omega)
          have HV := Lib.hid (line0 HT.out HF.out hbig)
          clear hbig
          go_wp2_with (first | (go_at_call 38; refine CLn.out.mono ?_; rintro e w9 ⟨rfl, rfl⟩) | (go_at_call 39; refine CSt.out.mono ?_; rintro e w10 ⟨rfl, hb10⟩))
          go_returns
          exact ⟨by rw [HV.out]; rfl, hb1.trans ((hbel1.trans hb10).mono hb1.size)⟩
set_option maxRecDepth 100000 in
set_option maxHeartbeats 1600000 in
theorem join_nil (CL : LenOK) (CS : StrOK) (w : World) : Calls Tryz.prog 14 #[.slice none 0 0] w fun e w' => e = .returned (joinV []) ∧ Below w.heap.size w w' := by
  have CT : Hid (Calls Tryz.prog 34 #[.slice none 0 0] w fun e w' => e = .returned (.bool false) ∧ Below w.heap.size w w') := Lib.hid (tooLong_any (.slice none 0 0) [] w (.inl ⟨rfl, rfl⟩) (by decide))
  have HL := Lib.hid CL
  have HS := Lib.hid CS
  clear CL CS
  go_enter Tryz.func14, Tryz.ntmps14
  go_wp2_with (go_at_call 34; refine CT.out.mono ?_; rintro e w1 ⟨rfl, hb1⟩)
  go_loop [11] (fun i => i = .int .i64 0) (fun _ => 0)
  case atStart => rfl
  case round =>
    subst hrel
    have hbd := bldN_new w1
    have hbel1 : Below w1.heap.size w1 (w1.alloc (.cells #[.pointer none, .slice none 0 0] 67)) := (Below.refl _ _).alloc (Nat.le_refl _) _
    have CLn := Lib.hid (HL.out _ _ _ _ hbd)
    have CSt := Lib.hid (HS.out _ _ _ _ hbd hbel1.size)
    clear hbd
    go_wp2_with (first | (go_at_call 38; refine CLn.out.mono ?_; rintro e w9 ⟨rfl, rfl⟩) | (go_at_call 39; refine CSt.out.mono ?_; rintro e w10 ⟨rfl, hb10⟩))
    go_returns
    exact ⟨rfl, hb1.trans ((hbel1.trans hb10).mono hb1.size)⟩
theorem join_any (CL : LenOK) (CS : StrOK) (v : Value) (l : List Fld) (w : World) (hesc : EscTab w) (htw : 0 < w.heap.size) (h : FldsAt w v l) (hl : l.length ≤ 1000000000) :
    Calls Tryz.prog 14 #[v] w fun e w' => e = .returned (joinV l) ∧ Below w.heap.size w w' := by
  rcases h with ⟨rfl, rfl⟩ | ⟨g, off, cap, rfl, hg, hc⟩
  · exact join_nil CL CS w
  · exact join_some CL CS g off cap l w hesc htw hg hl hc
end Go.Proofs.YtnajkkbcfebegaaGreatDoor
