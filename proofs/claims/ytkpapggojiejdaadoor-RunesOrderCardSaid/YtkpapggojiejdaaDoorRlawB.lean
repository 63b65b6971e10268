/- The law RunesBack, walked. -/
import Derived.Deep.DeepCutAuto
import Derived.Deep.CutBlock

import Derived.Test.YtkpapggojiejdaaDoorRconv
namespace Go.Proofs.YtkpapggojiejdaaDoor
open Go.RowKit Go.PlainAid

/-- A beginning of the bytes of a rune is none. -/
theorem dec_take {r : Int} (hr : isR r = true) {i : Nat} (h0 : 0 < i) (h1 : i < wO r) : dec ((enc r).take i) = (0, 0, 320) := by
  have hb := isR_iff.1 hr
  rcases isR_forms hr with ⟨a, b⟩ | ⟨a, b⟩ | ⟨a, b⟩ | ⟨a, b⟩
  · rw [wO_1 a b] at h1; omega
  · rw [wO_2 a b] at h1
    obtain rfl : i = 1 := by omega
    have e1 := ub_u8 (n := 192 + r / 64) (by omega)
    rw [enc_2 a b]
    simp only [List.take_succ_cons, List.take_zero]
    rw [dec_c2 (by omega) (by omega)]; rfl
  · rw [wO_3 hr a b] at h1
    have e1 := ub_u8 (n := 224 + r / 4096) (by omega)
    have e2 := ub_u8 (n := 128 + r / 64 % 64) (by omega)
    have hl := lo_hi_bd (ub (u8 (224 + r / 4096)))
    have hi : i = 1 ∨ i = 2 := by omega
    rw [enc_3 hr a b]
    rcases hi with rfl | rfl
    · simp only [List.take_succ_cons, List.take_zero]
      rw [dec_c3 (by omega) (by omega)]; rfl
    · simp only [List.take_succ_cons, List.take_zero]
      rw [dec_c3 (by omega) (by omega)]
      simp only [three]; rw [if_pos (by omega)]
  · rw [wO_4 a b] at h1
    have e1 := ub_u8 (n := 240 + r / 262144) (by omega)
    have e2 := ub_u8 (n := 128 + r / 4096 % 64) (by omega)
    have e3 := ub_u8 (n := 128 + r / 64 % 64) (by omega)
    have hl := lo_hi_bd (ub (u8 (240 + r / 262144)))
    have hi : i = 1 ∨ i = 2 ∨ i = 3 := by omega
    rw [enc_4 a b]
    rcases hi with rfl | rfl | rfl
    · simp only [List.take_succ_cons, List.take_zero]
      rw [dec_c4 (by omega) (by omega)]; rfl
    · simp only [List.take_succ_cons, List.take_zero]
      rw [dec_c4 (by omega) (by omega)]
      simp only [four]; rw [if_pos (by omega)]
    · simp only [List.take_succ_cons, List.take_zero]
      rw [dec_c4 (by omega) (by omega)]
      simp only [four]; rw [if_pos (by omega), if_pos (by omega)]

/-- Where the rows of a rune's bytes lie. -/
theorem own_at {w : World} {B e n : Nat} {a : Option Addr} {c : Nat} {xs : List Value} (h : w.ownsRow B e 1 (.slice a n c) n xs) (hn : 1 ≤ n) :
    ∃ g, a = some ⟨g, 0, none⟩ ∧ n ≤ c ∧ g < w.heap.size ∧ ∀ j u, xs[j]? = some u → w.cell? ⟨g, 0 + j, none⟩ = some u := by
  obtain ⟨g, cap, he, _, hg, hc⟩ := own_some h hn
  obtain ⟨rfl, _, rfl⟩ := Value.slice.inj he
  refine ⟨g, rfl, ?_, hg, fun j u hj => ?_⟩
  · rcases h.2 with ⟨h1, _⟩ | ⟨g', cap', cur, h1, _, _, h2, _⟩
    · cases h1
    · obtain ⟨_, _, rfl⟩ := Value.slice.inj h1; exact h2
  · have := hc j u hj
    rwa [Go.WideShapes.add_plain] at this

set_option maxRecDepth 100000 in
set_option maxHeartbeats 12800000 in
theorem lawB_small (r : Int) (a2 a3 : Option Addr) (n2 n3 c2 c3 : Nat) (l : List UInt8) (m : List Int) (w : World) (T : Tabs w) (s2 : SrcAt w (.slice a2 n2 c2) n2 (l.map bc)) (hn2 : n2 = l.length) (h3 : RunesAt w (.slice a3 n3 c3) m) (hn3 : n3 = m.length) (hb2 : n2 ≤ 200) (hb3 : n3 ≤ 100) (hcap : n2 ≤ c2) :
    Calls Tryd.prog 6 #[.int .i32 r, .slice a2 n2 c2, .slice a3 n3 c3] w fun e w' => e = .returned (.bool true) ∧ Below w.heap.size w w' := by
  have h2 : BytesAt w (.slice a2 n2 c2) l := s2.row (by rw [List.length_map]; exact hn2)
  have HT : Hid (∀ W, Below w.heap.size w W → Tabs W) := Lib.hid fun W hb => T.below hb
  have H2 : Hid (∀ W, Below w.heap.size w W → BytesAt W (.slice a2 n2 c2) l) := Lib.hid fun W hb => h2.below hb (Nat.le_refl _)
  have H3 : Hid (∀ W, Below w.heap.size w W → RunesAt W (.slice a3 n3 c3) m) := Lib.hid fun W hb => RowAt.below h3 hb (Nat.le_refl _)
  have S2 : Hid (∀ W, Below w.heap.size w W → SrcAt W (.slice a2 n2 c2) n2 (l.map bc)) := Lib.hid fun W hb => s2.below hb (Nat.le_refl _)
  have HN2 := Lib.hid hn2
  have HN3 := Lib.hid hn3
  have CA : Hid (∀ W, Below w.heap.size w W → Calls Tryd.prog 10 #[] W fun e w' => e = .returned (.bool true) ∧ Below W.heap.size W w') := Lib.hid fun W hb => awake_any W (T.below hb)
  have hd1 : decide ((200 : Int) < (n2 : Int)) = false := decide_eq_false (by omega)
  have hd2 : decide ((100 : Int) < (n3 : Int)) = false := decide_eq_false (by omega)
  obtain ⟨f, hf⟩ : ∃ f : Int, (if isR r then (0 : Int) else 7) = f := ⟨_, rfl⟩
  obtain ⟨d, hd⟩ : ∃ d, wO r = d := ⟨_, rfl⟩
  have CE : Hid (Calls Tryd.prog 13 #[.int .i32 r] w fun e w1 => ∃ a c, e = .returned (.tuple #[.slice a d c, .int .i64 f]) ∧ w1.ownsRow w.heap.size 5 1 (.slice a d c) d ((enc r).map bc) ∧ Below w.heap.size w w1) := Lib.hid (enc_at r (enc r) f d w T rfl hf (by rw [← hd]; exact (enc_len r).symm))
  have HF := Lib.hid hf
  have HDr := Lib.hid hd
  obtain ⟨fc, hfc⟩ : ∃ fc : Int, (chkS l).2 = fc := ⟨_, rfl⟩
  have HFC := Lib.hid hfc
  have CRn : Hid (∀ W, Below w.heap.size w W → Calls Tryd.prog 21 #[.slice a2 n2 c2] W fun e w1 => ∃ a n c, e = .returned (.tuple #[.slice a n c, .int .i64 fc]) ∧ RunesAt w1 (.slice a n c) (runesS l).1 ∧ Below W.heap.size W w1) := Lib.hid fun W hb => by
    refine (runes_any _ l W (H2.out W hb) (by omega) (HT.out W hb).marks (HT.out W hb).hm).mono ?_
    rintro e w1 ⟨v, h1, h2, h3⟩
    have h4 := RowAt.own h2
    obtain ⟨a, c, rfl⟩ := h4.slice
    have e2 : (runesS l).2 = fc := by
      unfold runesS; rw [← hfc]; split
      · rename_i h; exact h.symm
      · rfl
    rw [e2] at h1
    exact ⟨_, _, _, h1, h4, h3⟩
  have CBy : Hid ((chkS l).2 = 0 → ∀ W v, Below w.heap.size w W → RunesAt W v (runs l).1 → Calls Tryd.prog 23 #[v] W fun e w1 => ∃ a c, e = .returned (.tuple #[.slice a n2 c, .int .i64 0, .int .i64 0]) ∧ SrcAt w1 (.slice a n2 c) n2 (l.map bc) ∧ Below W.heap.size W w1) := Lib.hid fun hc W v hb hr => by
    have h0 : (runs l).2 = 0 := by
      unfold chkS at hc; split at hc
      · exact absurd hc (by decide)
      · exact hc
    have hw := runs_whole h0
    have hl := runs_len_le l
    refine (bytes_any v (runs l).1 W hr (by omega) (HT.out W hb).marks (HT.out W hb).hm).mono ?_
    rintro e w1 ⟨v1, h1, h2, h3⟩
    have e1 : bytesS (runs l).1 = (l, 0, 0) := by
      rw [bytesS_good (runs_all l), if_neg (by have := wid_le l; omega), ← hw]
    rw [e1] at h1 h2
    rw [← HN2.out] at h2
    obtain ⟨a, c, rfl⟩ := (RowAt.own h2).slice
    rw [List.length_map, ← HN2.out] at h1 h2
    exact ⟨_, _, h1, SrcAt.own h2, h3⟩
  obtain ⟨fm, hfm⟩ : ∃ fm : Int, (bytesS m).2.2 = fm := ⟨_, rfl⟩
  have HFM := Lib.hid hfm
  obtain ⟨im, him⟩ : ∃ im : Nat, (bytesS m).2.1 = im := ⟨_, rfl⟩
  have CBm : Hid (∀ W, Below w.heap.size w W → Calls Tryd.prog 23 #[.slice a3 n3 c3] W fun e w1 => ∃ a n c, e = .returned (.tuple #[.slice a n c, .int .i64 (im : Int), .int .i64 fm]) ∧ BytesAt w1 (.slice a n c) (bytesS m).1 ∧ Below W.heap.size W w1) := Lib.hid fun W hb => by
    refine (bytes_any _ m W (H3.out W hb) (by omega) (HT.out W hb).marks (HT.out W hb).hm).mono ?_
    rintro e w1 ⟨v, h1, h2, h3⟩
    have h4 := RowAt.own h2
    obtain ⟨a, c, rfl⟩ := h4.slice
    rw [hfm, him] at h1
    exact ⟨_, _, _, h1, h4, h3⟩
  have CRm : Hid ((bytesS m).2.2 = 0 → ∀ W v, Below w.heap.size w W → BytesAt W v (bytesS m).1 → Calls Tryd.prog 21 #[v] W fun e w1 => ∃ a n c, e = .returned (.tuple #[.slice a n c, .int .i64 0]) ∧ RunesAt w1 (.slice a n c) m ∧ Below W.heap.size W w1) := Lib.hid fun hc W v hb hr => by
    have hall : ∀ x ∈ m, isR x = true := by
      intro x hx
      cases hix : isR x
      · exfalso
        unfold bytesS at hc
        cases hfi : m.findIdx? (fun r => !isR r) with
        | some i => rw [hfi] at hc; simp at hc
        | none => rw [List.findIdx?_eq_none_iff] at hfi; have := hfi x hx; rw [hix] at this; cases this
      · rfl
    have hb8 := bytesS_good hall
    have hw8 : ¬ 8000 < wid m := by
      intro h; rw [hb8, if_pos h] at hc; exact absurd hc (by decide)
    rw [if_neg hw8] at hb8
    rw [hb8] at hr
    have hrn : runesS (encs m) = (m, 0) := by
      have hk : chkS (encs m) = (wid m, 0) := by unfold chkS; rw [if_neg (by rw [encs_len]; exact hw8), runs_of_encs hall]
      unfold runesS; rw [hk, if_pos rfl, runs_of_encs hall]
    refine (runes_any v (encs m) W hr (by rw [encs_len]; omega) (HT.out W hb).marks (HT.out W hb).hm).mono ?_
    rintro e w1 ⟨v, h1, h2, h3⟩
    rw [hrn] at h1 h2
    have h4 := RowAt.own h2
    obtain ⟨a, c, rfl⟩ := h4.slice
    exact ⟨_, _, _, h1, h4, h3⟩
  have CSm : Hid (∀ W v, Below w.heap.size w W → RunesAt W v m → Calls Tryd.prog 25 #[v, .slice a3 n3 c3] W fun e w1 => e = .returned (.bool true) ∧ Below W.heap.size W w1) := Lib.hid fun W v hb hr => by
    have := same_any v _ m m W hr (H3.out W hb) (by omega)
    rw [decide_eq_true rfl] at this
    exact this
  clear T h2 h3 s2 hn2 hn3 hf hd hfc hfm him
  go_enter Tryd.func6, Tryd.ntmps6
  go_wp2_with fail
  refine CE.out.mono ?_
  rintro e w1 ⟨a1, c1, rfl, ho1, hb1⟩
  have HO1 := Lib.hid ho1
  clear ho1
  go_upto_if 45 with (fail)
  go_cut [] from 7 (fun wx => Below w.heap.size w wx)
  case first =>
    cases hir : isR r
    · have hf7 : f = 7 := by rw [← HF.out, hir]; rfl
      subst hf7
      go_wp2_with fail
      go_meet
      exact hb1
    · have hf0 : f = 0 := by rw [← HF.out, hir]; rfl
      subst hf0
      have hdd := HDr.out
      have hd1' : 1 ≤ d := by rw [← hdd]; exact wO_pos hir
      have hd4 : d ≤ 4 := by rw [← hdd]; exact wO_le r
      obtain ⟨i0, hi, hj0, hj1, hj2⟩ := info_parts2 info5
      have HP : Hid (∀ i, 0 < i → i < d → dec ((enc r).take i) = (0, 0, 320)) := Lib.hid fun i h1 h2 => dec_take hir h1 (by rw [hdd]; exact h2)
      have HL : Hid ((enc r).length = d) := Lib.hid (by rw [enc_len, hdd])
      have HD : Hid (dec (enc r ++ l) = (r, d, 0)) := Lib.hid (by rw [dec_enc hir l, hdd])
      obtain ⟨g1, rfl, hdc, hg1, hc1⟩ := own_at HO1.out hd1'
      have HC1 : Hid (∀ (i : Nat) W, i ≤ d → Below w1.heap.size w1 W → BytesAt W (.slice (some ⟨g1, 0, none⟩) i c1) ((enc r).take i)) := Lib.hid fun i W hi hb => by
        refine .inr ⟨g1, 0, i, c1, rfl, by rw [List.length_map, List.length_take, HL.out]; omega, Nat.lt_of_lt_of_le hg1 hb.size, fun j u hj => ?_⟩
        have hj' : ((enc r).map bc)[j]? = some u := by
          rw [List.map_take, List.getElem?_take] at hj
          split at hj
          · exact hj
          · cases hj
        exact (hb.cell (p := ⟨g1, 0 + j, none⟩) hg1).trans (hc1 j u hj')
      have HS1 : Hid (SrcAt w1 (.slice (some ⟨g1, 0, none⟩) d c1) d ((enc r).map bc)) := Lib.hid (SrcAt.own HO1.out)
      have HO0 : Hid ((w1.alloc (.cells #[] 5)).ownsRow w1.heap.size 5 1 (.slice (some ⟨w1.heap.size, 0, none⟩) 0 0) 0 []) := Lib.hid (World.ownsRow_made w1 #[] 0 (Nat.le_refl _) (by unfold maxLen; omega) rfl)
      have DC : Hid (∀ vb (wb : World), Below w.heap.size w wb → wb.ownsRow w1.heap.size 5 1 vb (d + n2) ((enc r).map bc ++ l.map bc) → Calls Tryd.prog 11 #[vb, .int .i64 0] wb fun e w' => e = .returned (.tuple #[.int .i32 r, .int .i64 (d : Int), .int .i64 0]) ∧ Below wb.heap.size wb w') := Lib.hid fun vb wb hb ho => by
        have hr : BytesAt wb vb (enc r ++ l) := by unfold BytesAt; rw [List.map_append]; exact RowAt.own ho
        refine (decode_any vb _ 0 wb hr (by rw [List.length_append, HL.out, ← HN2.out]; omega) (HT.out wb hb).marks).mono ?_
        rintro e w' ⟨h1, h2⟩
        rw [show (0 : Int) = ((0 : Nat) : Int) from rfl, decAt_in, List.drop_zero, HD.out] at h1
        exact ⟨h1, h2⟩
      have DT : Hid (∀ (i : Nat) (wr : World), i < d → Below w.heap.size w wr → Below w1.heap.size w1 wr → Calls Tryd.prog 11 #[.slice (some ⟨g1, 0, none⟩) i c1, .int .i64 0] wr fun e w' => e = .returned (.tuple #[.int .i32 0, .int .i64 0, .int .i64 (if i = 0 then 7 else 320)]) ∧ Below wr.heap.size wr w') := Lib.hid fun i wr hid hb hb' => by
        refine (decode_any _ _ 0 wr (HC1.out i wr (by omega) hb') (by rw [List.length_take, HL.out]; omega) (HT.out wr hb).marks).mono ?_
        rintro e w' ⟨h1, h2⟩
        rw [show (0 : Int) = ((0 : Nat) : Int) from rfl, decAt_in, List.drop_zero] at h1
        by_cases h0 : i = 0
        · rw [if_pos h0]; subst h0; exact ⟨h1, h2⟩
        · rw [if_neg h0]; rw [HP.out i (by omega) hid] at h1; exact ⟨h1, h2⟩
      have hw1 := hb1.size
      clear hc1 hdd hir
      go_wp2_with (first
        | (at_builtin; refine wpList_append_any rfl (.tmp 47) (.tmp 48) 22 rfl w1.heap.size 5 i0 (.int .u8 0) 1 Tryd.underlying22 hi hj0 hj1 hj2 rfl _ 0 [] rfl HO0.out _ d ((enc r).map bc) rfl (HS1.out.below ((Below.refl _ w1).alloc (Nat.le_refl _) _) (Nat.le_refl _)) (by rw [List.length_map, HL.out]) (one_bc _) (by unfold maxLen; omega) (by omega) (by simp) ?_; intro va wa hoa hga; have HOa : Hid (wa.ownsRow w1.heap.size 5 1 va d ((enc r).map bc)) := Lib.hid (by simpa using hoa); have HBa : Below w1.heap.size w1 wa := (((Below.refl _ w1).alloc (Nat.le_refl _) _).grown hga (by simp) (fun k hk => (HO0.out.lt k hk).1)); clear hoa hga)
        | (at_builtin; refine wpList_append_any rfl (.tmp 49) (.tmp 50) 22 rfl w1.heap.size 5 i0 (.int .u8 0) 1 Tryd.underlying22 hi hj0 hj1 hj2 rfl va d ((enc r).map bc) rfl HOa.out _ n2 (l.map bc) rfl (S2.out _ (hb1.trans (HBa.mono hw1))) (by rw [List.length_map]; exact HN2.out.symm) (one_bc _) (by unfold maxLen; omega) (by omega) HBa.size ?_; intro vb wb hob hgb; have HBb : Below w1.heap.size w1 wb := HBa.grown hgb HBa.size (fun k hk => (HOa.out.lt k hk).1); have hBb := hb1.trans (HBb.mono hw1); have HOb := Lib.hid hob; clear hob hgb)
        | (go_at_call 11; refine (DC.out vb wb hBb HOb.out).mono ?_; rintro e w4 ⟨rfl, hb4⟩; have HB4 := HBb.trans (hb4.mono HBb.size)))
      go_loopw [12] (fun x12 wr => ∃ i : Nat, i ≤ d ∧ x12 = .int .i64 i ∧ Below w1.heap.size w1 wr) (fun x12 _ => d - (intOf x12).toNat)
      case atStart => exact ⟨0, Nat.zero_le _, rfl, HB4⟩
      case round =>
        obtain ⟨i, hid, rfl, hBr⟩ := hrel
        have hBw := hb1.trans (hBr.mono hw1)
        by_cases hlt : i < d
        · by_cases hi0 : i = 0
          · subst hi0
            have C := DT.out 0 wr hlt hBw hBr
            rw [if_pos rfl] at C
            have C := Lib.hid C
            go_wp2_with (go_at_call 11; refine C.out.mono ?_; rintro e w5 ⟨rfl, hb5⟩)
            go_roundw
            case rel => exact ⟨1, by omega, rfl, hBr.trans (hb5.mono hBr.size)⟩
            case measure => simp [intOf]; omega
          · have C := DT.out i wr hlt hBw hBr
            rw [if_neg hi0] at C
            have C := Lib.hid C
            have hi1 : 1 ≤ i := by omega
            have hi2 : i ≤ c1 := by omega
            clear hi0
            go_wp2_with (go_at_call 11; refine C.out.mono ?_; rintro e w5 ⟨rfl, hb5⟩)
            go_roundw
            case rel => exact ⟨i + 1, by omega, by go_num, hBr.trans (hb5.mono hBr.size)⟩
            case measure => simp [intOf]; omega
        · obtain rfl : i = d := by omega
          go_wp2_with fail
          go_meet
          exact hBw
  case rest =>
    have hB0 := hcut
    have DB : Hid (∀ (k : Nat) (wr : World), Below w.heap.size w wr → Calls Tryd.prog 11 #[.slice a2 n2 c2, .int .i64 (k : Int)] wr fun e w' => e = .returned (decV (dec (l.drop k))) ∧ Below wr.heap.size wr w') := Lib.hid fun k wr hb => by
      have := decode_any _ l (k : Int) wr (H2.out wr hb) (by rw [← HN2.out]; omega) (HT.out wr hb).marks
      rw [decAt_in] at this; exact this
    go_wp2_with fail
    go_loopw [16] (fun x16 wr => ∃ k : Nat, k ≤ n2 ∧ x16 = .int .i64 k ∧ Below w.heap.size w wr) (fun x16 _ => n2 - (intOf x16).toNat)
    case atStart => exact ⟨0, Nat.zero_le _, rfl, hB0⟩
    case round =>
      obtain ⟨k, hk, rfl, hB⟩ := hrel
      by_cases hlt : k < n2
      · obtain ⟨x, q, e, hd⟩ : ∃ x q e, dec (l.drop k) = (x, q, e) := ⟨_, _, _, rfl⟩
        have C := DB.out k wr hB
        rw [hd] at C
        have C := Lib.hid C
        by_cases he : e = 0
        · subst he
          obtain ⟨hx, hq, t, ht⟩ := dec_ok hd
          have hbd := (dec_bd (l.drop k)).2.2.2
          rw [hd, List.length_drop, ← HN2.out] at hbd
          simp only at hbd
          have hq1 : 1 ≤ q := by rw [hq]; exact wO_pos hx
          have hkq : k + q ≤ n2 := by omega
          have CX : Hid (∀ wr, Below w.heap.size w wr → Calls Tryd.prog 13 #[.int .i32 x] wr fun e w1 => ∃ a c, e = .returned (.tuple #[.slice a q c, .int .i64 0]) ∧ w1.ownsRow wr.heap.size 5 1 (.slice a q c) q ((enc x).map bc) ∧ Below wr.heap.size wr w1) := Lib.hid fun wr hb => enc_at x (enc x) 0 q wr (HT.out wr hb) rfl (by rw [hx]; rfl) (by rw [enc_len]; exact hq)
          have HL : Hid ((enc x).length = q) := Lib.hid (by rw [enc_len]; exact hq.symm)
          have HS : Hid ((l.drop k).take q = enc x) := Lib.hid (by rw [ht, hq, ← enc_len x]; simp)
          obtain ⟨g2, off2, ha2⟩ : ∃ g off, a2 = some ⟨g, off, none⟩ := by
            rcases H2.out w (Below.refl _ _) with ⟨_, _, hv, hnil⟩ | ⟨g, off, _, _, hv, _⟩
            · have : n2 = 0 := (Value.slice.inj hv).2.1; omega
            · exact ⟨g, off, (Value.slice.inj hv).1⟩
          have HV2 : Hid (∀ W, Below w.heap.size w W → (convert 22 9 (.slice (some ⟨g2, off2 + k, none⟩) q (c2 - k))).run Tryd.prog W = .ok (.string (str (enc x))) W) := Lib.hid fun W hb => by
            refine conv_src (n := q) (.inr ⟨_, _, rfl, fun j u hj => ?_⟩) HL.out.symm
            rcases H2.out W hb with ⟨_, _, hv, hnil⟩ | ⟨g, off, _, _, hv, _, _, hcell⟩
            · have : n2 = 0 := (Value.slice.inj hv).2.1; omega
            · rw [ha2] at hv
              obtain ⟨rfl, rfl⟩ : g2 = g ∧ off2 = off := by simpa using (Value.slice.inj hv).1
              rw [Go.WideShapes.add_plain]
              show W.cell? ⟨g2, off2 + k + j, none⟩ = some u
              rw [Nat.add_assoc]
              refine hcell (k + j) u ?_
              rw [← HS.out, List.map_take, List.map_drop, List.getElem?_take] at hj
              split at hj
              · rw [List.getElem?_drop] at hj; exact hj
              · cases hj
          subst ha2
          clear hd hq ht hx
          go_wp2_with (first | (go_at_call 11; refine C.out.mono ?_; rintro e w5 ⟨rfl, hb5⟩; unfold decV; simp only) | (go_at_call 13; refine (CX.out w5 (hB.trans (hb5.mono hB.size))).mono ?_; rintro e w6 ⟨a6, c6, rfl, ho6, hb6⟩; have hB6 := (hB.trans (hb5.mono hB.size)).trans (hb6.mono (hB.trans (hb5.mono hB.size)).size); have hv1 : ∀ n, (convert 22 9 (.slice a6 q c6)).run Tryd.prog (w6.drewN n) = .ok (.string (str (enc x))) (w6.drewN n) := fun n => conv_src ((SrcAt.own ho6).below (below_drewN w6 n) (Nat.le_refl _)) HL.out.symm; have hv2 := fun n => HV2.out (w6.drewN n) (hB6.trans ((below_drewN w6 n).mono hB6.size)); clear ho6))
          have hqq : ((q : Int) != (q : Int)) = false := by simp
          have hkc : (k : Int) + (q : Int) ≤ (c2 : Int) := by omega
          have h01 : (0 : Int) ≤ (k : Int) + (q : Int) := by omega
          have h02 : (0 : Int) ≤ (k : Int) := by omega
          have h03 : (k : Int) ≤ (k : Int) + (q : Int) := by omega
          have htn : ((k : Int) + (q : Int)).toNat = k + q := by omega
          have hwr : IntKind.i64.wrap ((k : Int) + (q : Int)) = (k : Int) + (q : Int) := IntWalk.i64_in _ (by omega)
          go_quiet (fail)
          clear hwr htn hkc h01 h02 h03 hqq hv1 hv2
          go_wp2_with fail
          go_roundw
          case rel => exact ⟨k + 1, by omega, by go_num, hB6.trans ((below_drewN _ _).mono hB6.size)⟩
          case measure => simp [intOf]; omega
        · have hne : (e != 0) = true := by rw [bne_iff_ne]; exact he
          clear hd he
          go_wp2_with (go_at_call 11; refine C.out.mono ?_; rintro e w5 ⟨rfl, hb5⟩; unfold decV; simp only)
          go_roundw
          case rel => exact ⟨k + 1, by omega, by go_num, hB.trans (hb5.mono hB.size)⟩
          case measure => simp [intOf]; omega
      · have hkn : n2 ≤ k := by omega
        clear hlt
        go_upto_if 143 with (go_at_call 21; refine (CRn.out wr hB).mono ?_; rintro e w5 ⟨a5, n5, c5, rfl, hr5, hb5⟩; have hB5 := hB.trans (hb5.mono hB.size); have HR5 := Lib.hid hr5; clear hr5)
        go_cut [] from 7 (fun wx => Below w.heap.size w wx)
        case first =>
          by_cases hc0 : (chkS l).2 = 0
          · have hf0 : fc = 0 := by rw [← HFC.out]; exact hc0
            have HR6 : Hid (RunesAt w5 (.slice a5 n5 c5) (runs l).1) := Lib.hid (by
              have := HR5.out; unfold runesS at this; rw [if_pos hc0] at this; exact this)
            have CB := CBy.out hc0
            have CB := Lib.hid CB
            clear hc0
            subst hf0
            go_wp2_with (go_at_call 23; refine (CB.out w5 _ hB5 HR6.out).mono ?_; rintro e w6 ⟨a6, c6, rfl, hs6, hb6⟩; have hB6 := hB5.trans (hb6.mono hB5.size); have hv1 := conv_src hs6 HN2.out; have hv2 := conv_src (S2.out w6 hB6) HN2.out; clear hs6)
            go_meet
            exact hB6
          · have hne : (fc == 0) = false := by rw [beq_eq_false_iff_ne, ← HFC.out]; exact hc0
            clear hc0
            go_wp2_with fail
            go_meet
            exact hB5
        case rest =>
          have hBC := hcut
          go_upto_if 166 with (go_at_call 23; refine (CBm.out wc hBC).mono ?_; rintro e w5 ⟨a5, n5, c5, rfl, hr5, hb5⟩; have hB5 := hBC.trans (hb5.mono hBC.size); have HR5 := Lib.hid hr5; clear hr5)
          go_cut [] from 7 (fun wx => Below w.heap.size w wx)
          case first =>
            by_cases hc0 : (bytesS m).2.2 = 0
            · have hf0 : fm = 0 := by rw [← HFM.out]; exact hc0
              have CR := CRm.out hc0 w5 _ hB5 HR5.out
              have CR := Lib.hid CR
              clear hc0
              subst hf0
              go_wp2_with (first | (go_at_call 21; refine CR.out.mono ?_; rintro e w6 ⟨a6, n6, c6, rfl, hr6, hb6⟩; have hB6 := hB5.trans (hb6.mono hB5.size); have HR6 := Lib.hid hr6; clear hr6) | (go_at_call 25; refine (CSm.out w6 _ hB6 HR6.out).mono ?_; rintro e w7 ⟨rfl, hb7⟩; have hB7 := hB6.trans (hb7.mono hB6.size)))
              go_meet
              exact hB7
            · have hne : (fm == 0) = false := by rw [beq_eq_false_iff_ne, ← HFM.out]; exact hc0
              clear hc0
              go_wp2_with fail
              go_meet
              exact hB5
          case rest =>
            have hBD := hcut
            go_wp2_with (go_at_call 10; refine (CA.out _ hBD).mono ?_; rintro e w9 ⟨rfl, hb9⟩)
            go_ret
            exact ⟨rfl, hBD.trans (hb9.mono hBD.size)⟩

set_option maxRecDepth 100000 in
set_option maxHeartbeats 1600000 in
theorem lawB_big (r : Int) (a2 a3 : Option Addr) (n2 n3 c2 c3 : Nat) (w : World) (T : Tabs w) (hb : 200 < n2 ∨ 100 < n3) :
    Calls Tryd.prog 6 #[.int .i32 r, .slice a2 n2 c2, .slice a3 n3 c3] w fun e w' => e = .returned (.bool true) ∧ Below w.heap.size w w' := by
  have CA : Hid (Calls Tryd.prog 10 #[] w fun e w' => e = .returned (.bool true) ∧ Below w.heap.size w w') := Lib.hid (awake_any w T)
  clear T
  by_cases h : 200 < n2
  · clear hb
    go_enter Tryd.func6, Tryd.ntmps6
    go_wp2_with (go_at_call 10; refine CA.out.mono ?_; rintro e w1 ⟨rfl, hb1⟩)
    go_ret
    exact ⟨rfl, hb1⟩
  · have h3 : 100 < n3 := by omega
    clear hb
    go_enter Tryd.func6, Tryd.ntmps6
    go_wp2_with (go_at_call 10; refine CA.out.mono ?_; rintro e w1 ⟨rfl, hb1⟩)
    go_ret
    exact ⟨rfl, hb1⟩
theorem lawB_any (r : Int) (v2 v3 : Value) (l : List UInt8) (m : List Int) (w : World) (T : Tabs w) (h2 : ArgAt w v2 (l.map bc)) (h3 : RunesAt w v3 m) :
    Calls Tryd.prog 6 #[.int .i32 r, v2, v3] w fun e w' => e = .returned (.bool true) ∧ Below w.heap.size w w' := by
  obtain ⟨a3, c3, rfl⟩ := RowAt.slice h3
  obtain ⟨a2, n2, c2, rfl, hn2, hcap, s2⟩ := h2
  rw [List.length_map] at hn2 h3 ⊢
  by_cases hb : 200 < n2 ∨ 100 < m.length
  · exact lawB_big r a2 a3 n2 _ c2 c3 w T hb
  · exact lawB_small r a2 a3 n2 _ c2 c3 l m w T s2 hn2 h3 rfl (by omega) (by omega) hcap
end Go.Proofs.YtkpapggojiejdaaDoor
