/- The law RunesOrder, walked. -/
import Derived.Deep.DeepCutAuto
import Derived.Deep.CutBlock

import Derived.Test.YtkpapggojiejdaaDoorRord
namespace Go.Proofs.YtkpapggojiejdaaDoor
open Go.RowKit Go.PlainAid

theorem take_at {w : World} {a : Option Addr} {n c i : Nat} {l : List UInt8} (h : BytesAt w (.slice a n c) l) (hi : i ≤ n) : BytesAt w (.slice a i c) (l.take i) := by
  have hl : n = l.length := by
    obtain ⟨a', c', e⟩ := RowAt.slice h
    have := (Value.slice.inj e).2.1; rw [List.length_map] at this; exact this
  by_cases h0 : i = 0
  · subst h0; exact .inl ⟨_, _, rfl, rfl⟩
  · rcases h with ⟨a', c', e, hnil⟩ | ⟨g, off, n', cap, e, hn, hg, hc⟩
    · have := (Value.slice.inj e).2.1; omega
    · obtain ⟨rfl, rfl, rfl⟩ := Value.slice.inj e
      refine .inr ⟨g, off, i, _, rfl, by rw [List.length_map, List.length_take]; omega, hg, fun j u hj => ?_⟩
      rw [List.map_take, List.getElem?_take] at hj
      split at hj
      · exact hc j u hj
      · cases hj
theorem drop_at {w : World} {a : Option Addr} {n c i : Nat} {l : List UInt8} (h : BytesAt w (.slice a n c) l) (hi : i ≤ n) (hcap : n ≤ c) : BytesAt w (.slice (if c = i then a else a.map (·.add i)) (n - i) (c - i)) (l.drop i) := by
  have hl : n = l.length := by
    obtain ⟨a', c', e⟩ := RowAt.slice h
    have := (Value.slice.inj e).2.1; rw [List.length_map] at this; exact this
  by_cases h0 : i = n
  · subst h0; exact .inl ⟨_, _, by rw [Nat.sub_self], by rw [List.drop_of_length_le (by omega)]; rfl⟩
  · rcases h with ⟨a', c', e, hnil⟩ | ⟨g, off, n', cap, e, hn, hg, hc⟩
    · have := (Value.slice.inj e).2.1; omega
    · obtain ⟨rfl, rfl, rfl⟩ := Value.slice.inj e
      rw [if_neg (by omega), Option.map_some, Go.WideShapes.add_plain]
      refine .inr ⟨g, off + i, n - i, _, rfl, by rw [List.length_map, List.length_drop]; omega, hg, fun j u hj => ?_⟩
      rw [List.map_drop, List.getElem?_drop] at hj
      have := hc (i + j) u hj
      rw [← Nat.add_assoc] at this
      exact this
theorem startsS_len' (l : List UInt8) : (startsS l).1.length ≤ l.length + 1 := by
  unfold startsS; split
  · have := runs_len_le l
    show (stS l).length ≤ _
    unfold stS; rw [List.length_append, begs_len]; simp only [List.length_cons, List.length_nil]; omega
  · simp

set_option maxRecDepth 100000 in
set_option maxHeartbeats 12800000 in
theorem lawO_small (r s : Int) (a2 : Option Addr) (n2 c2 : Nat) (l : List UInt8) (w : World) (T : Tabs w) (s2 : SrcAt w (.slice a2 n2 c2) n2 (l.map bc)) (hn2 : n2 = l.length) (hb2 : n2 ≤ 200) (hcap : n2 ≤ c2) :
    Calls Tryd.prog 7 #[.int .i32 r, .int .i32 s, .slice a2 n2 c2] w fun e w' => e = .returned (.bool true) ∧ Below w.heap.size w w' := by
  have h2 : BytesAt w (.slice a2 n2 c2) l := s2.row (by rw [List.length_map]; exact hn2)
  have HT : Hid (∀ W, Below w.heap.size w W → Tabs W) := Lib.hid fun W hb => T.below hb
  have H2 : Hid (∀ W, Below w.heap.size w W → BytesAt W (.slice a2 n2 c2) l) := Lib.hid fun W hb => h2.below hb (Nat.le_refl _)
  have HN2 := Lib.hid hn2
  have CA : Hid (∀ W, Below w.heap.size w W → Calls Tryd.prog 10 #[] W fun e w' => e = .returned (.bool true) ∧ Below W.heap.size W w') := Lib.hid fun W hb => awake_any W (T.below hb)
  have hd1 : decide ((200 : Int) < (n2 : Int)) = false := decide_eq_false (by omega)
  obtain ⟨f, hf⟩ : ∃ f : Int, (if isR r then (0 : Int) else 7) = f := ⟨_, rfl⟩
  obtain ⟨d, hd⟩ : ∃ d, wO r = d := ⟨_, rfl⟩
  obtain ⟨f', hf'⟩ : ∃ f' : Int, (if isR s then (0 : Int) else 7) = f' := ⟨_, rfl⟩
  obtain ⟨d', hd'⟩ : ∃ d', wO s = d' := ⟨_, rfl⟩
  have CE : Hid (Calls Tryd.prog 13 #[.int .i32 r] w fun e w1 => ∃ a c, e = .returned (.tuple #[.slice a d c, .int .i64 f]) ∧ w1.ownsRow w.heap.size 5 1 (.slice a d c) d ((enc r).map bc) ∧ Below w.heap.size w w1) := Lib.hid (enc_at r (enc r) f d w T rfl hf (by rw [← hd]; exact (enc_len r).symm))
  have CE' : Hid (∀ W, Below w.heap.size w W → Calls Tryd.prog 13 #[.int .i32 s] W fun e w1 => ∃ a c, e = .returned (.tuple #[.slice a d' c, .int .i64 f']) ∧ w1.ownsRow W.heap.size 5 1 (.slice a d' c) d' ((enc s).map bc) ∧ Below W.heap.size W w1) := Lib.hid fun W hb => enc_at s (enc s) f' d' W (HT.out W hb) rfl hf' (by rw [← hd']; exact (enc_len s).symm)
  have HF := Lib.hid hf
  have HF' := Lib.hid hf'
  have HD : Hid (d = (enc r).length) := Lib.hid (by rw [enc_len, hd])
  have HD' : Hid (d' = (enc s).length) := Lib.hid (by rw [enc_len, hd'])
  clear T h2 s2 hn2 hf hd hf' hd'
  go_enter Tryd.func7, Tryd.ntmps7
  go_wp2_with fail
  refine CE.out.mono ?_
  rintro e w1 ⟨a1, c1, rfl, ho1, hb1⟩
  have HO1 := Lib.hid ho1
  clear ho1
  go_wp2_with fail
  refine (CE'.out w1 hb1).mono ?_
  rintro e w3 ⟨a3, c3, rfl, ho3, hb3⟩
  have hB3 := hb1.trans (hb3.mono hb1.size)
  have HO3 := Lib.hid ho3
  clear ho3
  go_upto_region 5 with (fail)
  go_cut [64] (fun s64 wx => s64 = .bool false ∧ Below w.heap.size w wx)
  case first =>
    cases hir : isR r
    · have hf7 : f = 7 := by rw [← HF.out, hir]; rfl
      subst hf7
      go_wp2_with fail
      go_meet
      exact ⟨rfl, hB3⟩
    · have hf0 : f = 0 := by rw [← HF.out, hir]; rfl
      subst hf0
      cases his : isR s
      · have hf7 : f' = 7 := by rw [← HF'.out, his]; rfl
        subst hf7
        go_wp2_with fail
        go_meet
        exact ⟨rfl, hB3⟩
      · have hf0' : f' = 0 := by rw [← HF'.out, his]; rfl
        subst hf0'
        have hv1 : (convert 22 9 (.slice a1 d c1)).run Tryd.prog w3 = .ok (.string (str (enc r))) w3 := conv_src ((SrcAt.own HO1.out).below hb3 (Nat.le_refl _)) HD.out
        have hv2 : (convert 22 9 (.slice a3 d' c3)).run Tryd.prog w3 = .ok (.string (str (enc s))) w3 := conv_src (SrcAt.own HO3.out) HD'.out
        have hS1 : Op.bytesLess (str (enc r)).toList (str (enc s)).toList = decide (r < s) := by rw [str_toList, str_toList]; exact lt_enc hir his
        have hS2 : ((str (enc r)).toList == (str (enc s)).toList) = decide (r = s) := by rw [str_toList, str_toList]; exact eq_enc hir his
        clear hir his
        by_cases h1 : r < s
        · have e1 : decide (r < s) = true := decide_eq_true h1
          have e2 : (r == s) = false := by rw [beq_eq_false_iff_ne]; omega
          rw [e1] at hS1
          rw [decide_eq_false (by omega)] at hS2
          clear h1
          go_wp2_with fail
          go_meet
          exact ⟨rfl, hB3⟩
        · by_cases h2 : r = s
          · have e1 : decide (r < s) = false := decide_eq_false h1
            have e2 : (r == s) = true := by rw [beq_iff_eq]; exact h2
            rw [e1] at hS1
            rw [decide_eq_true h2] at hS2
            clear h1 h2
            go_wp2_with fail
            go_meet
            exact ⟨rfl, hB3⟩
          · have e1 : decide (r < s) = false := decide_eq_false h1
            have e2 : (r == s) = false := by rw [beq_eq_false_iff_ne]; exact h2
            rw [e1] at hS1
            rw [decide_eq_false h2] at hS2
            clear h1 h2
            go_wp2_with fail
            go_meet
            exact ⟨rfl, hB3⟩
  case rest =>
    obtain ⟨rfl, hB4⟩ := hcut
    clear hB3 hb3 HO3 hb1 HO1 CE CE'
    obtain ⟨fc, hfc⟩ : ∃ fc : Int, (startsS l).2 = fc := ⟨_, rfl⟩
    obtain ⟨S, hS⟩ : ∃ S, (startsS l).1 = S := ⟨_, rfl⟩
    have hfce : fc = (chkS l).2 := by
      rw [← hfc]; unfold startsS; split
      · rename_i h; exact h.symm
      · rfl
    obtain ⟨p, hp⟩ : ∃ p, S.length = p := ⟨_, rfl⟩
    have hpl : p ≤ 201 := by have := startsS_len' l; rw [hS, hp, ← HN2.out] at this; omega
    have CS : Hid (∀ W, Below w.heap.size w W → Calls Tryd.prog 26 #[.slice a2 n2 c2] W fun e w1 => ∃ a c, e = .returned (.tuple #[.slice a p c, .int .i64 fc]) ∧ RowAt w1 (.slice a p c) (S.map (fun k : Nat => Value.int .i64 (k : Int))) ∧ Below W.heap.size W w1) := Lib.hid fun W hb => by
      refine (starts_any _ l W (H2.out W hb) (by rw [← HN2.out]; omega) (HT.out W hb).marks (HT.out W hb).hm).mono ?_
      rintro e w1 ⟨v, h1, h2, h3⟩
      rw [hfc] at h1
      rw [hS, hp] at h2
      have h4 := RowAt.own h2
      obtain ⟨a, c, rfl⟩ := h4.slice
      rw [List.length_map, hp] at h1 h4
      exact ⟨_, _, h1, h4, h3⟩
    have HP := Lib.hid hp
    go_wp2_with fail
    refine (CS.out wc hB4).mono ?_
    rintro e w5 ⟨a5, c5, rfl, hr5, hb5⟩
    have hB5 := hB4.trans (hb5.mono hB4.size)
    have HR5 := Lib.hid hr5
    clear hr5 CS hp
    by_cases hc0 : fc = 0
    · have hc1 : (chkS l).2 = 0 := by rw [← hfce]; exact hc0
      have hr0 : (runs l).2 = 0 := by
        unfold chkS at hc1; split at hc1
        · exact absurd hc1 (by decide)
        · exact hc1
      have hSS : S = stS l := by rw [← hS]; unfold startsS; rw [if_pos hc1]
      have hl8 : l.length ≤ 8000 := by rw [← HN2.out]; omega
      have hlen : l.length = wid (runs l).1 := by rw [← encs_len, ← runs_whole hr0]
      have HSo : Hid (S.Pairwise (· < ·) ∧ ∀ s ∈ S, s ≤ n2) := Lib.hid (by
        have h1 := (st_sorted (runs l).1 0 (runs_all l)).1
        rw [Nat.zero_add, ← hlen] at h1
        have h2 : S = begs 0 (runs l).1 ++ [l.length] := by rw [hSS]; rfl
        rw [← h2] at h1
        refine ⟨h1, fun s hs => ?_⟩
        rw [h2] at hs h1
        rcases List.mem_append.1 hs with hs | hs
        · have := (List.pairwise_append.1 h1).2.2 s hs l.length (by simp); rw [HN2.out]; omega
        · have : s = l.length := by simpa using hs
          rw [HN2.out]; omega)
      have HPl : Hid (p = (runs l).1.length + 1) := Lib.hid (by rw [← HP.out, hSS]; unfold stS; rw [List.length_append, begs_len]; rfl)
      have HC : Hid (∀ i, i ≤ n2 → ∃ k, onV l (i : Int) = .tuple #[.bool (decide (k = i)), .int .i64 0] ∧ backV l (i : Int) = .tuple #[.int .i64 (k : Int), .int .i64 0] ∧ k ≤ i ∧ i ≤ k + 3 ∧ (i ∈ S ↔ k = i) ∧ (((chkS (l.take i)).2 = 0 ∧ (chkS (l.drop i)).2 = 0) ↔ k = i)) := Lib.hid fun i hi => by
        obtain ⟨k, h1, h2, h3, h4, h5⟩ := cut_at hr0 hl8 (i := i) (by rw [← HN2.out]; exact hi)
        have hb : backS l (i : Int) = ((k : Int), 0) := by
          unfold backS; rw [if_neg (by rw [hc1]; simp), if_neg (by rw [← HN2.out]; omega), Int.toNat_natCast, h1]
        refine ⟨k, ?_, ?_, h2, h3, by rw [hSS]; exact h4, h5⟩
        · unfold onV onS; rw [hb]
          have : decide (((k : Int), (0 : Int)).2 = 0 ∧ ((k : Int), (0 : Int)).1 = (i : Int)) = decide (k = i) := by
            rw [decide_eq_decide]; constructor
            · rintro ⟨_, h⟩; simp only at h; omega
            · rintro rfl; exact ⟨rfl, rfl⟩
          rw [this]
        · unfold backV; rw [hb]
      have CO : Hid (∀ (i : Int) W, Below w.heap.size w W → Calls Tryd.prog 28 #[.slice a2 n2 c2, .int .i64 i] W fun e' w' => e' = .returned (onV l i) ∧ Below W.heap.size W w') := Lib.hid fun i W hb =>
        on_any _ l i W (H2.out W hb) (by rw [← HN2.out]; omega) (HT.out W hb).marks (HT.out W hb).hm
      have CB : Hid (∀ (i : Int) W, Below w.heap.size w W → Calls Tryd.prog 30 #[.slice a2 n2 c2, .int .i64 i] W fun e' w' => e' = .returned (backV l i) ∧ Below W.heap.size W w') := Lib.hid fun i W hb =>
        back_any _ l i W (H2.out W hb) (by rw [← HN2.out]; omega) (HT.out W hb).marks (HT.out W hb).hm
      have CK : Hid (∀ v (m : List UInt8) (x g : Int) W, Below w.heap.size w W → BytesAt W v m → m.length ≤ 200 → x = ((chkS m).1 : Int) → g = (chkS m).2 → Calls Tryd.prog 17 #[v] W fun e' w' => e' = .returned (.tuple #[.int .i64 x, .int .i64 g]) ∧ Below W.heap.size W w') := Lib.hid fun v m x g W hb h hm hx hg => by
        subst hx hg
        exact check_any v m W h (by omega) (HT.out W hb).marks (HT.out W hb).hm
      have CN : Hid (∀ W, Below w.heap.size w W → Calls Tryd.prog 19 #[.slice a2 n2 c2] W fun e' w' => e' = .returned (.tuple #[.int .i64 ((p : Int) - 1), .int .i64 0]) ∧ Below W.heap.size W w') := Lib.hid fun W hb => by
        have := count_any _ l W (H2.out W hb) (by rw [← HN2.out]; omega) (HT.out W hb).marks (HT.out W hb).hm
        have e : cntV l = .tuple #[.int .i64 ((p : Int) - 1), .int .i64 0] := by
          unfold cntV cntS; rw [if_pos hc1, HPl.out]
          have : (((runs l).1.length + 1 : Nat) : Int) - 1 = ((runs l).1.length : Int) := by omega
          rw [this]
        rw [e] at this; exact this
      clear hc1 hr0 hSS hl8 hlen hfc hS hfce
      subst hc0
      go_wp2_with fail
      go_loopw [12, 13] (fun x12 x13 wr => ∃ i a : Nat, i ≤ n2 + 1 ∧ a ≤ p ∧ x12 = .int .i64 a ∧ x13 = .int .i64 i ∧ Hid (Met S i a) ∧ Below w.heap.size w wr ∧ Below w5.heap.size w5 wr) (fun _ x13 _ => n2 + 1 - (intOf x13).toNat)
      case atStart => exact ⟨0, 0, Nat.zero_le _, Nat.zero_le _, rfl, rfl, Lib.hid (Met.zero S), hB5, Below.refl _ _⟩
      case round =>
        obtain ⟨i, a, hi, hap, rfl, rfl, HM, hB, hBr⟩ := hrel
        by_cases hlt : i ≤ n2
        · obtain ⟨k, e1, e2, k1, k2, k3, k4⟩ := HC.out i hlt
          have C1 := CO.out i wr hB
          rw [e1] at C1
          have C2 := CB.out i
          rw [e2] at C2
          have C1 := Lib.hid C1
          have C2 := Lib.hid C2
          clear e1 e2
          go_wp2_with fail
          refine C1.out.mono ?_
          rintro e w6 ⟨rfl, hb6⟩
          have hB6 := hB.trans (hb6.mono hB.size)
          go_wp2_with fail
          refine (C2.out w6 hB6).mono ?_
          rintro e w7 ⟨rfl, hb7⟩
          have hB7 := hB6.trans (hb7.mono hB6.size)
          obtain ⟨g, hg⟩ : ∃ g, (chkS (l.take i)).2 = g := ⟨_, rfl⟩
          obtain ⟨x, hx⟩ : ∃ x : Int, ((chkS (l.take i)).1 : Int) = x := ⟨_, rfl⟩
          obtain ⟨g', hg'⟩ : ∃ g', (chkS (l.drop i)).2 = g' := ⟨_, rfl⟩
          obtain ⟨x', hx'⟩ : ∃ x' : Int, ((chkS (l.drop i)).1 : Int) = x' := ⟨_, rfl⟩
          rw [hg, hg'] at k4
          have C3 : Hid (∀ W, Below w.heap.size w W → Calls Tryd.prog 17 #[.slice a2 i c2] W fun e' w' => e' = .returned (.tuple #[.int .i64 x, .int .i64 g]) ∧ Below W.heap.size W w') := Lib.hid fun W hb =>
            CK.out _ (l.take i) x g W hb (take_at (H2.out W hb) hlt) (by rw [List.length_take]; omega) hx.symm hg.symm
          have C4 : Hid (∀ A c, ((c2 = i ∧ A = a2 ∧ c = 0) ∨ (¬ c2 = i ∧ A = a2.map (·.add i) ∧ c = c2 - i)) → ∀ W, Below w.heap.size w W → Calls Tryd.prog 17 #[.slice A (n2 - i) c] W fun e' w' => e' = .returned (.tuple #[.int .i64 x', .int .i64 g']) ∧ Below W.heap.size W w') := Lib.hid fun A c hA W hb =>
            CK.out _ (l.drop i) x' g' W hb (by
              have := drop_at (H2.out W hb) hlt hcap
              rcases hA with ⟨h, rfl, rfl⟩ | ⟨h, rfl, rfl⟩
              · rw [if_pos h, show c2 - i = 0 by omega] at this; exact this
              · rw [if_neg h] at this; exact this) (by rw [List.length_drop, ← HN2.out]; omega) hx'.symm hg'.symm
          have hic : i ≤ c2 := by omega
          clear hg hx hg' hx'
          go_wp2_with fail
          refine (C3.out w7 hB7).mono ?_
          rintro e w8 ⟨rfl, hb8⟩
          have hB8 := hB7.trans (hb8.mono hB7.size)
          go_wp2_with fail
          all_goals
            refine (C4.out _ _ (by first | exact .inl ⟨by assumption, rfl, rfl⟩ | exact .inr ⟨by assumption, rfl, rfl⟩) w8 hB8).mono ?_
            rintro e w9 ⟨rfl, hb9⟩
            first | subst c2 | clear h
            have hB9 := hB8.trans (hb9.mono hB8.size)
            have hBr9 : Below w5.heap.size w5 w9 := hBr.trans ((((hb6.trans (hb7.mono hb6.size)).trans (hb8.mono (hb6.trans (hb7.mono hb6.size)).size)).trans (hb9.mono ((hb6.trans (hb7.mono hb6.size)).trans (hb8.mono (hb6.trans (hb7.mono hb6.size)).size)).size)).mono hBr.size)
            have d1 : decide ((i : Int) < (k : Int)) = false := decide_eq_false (by omega)
            have n1 : ¬ i < k := by omega
            have n1' : decide (i < k) = false := decide_eq_false n1
            have d2 : decide ((k : Int) < (i : Int) - 3) = false := decide_eq_false (by omega)
            by_cases hki : k = i
            · obtain ⟨rfl, rfl⟩ := k4.2 hki
              obtain ⟨hS1, hM1⟩ := HM.out.yes HSo.out.1 (k3.2 hki)
              have HM1 := Lib.hid hM1
              have hap' : a < p := by rw [← HP.out]; exact (List.getElem?_eq_some_iff.1 hS1).1
              rcases (RowAt.below HR5.out hBr9 (Nat.le_refl _)) with ⟨_, _, hv, hnil⟩ | ⟨gg, off, nn, cc, hv, _, _, hcell⟩
              · have := (Value.slice.inj hv).2.1; omega
              · obtain ⟨rfl, hs2, hs3⟩ := Value.slice.inj hv
                have c0 : w9.cell? ⟨gg, off + a, none⟩ = some (.int .i64 (i : Int)) := hcell a _ (by rw [List.getElem?_map, hS1]; rfl)
                have d3 : decide (k = i) = true := decide_eq_true hki
                have d4 : ((k : Int) == (i : Int)) = true := by rw [beq_iff_eq]; omega
                have d5 : decide ((p : Int) ≤ (a : Int)) = false := decide_eq_false (by omega)
                have n5 : ¬ p ≤ a := by omega
                have n5' : decide (p ≤ a) = false := decide_eq_false n5
                have d6 : ((i : Int) != (i : Int)) = false := by simp
                clear hcell hv hs2 hs3 hM1 hS1 k3 k4 hki HM
                go_wp2_with fail
                go_roundw
                case rel => exact ⟨i + 1, a + 1, by omega, by omega, by go_num, by go_num, HM1, hB9, hBr9⟩
                case measure => simp [intOf]; omega
            · have hM1 := HM.out.no (fun h => hki (k3.1 h))
              have HM1 := Lib.hid hM1
              have d3 : decide (k = i) = false := decide_eq_false hki
              have d4 : ((k : Int) == (i : Int)) = false := by rw [beq_eq_false_iff_ne]; omega
              by_cases hg0 : g = 0
              · have hg1 : (g' == 0) = false := by rw [beq_eq_false_iff_ne]; exact fun h => hki (k4.1 ⟨hg0, h⟩)
                subst hg0
                clear k3 k4 hki HM hM1
                go_wp2_with fail
                go_roundw
                case rel => exact ⟨i + 1, a, by omega, hap, rfl, by go_num, HM1, hB9, hBr9⟩
                case measure => simp [intOf]; omega
              · have hg1 : (g == 0) = false := by rw [beq_eq_false_iff_ne]; exact hg0
                clear k3 k4 hki HM hM1 hg0
                go_wp2_with fail
                go_roundw
                case rel => exact ⟨i + 1, a, by omega, hap, rfl, by go_num, HM1, hB9, hBr9⟩
                case measure => simp [intOf]; omega
        · obtain rfl : i = n2 + 1 := by omega
          obtain rfl : a = p := by rw [← HP.out]; exact HM.out.all (fun s hs => by have := HSo.out.2 s hs; omega)
          have hp1 : 1 ≤ a := by rw [HPl.out]; omega
          clear hlt
          go_wp2_with fail
          refine (CN.out wr hB).mono ?_
          rintro e w6 ⟨rfl, hb6⟩
          have hB6 := hB.trans (hb6.mono hB.size)
          go_wp2_with fail
          refine (CA.out w6 hB6).mono ?_
          rintro e w7 ⟨rfl, hb7⟩
          go_wp2_with fail
          go_ret
          exact ⟨rfl, hB6.trans (hb7.mono hB6.size)⟩
    · have hne : (fc != 0) = true := by rw [bne_iff_ne]; exact hc0
      clear hc0 hfce hfc hS
      go_wp2_with fail
      refine (CA.out w5 hB5).mono ?_
      rintro e w6 ⟨rfl, hb6⟩
      go_wp2_with fail
      go_ret
      exact ⟨rfl, hB5.trans (hb6.mono hB5.size)⟩

set_option maxRecDepth 100000 in
set_option maxHeartbeats 1600000 in
theorem lawO_big (r s : Int) (a2 : Option Addr) (n2 c2 : Nat) (w : World) (T : Tabs w) (h : 200 < n2) :
    Calls Tryd.prog 7 #[.int .i32 r, .int .i32 s, .slice a2 n2 c2] w fun e w' => e = .returned (.bool true) ∧ Below w.heap.size w w' := by
  have CA : Hid (Calls Tryd.prog 10 #[] w fun e w' => e = .returned (.bool true) ∧ Below w.heap.size w w') := Lib.hid (awake_any w T)
  clear T
  go_enter Tryd.func7, Tryd.ntmps7
  go_wp2_with (go_at_call 10; refine CA.out.mono ?_; rintro e w1 ⟨rfl, hb1⟩)
  go_ret
  exact ⟨rfl, hb1⟩
theorem lawO_any (r s : Int) (v2 : Value) (l : List UInt8) (w : World) (T : Tabs w) (h2 : ArgAt w v2 (l.map bc)) :
    Calls Tryd.prog 7 #[.int .i32 r, .int .i32 s, v2] w fun e w' => e = .returned (.bool true) ∧ Below w.heap.size w w' := by
  obtain ⟨a2, n2, c2, rfl, hn2, hcap, s2⟩ := h2
  rw [List.length_map] at hn2
  by_cases hb : 200 < n2
  · exact lawO_big r s a2 n2 c2 w T hb
  · exact lawO_small r s a2 n2 c2 l w T s2 hn2 (by omega) hcap
end Go.Proofs.YtkpapggojiejdaaDoor
