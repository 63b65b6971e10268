/- The law WordsBoth, walked. -/
import Derived.Test.YtbggmmbbjojjcaaDoorLawJ
import Derived.Test.YtbggmmbbjojjcaaDoorBothM
namespace Go.Proofs.YtbggmmbbjojjcaaDoor
open Go.RowKit Go.PlainAid

theorem one_fcs (l : List Fld) : ∀ u ∈ fcs l, u.oneCell' = true := by
  intro u hu
  unfold fcs at hu
  obtain ⟨s, _, hs⟩ := List.mem_flatMap.1 hu
  rcases List.mem_cons.1 hs with rfl | hs
  · simp [Value.oneCell']
  · rw [List.mem_singleton.1 hs]; simp [Value.oneCell']
theorem own_zero (w : World) (B : Nat) (e : TypeId) (hB : B ≤ w.heap.size) : (w.alloc (.cells #[] e)).ownsRow B e 2 (.slice (some ⟨w.heap.size, 0, none⟩) 0 0) 0 [] :=
  ⟨rfl, .inr ⟨w.heap.size, 0, #[], rfl, hB, World.alloc_heap_new _ _, Nat.le_refl _, Nat.zero_le _, rfl, rfl⟩⟩

set_option maxRecDepth 100000 in
set_option maxHeartbeats 3200000 in
theorem both_some (gl ol cl gm om cm : Nat) (l m : List Fld) (w : World) (T : Ties w) (hgl : gl < w.heap.size) (hgm : gm < w.heap.size) (hl0 : l ≠ []) (hm0 : m ≠ [])
    (hcl : ∀ j u, (fcs l)[j]? = some u → w.cell? ⟨gl, ol + j, none⟩ = some u) (hcm : ∀ j u, (fcs m)[j]? = some u → w.cell? ⟨gm, om + j, none⟩ = some u) :
    Calls Tryd.prog 8 #[.slice (some ⟨gl, ol, none⟩) l.length cl, .slice (some ⟨gm, om, none⟩) m.length cm] w fun e w' => e = .returned (.bool true) ∧ Below w.heap.size w w' := by
  obtain ⟨i0, hi, hj0, hj1, hj2⟩ := info_parts2 infoF
  have CS : Hid (∀ w', Below w.heap.size w w' → Calls Tryd.prog 9 #[] w' fun e w'' => e = .returned (.bool true) ∧ Below w'.heap.size w' w'') := Lib.hid fun w' hb => shown_any w' (T w' hb) (T.below hb)
  have FL : FldsAt w (.slice (some ⟨gl, ol, none⟩) l.length cl) l := .inr ⟨_, _, _, rfl, hgl, hcl⟩
  have FM : FldsAt w (.slice (some ⟨gm, om, none⟩) m.length cm) m := .inr ⟨_, _, _, rfl, hgm, hcm⟩
  have C0 := Lib.hid (far_any _ l w FL)
  have C1 : Hid (∀ w', Below w.heap.size w w' → Calls Tryd.prog 23 #[.slice (some ⟨gm, om, none⟩) m.length cm] w' (FarV m w')) := Lib.hid fun w' hb => far_any _ m w' (FM.below hb (Nat.le_refl _))
  have CJ : Hid (∀ w' v x, Below w.heap.size w w' → FldsAt w' v x → x.length ≤ 140 → Calls Tryd.prog 24 #[v] w' fun e w'' => e = .returned (joinV x) ∧ Below w'.heap.size w' w'') := Lib.hid fun w' v x hb h hl => join_any len_ok str_ok v x w' (T w' hb).esc (T w' hb).he h (by omega)
  have HFL := Lib.hid FL
  have HFM := Lib.hid FM
  have hll : (((l.length : Nat) : Int) == 0) = false := by rw [beq_eq_false_iff_ne]; have := List.length_pos_iff.2 hl0; omega
  have hmm : (((m.length : Nat) : Int) == 0) = false := by rw [beq_eq_false_iff_ne]; have := List.length_pos_iff.2 hm0; omega
  have HCL := Lib.hid hcl
  have HCM := Lib.hid hcm
  clear T FL FM hcl hcm
  go_enter Tryd.func8, Tryd.ntmps8
  go_wp2_with fail
  refine C0.out.mono ?_
  rintro e w1 ⟨b, rfl, hb70, hb1⟩
  cases b with
  | true =>
    go_wp2_with (go_at_call 9; refine (CS.out _ hb1).mono ?_; rintro e w9 ⟨rfl, hb9⟩)
    go_ret
    exact ⟨rfl, hb1.trans (hb9.mono hb1.size)⟩
  | false =>
    have hl70 := hb70 rfl
    clear hb70
    go_wp2_with fail
    refine (C1.out _ hb1).mono ?_
    rintro e w2 ⟨b, rfl, hb70, hb2⟩
    have hB2 := hb1.trans (hb2.mono hb1.size)
    cases b with
    | true =>
      go_wp2_with (go_at_call 9; refine (CS.out _ hB2).mono ?_; rintro e w9 ⟨rfl, hb9⟩)
      go_ret
      exact ⟨rfl, hB2.trans (hb9.mono hB2.size)⟩
    | false =>
      have hm70 := hb70 rfl
      clear hb70
      obtain ⟨a, ha⟩ : ∃ x, (joinS l).1 = x := ⟨_, rfl⟩
      obtain ⟨e1, he1⟩ : ∃ x, (joinS l).2 = x := ⟨_, rfl⟩
      obtain ⟨b, hb⟩ : ∃ x, (joinS m).1 = x := ⟨_, rfl⟩
      obtain ⟨e2, he2⟩ : ∃ x, (joinS m).2 = x := ⟨_, rfl⟩
      have hV1 : joinV l = .tuple #[.string (str a), .int .i64 e1] := by unfold joinV; rw [ha, he1]
      have hV2 : joinV m = .tuple #[.string (str b), .int .i64 e2] := by unfold joinV; rw [hb, he2]
      go_wp2_with fail
      -- MARK1
      refine (CJ.out _ _ l hB2 (HFL.out.below hB2 (Nat.le_refl _)) (by omega)).mono ?_
      rintro e w3 ⟨rfl, hb3⟩
      have hB3 := hB2.trans (hb3.mono hB2.size)
      rw [hV1]
      go_wp2_with fail
      refine (CJ.out _ _ m hB3 (HFM.out.below hB3 (Nat.le_refl _)) (by omega)).mono ?_
      rintro e w4 ⟨rfl, hb4⟩
      have hB4 := hB3.trans (hb4.mono hB3.size)
      rw [hV2]
      clear hV1 hV2
      have hl1 := List.length_pos_iff.2 hl0
      have hm1 := List.length_pos_iff.2 hm0
      have hown0 := own_zero w4 w.heap.size 43 hB4.size
      have hB5 : Below w.heap.size w (w4.alloc (.cells #[] 43)) := hB4.alloc hB4.size _
      have hn1 : ∀ j u, (fcs l)[j]? = some u → (w4.alloc (.cells #[] 43)).cell? ((⟨gl, ol, none⟩ : Addr).add j) = some u := fun j u hj => by
        rw [Go.WideShapes.add_plain]; exact (hB5.cell (p := ⟨gl, ol + j, none⟩) hgl).trans (HCL.out j u hj)
      go_wp2_with (first
        | (at_builtin; refine wpList_append_lies _ rfl _ _ 32 rfl w.heap.size 43 i0 (.agg #[.string ⟨#[]⟩, .bool false]) 2 24 Tryd.underlying32 hi hj0 hj1 hj2 rfl (by decide) _ _ _ rfl hown0 ⟨gl, ol, none⟩ l.length cl (fcs l) rfl (fcs_len l) hn1 (one_fcs l) hl1 (by unfold maxLen; omega) (by omega) hB5.size _ rfl ?_; intro g1 cap1 w5 hown1 hgrow1 _ _; simp only [Nat.zero_add, List.nil_append] at hown1; have hB6 : Below w.heap.size w w5 := hB5.grown hgrow1 hB5.size (fun j hj => (hown0.lt j hj).1); have hn2 : ∀ j u, (fcs m)[j]? = some u → w5.cell? ((⟨gm, om, none⟩ : Addr).add j) = some u := (fun j u hj => by rw [Go.WideShapes.add_plain]; exact (hB6.cell (p := ⟨gm, om + j, none⟩) hgm).trans (HCM.out j u hj)))
        | (at_builtin; refine wpList_append_lies _ rfl _ _ 32 rfl w.heap.size 43 i0 (.agg #[.string ⟨#[]⟩, .bool false]) 2 24 Tryd.underlying32 hi hj0 hj1 hj2 rfl (by decide) _ _ _ rfl hown1 ⟨gm, om, none⟩ m.length cm (fcs m) rfl (fcs_len m) hn2 (one_fcs m) hm1 (by unfold maxLen; omega) (by omega) hB6.size _ rfl ?_; intro g2 cap2 w6 hown2 hgrow2 _ _; have hB7 : Below w.heap.size w w6 := hB6.grown hgrow2 hB6.size (fun j hj => (hown1.lt j hj).1)))
      -- MARK2
      have HFB : FldsAt w6 (.slice (some ⟨g2, 0, none⟩) (l.length + m.length) cap2) (l ++ m) := FldsAt.own (by
        rw [List.length_append]; unfold fcs at hown2 ⊢; rw [List.flatMap_append]; exact hown2)
      refine (CJ.out _ _ (l ++ m) hB7 HFB (by rw [List.length_append]; omega)).mono ?_
      rintro e w7 ⟨rfl, hb7⟩
      have hB8 := hB7.trans (hb7.mono hB7.size)
      clear hown0 hown1 hown2 hn1 hn2 HFB hB5 hB6 hB7
      have hCS := CS.out _ hB8
      have CSF := Lib.hid hCS
      clear hCS
      by_cases hbad : e1 ≠ 0 ∨ e2 ≠ 0
      · obtain ⟨c, hc⟩ : ∃ x, (joinS (l ++ m)).1 = x := ⟨_, rfl⟩
        obtain ⟨e3, he3⟩ : ∃ x, (joinS (l ++ m)).2 = x := ⟨_, rfl⟩
        have hV3 : joinV (l ++ m) = .tuple #[.string (str c), .int .i64 e3] := by unfold joinV; rw [hc, he3]
        have h3 : (e3 != 0) = true := by rw [bne_iff_ne, ← he3]; exact both_bad hl0 hm0 (by rw [he1, he2]; exact hbad)
        rw [hV3]
        clear hV3 hc he3 ha hb he1 he2
        have hor : ((e1 != 0) = true) ∨ ((e1 != 0) = false ∧ (e2 != 0) = true) := by
          by_cases h : e1 = 0
          · exact .inr ⟨by rw [h]; rfl, by rw [bne_iff_ne]; rcases hbad with h' | h'; exact absurd h h'; exact h'⟩
          · exact .inl (by rw [bne_iff_ne]; exact h)
        clear hbad
        rcases hor with h1 | ⟨h1, h2⟩ <;> (
          go_wp2_with (go_at_call 9; refine CSF.out.mono ?_; rintro e w9 ⟨rfl, hb9⟩)
          go_ret
          exact ⟨rfl, hB8.trans (hb9.mono hB8.size)⟩)
      · obtain ⟨z1, z2⟩ : e1 = 0 ∧ e2 = 0 := by omega
        subst z1 z2
        have hsa : (str a).size = a.length := str_size a
        have hsb : (str b).size = b.length := str_size b
        have hal : a.length ≤ 8192 := by rw [← ha, joinS_line he1]; exact (joinS_ok.1 he1).2.2
        have hbl : b.length ≤ 8192 := by rw [← hb, joinS_line he2]; exact (joinS_ok.1 he2).2.2
        by_cases hlong : 64 < l.length + m.length ∨ 8192 < a.length + 1 + b.length
        · have hV3 : joinV (l ++ m) = .tuple #[.string ⟨#[]⟩, .int .i64 3] := by
            unfold joinV; rw [both_long hl0 hm0 he1 he2 (by rw [ha, hb]; exact hlong)]; rfl
          rw [hV3]
          have hor : (decide ((64 : Int) < (l.length : Int) + (m.length : Int)) = true) ∨ (decide ((64 : Int) < (l.length : Int) + (m.length : Int)) = false ∧ decide ((8192 : Int) < (a.length : Int) + 1 + (b.length : Int)) = true) := by
            by_cases h : 64 < l.length + m.length
            · exact .inl (decide_eq_true (by omega))
            · exact .inr ⟨decide_eq_false (by omega), decide_eq_true (by omega)⟩
          clear hlong hV3 ha hb he1 he2
          rcases hor with h1 | ⟨h1, h2⟩ <;> (
            go_wp2_with (go_at_call 9; refine CSF.out.mono ?_; rintro e w9 ⟨rfl, hb9⟩)
            go_ret
            exact ⟨rfl, hB8.trans (hb9.mono hB8.size)⟩)
        · have hV3 : joinV (l ++ m) = .tuple #[.string ((str a ++ ⟨#[32]⟩) ++ str b), .int .i64 0] := by
            unfold joinV; rw [both_line hl0 hm0 he1 he2 (by omega) (by rw [ha, hb]; omega), ha, hb, eqS]
          rw [hV3]
          have h1 : decide ((64 : Int) < (l.length : Int) + (m.length : Int)) = false := decide_eq_false (by omega)
          have h2 : decide ((8192 : Int) < (a.length : Int) + 1 + (b.length : Int)) = false := decide_eq_false (by omega)
          clear hlong hV3 ha hb he1 he2
          -- MARK3
          go_wp2_with (go_at_call 9; refine CSF.out.mono ?_; rintro e w9 ⟨rfl, hb9⟩)
          go_ret
          exact ⟨rfl, hB8.trans (hb9.mono hB8.size)⟩
end Go.Proofs.YtbggmmbbjojjcaaDoor
