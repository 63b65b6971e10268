/- The law LexerJoins. -/
import Derived.Test.YtlpbhncdkhppkaaDoorLjl
import Derived.Test.YtlpbhncdkhppkaaDoorLa
namespace Go.Proofs.YtlpbhncdkhppkaaDoor
open Go.RowKit Go.PlainAid

set_option maxRecDepth 100000 in
set_option maxHeartbeats 6400000 in
theorem lawJ_any (va vb : Value) (a b : List UInt8) (w : World) (ha : ArgAt w va (a.map bc)) (hb : ArgAt w vb (b.map bc)) (T : PTabs w) :
    Calls Tryd.prog 8 #[va, vb] w fun e w' => e = .returned (.bool true) ∧ Below w.heap.size w w' := by
  have hra := ha.row
  have hrb := hb.row
  obtain ⟨a1, n1, c1, rfl, hn1, hcap1, hs1⟩ := ha
  obtain ⟨a2, n2, c2, rfl, hn2, hcap2, hs2⟩ := hb
  rw [List.length_map] at hn1 hn2
  have hBa : BytesAt w (.slice a1 n1 c1) a := hra
  have hBb : BytesAt w (.slice a2 n2 c2) b := hrb
  have CAw := Lib.hid (fun W (hW : Below w.heap.size w W) => awake_any W (T.below hW))
  by_cases h3 : 300 < n1
  · have d1 : decide ((300 : Int) < (n1 : Int)) = true := decide_eq_true (by omega)
    clear hra hrb hs1 hs2 hBa hBb T hn1 hn2 h3
    go_enter Tryd.func8, Tryd.ntmps8
    go_wp2_with fail
    refine (CAw.out _ (Below.refl _ _)).mono ?_
    rintro e w2 ⟨rfl, hb2⟩
    go_wp2_with fail
    go_ret
    exact ⟨rfl, hb2⟩
  have d1 : decide ((300 : Int) < (n1 : Int)) = false := decide_eq_false (by omega)
  by_cases h4 : 300 < n2
  · have d2 : decide ((300 : Int) < (n2 : Int)) = true := decide_eq_true (by omega)
    clear hra hrb hs1 hs2 hBa hBb T hn1 hn2 h3 h4
    go_enter Tryd.func8, Tryd.ntmps8
    go_wp2_with fail
    refine (CAw.out _ (Below.refl _ _)).mono ?_
    rintro e w2 ⟨rfl, hb2⟩
    go_wp2_with fail
    go_ret
    exact ⟨rfl, hb2⟩
  have d2 : decide ((300 : Int) < (n2 : Int)) = false := decide_eq_false (by omega)
  obtain ⟨ra, hea⟩ : ∃ r, lexS a = r := ⟨_, rfl⟩
  obtain ⟨rb, heb⟩ : ∃ r, lexS b = r := ⟨_, rfl⟩
  obtain ⟨rc, hec⟩ : ∃ r, lexS (a ++ 10 :: b) = r := ⟨_, rfl⟩
  have HJ1 : Hid (ra.2.2 ≠ 0 → rc = ra ∧ ra.1 = []) := Lib.hid (by
    intro h
    rw [← hea] at h
    refine ⟨by rw [← hec, ← hea]; exact join_1 (by omega) (by omega) h, ?_⟩
    obtain ⟨_, _, _, _, _, _, h5, _⟩ := fault_of (l := a) (by omega) h
    rw [← hea, h5])
  have HJ2 : Hid (ra.2.2 = 0 → rb.2.2 ≠ 0 → ∃ p q : Nat, p ≤ 300 ∧ q ≤ 300 ∧ rb = ([], ((p : Int), (q : Int)), rb.2.2) ∧ rc = ([], ((p : Int) + ((n1 : Int) + 1), (q : Int) + ((n1 : Int) + 1)), rb.2.2)) := Lib.hid (by
    intro h h2
    have e1 := join_2 (a := a) (b := b) (by omega) (by omega) (by rw [hea]; exact h) (by rw [heb]; exact h2)
    obtain ⟨p, q, e, h5, h6, _, h7, _⟩ := fault_of (l := b) (by omega) (by rw [heb]; exact h2)
    refine ⟨p, q, by omega, by omega, ?_, ?_⟩
    · have : rb = ([], ((p : Int), (q : Int)), e) := by rw [← heb]; exact h7
      rw [this]
    · rw [← hec, e1, heb]
      have : rb = ([], ((p : Int), (q : Int)), e) := by rw [← heb]; exact h7
      rw [this, ← hn1]
      simp only [Int.natCast_add]; rfl)
  have HJ3 : Hid (ra.2.2 = 0 → rb.2.2 = 0 → rc = (ra.1 ++ rb.1.map (shT (n1 + 1)), (0, 0), 0)) := Lib.hid (by
    intro h h2
    rw [← hec, join_3 (by omega) (by omega) (by rw [hea]; exact h) (by rw [heb]; exact h2), hea, heb, hn1])
  have HSp : Hid (∀ t ∈ rb.1, 0 ≤ t.2.1 ∧ t.2.1 ≤ 300 ∧ 0 ≤ t.2.2.1 ∧ t.2.2.1 ≤ 300) := Lib.hid (by
    intro t ht
    rw [← heb, lexS_small (by omega)] at ht
    have := lex_span _ 0 b (Nat.le_refl _) t ht
    omega)
  have HLn : Hid (ra.1.length ≤ 300 ∧ rb.1.length ≤ 300) := Lib.hid (by
    rw [← hea, ← heb, lexS_small (by omega), lexS_small (by omega)]
    have h1 := (lex_len2 _ 0 a (Nat.le_refl _))
    have h2 := (lex_len2 _ 0 b (Nat.le_refl _))
    omega)
  obtain ⟨ta, ⟨x1, x2⟩, ea⟩ := ra
  obtain ⟨tb, ⟨y1, y2⟩, eb⟩ := rb
  obtain ⟨tc, ⟨z1, z2⟩, ec⟩ := rc
  simp only at HJ1 HJ2 HJ3 HSp HLn
  obtain ⟨ka, hka⟩ : ∃ k, ta.length = k := ⟨_, rfl⟩
  obtain ⟨kb, hkb⟩ : ∃ k, tb.length = k := ⟨_, rfl⟩
  obtain ⟨kc, hkc⟩ : ∃ k, tc.length = k := ⟨_, rfl⟩
  have CA := Lib.hid (fun W (hW : Below w.heap.size w W) => Lex_at hea ka hka a1 n1 c1 W (RowAt.below hBa hW (Nat.le_refl _)) hcap1 (by omega) hn1.symm (T.below hW).lt)
  have CB := Lib.hid (fun W (hW : Below w.heap.size w W) => Lex_at heb kb hkb a2 n2 c2 W (RowAt.below hBb hW (Nat.le_refl _)) hcap2 (by omega) hn2.symm (T.below hW).lt)
  have CC : Hid (∀ (v : Value) (B : Nat) W, Below w.heap.size w W → W.ownsRow B 5 1 v (n1 + 1 + n2) ((a.map bc ++ [.int .u8 10]) ++ b.map bc) → Calls Tryd.prog 14 #[v] W fun e w' => ∃ v cv, e = .returned (.tuple #[.slice v kc cv, .agg #[.int .i64 z1, .int .i64 z2], .int .i64 ec]) ∧ Hid (w'.ownsRow W.heap.size 33 5 (.slice v kc cv) kc (tcs tc)) ∧ Below W.heap.size W w') := Lib.hid fun v B W hW ho => by
    obtain ⟨g, cap, rfl⟩ := own_len ho
    have e1 : (a.map bc ++ [.int .u8 10]) ++ b.map bc = (a ++ 10 :: b).map bc := by simp [bc]
    rw [e1] at ho
    have hr : BytesAt W (.slice g (n1 + 1 + n2) cap) (a ++ 10 :: b) := RowAt.own ho
    exact Lex_at hec kc hkc g (n1 + 1 + n2) cap W hr (own_cap ho).1 (by omega) (by simp; omega) (T.below hW).lt
  have HS1 := Lib.hid hs1
  have HS2 := Lib.hid hs2
  have HA1 : Hid (a.length = n1) := Lib.hid hn1.symm
  have HA2 : Hid (b.length = n2) := Lib.hid hn2.symm
  have HKa := Lib.hid hka
  have HKb := Lib.hid hkb
  have HKc := Lib.hid hkc
  clear hra hrb hs1 hs2 hBa hBb T hn1 hn2 hea heb hec hka hkb hkc
  obtain ⟨i0, hi, hj0, hj1, hj2⟩ := info_parts2 infoU8
  go_enter Tryd.func8, Tryd.ntmps8
  go_wp2_with fail
  -- MARK1
  refine (CA.out w (Below.refl _ _)).mono ?_
  rintro e u1 ⟨v1, cv1, rfl, HO1, hb1⟩
  go_upto_region 4 with (fail)
  obtain ⟨W1, hW1⟩ : ∃ W1, W1 = u1.alloc (.cells #[.int .i64 x1, .int .i64 x2] 27) := ⟨_, rfl⟩
  have hs1 : Below u1.heap.size u1 W1 := by rw [hW1]; exact below_b1 _ _
  have hB1 := below_step hb1 hs1
  have hx : W1.heap[u1.heap.size]? = some (.cells #[.int .i64 x1, .int .i64 x2] 27 (0, 0)) := by rw [hW1]; exact World.alloc_heap_new _ _
  have hlx := (Array.getElem?_eq_some_iff.1 hx).1
  have HX : Hid (∀ W, Below W1.heap.size W1 W → W.heap[u1.heap.size]? = some (.cells #[.int .i64 x1, .int .i64 x2] 27 (0, 0))) := Lib.hid fun W hW => (hW.block _ hlx).trans hx
  rw [← hW1]
  clear hW1 hx hlx
  go_wp2_with fail
  -- MARK2
  refine (CB.out W1 hB1).mono ?_
  rintro e u2 ⟨v2, cv2, rfl, HO2, hb2⟩
  go_upto_region 5 with (fail)
  obtain ⟨W2, hW2⟩ : ∃ W2, W2 = u2.alloc (.cells #[.int .i64 y1, .int .i64 y2] 27) := ⟨_, rfl⟩
  have hs2 : Below u2.heap.size u2 W2 := by rw [hW2]; exact below_b1 _ _
  have hs12 := below_step hb2 hs2
  have hB2 := below_step hB1 hs12
  have hy : W2.heap[u2.heap.size]? = some (.cells #[.int .i64 y1, .int .i64 y2] 27 (0, 0)) := by rw [hW2]; exact World.alloc_heap_new _ _
  have hly := (Array.getElem?_eq_some_iff.1 hy).1
  have HY : Hid (∀ W, Below W2.heap.size W2 W → W.heap[u2.heap.size]? = some (.cells #[.int .i64 y1, .int .i64 y2] 27 (0, 0))) := Lib.hid fun W hW => (hW.block _ hly).trans hy
  rw [← hW2]
  clear hW2 hy hly
  have HO0 : Hid ((W2.alloc (.cells #[] 5)).ownsRow W2.heap.size 5 1 (.slice (some ⟨W2.heap.size, 0, none⟩) 0 0) 0 []) := Lib.hid (World.ownsRow_made W2 #[] 0 (Nat.le_refl _) (by unfold maxLen; omega) rfl)
  go_wp2_with (first
    | (at_builtin; refine wpList_append_any rfl (.tmp 38) (.tmp 39) 22 rfl W2.heap.size 5 i0 (.int .u8 0) 1 Tryd.underlying22 hi hj0 hj1 hj2 rfl _ 0 [] rfl HO0.out _ n1 (a.map bc) rfl (HS1.out.below (hB2.alloc hB2.size _) (Nat.le_refl _)) (by rw [List.length_map]; exact HA1.out) (one_bc _) (by unfold maxLen; omega) (by omega) (by simp) ?_; intro v3 w3 ho3 hg3; have HO3 : Hid (w3.ownsRow W2.heap.size 5 1 v3 n1 (a.map bc)) := Lib.hid (by simpa using ho3); have HB3 : Below W2.heap.size W2 w3 := (((Below.refl _ W2).alloc (Nat.le_refl _) _).grown hg3 (by simp) (fun k hk => (HO0.out.lt k hk).1)); clear ho3 hg3)
    | (at_builtin; refine wpList_append_any rfl (.tmp 40) (.tmp 41) 22 rfl W2.heap.size 5 i0 (.int .u8 0) 1 Tryd.underlying22 hi hj0 hj1 hj2 rfl _ n1 (a.map bc) rfl (HO3.out.alloc _) (.slice (some ⟨w3.heap.size, 0, none⟩) 1 1) 1 [.int .u8 10] rfl (.inr ⟨⟨w3.heap.size, 0, none⟩, 1, rfl, new_cellsT _ _ _ _ rfl⟩) rfl (by simp [Value.oneCell']) (by unfold maxLen; omega) (by omega) (by simp only [World.size_alloc]; have := HB3.size; omega) ?_; intro v4 w4 ho4 hg4; have HO4 := Lib.hid ho4; have HB4 : Below W2.heap.size W2 w4 := (HB3.alloc HB3.size _).grown hg4 (by simp only [World.size_alloc]; have := HB3.size; omega) (fun k hk => (HO3.out.lt k hk).1); clear ho4 hg4; have A3 := HS2.out.below (below_step hB2 HB4) (Nat.le_refl _); have A4 : (b.map bc).length = n2 := (by rw [List.length_map]; exact HA2.out); have A5 : n1 + 1 + n2 ≤ maxLen := (by unfold maxLen; omega); have A6 : (n1 + 1 + n2) * 1 ≤ 140737488355328 := (by omega); have A7 := HB4.size)
    | (at_builtin; refine wpList_append_any rfl (.tmp 42) (.tmp 43) 22 rfl W2.heap.size 5 i0 (.int .u8 0) 1 Tryd.underlying22 hi hj0 hj1 hj2 rfl v4 (n1 + 1) (a.map bc ++ [.int .u8 10]) rfl HO4.out _ n2 (b.map bc) rfl A3 A4 (one_bc _) A5 A6 A7 ?_; intro v5 w5 ho5 hg5; have HO5 := Lib.hid ho5; have HB5 : Below W2.heap.size W2 w5 := HB4.grown hg5 HB4.size (fun k hk => (HO4.out.lt k hk).1); clear ho5 hg5))
  -- MARK3
  have hB5 := below_step hB2 HB5
  refine (CC.out v5 _ w5 hB5 HO5.out).mono ?_
  rintro e u3 ⟨v3', cv3, rfl, HO6, hb3⟩
  go_upto_region 6 with (fail)
  -- MARK4
  obtain ⟨W3, hW3⟩ : ∃ W3, W3 = u3.alloc (.cells #[.int .i64 z1, .int .i64 z2] 27) := ⟨_, rfl⟩
  have hs3 : Below u3.heap.size u3 W3 := by rw [hW3]; exact below_b1 _ _
  have hs53 := below_step hb3 hs3
  have hs23 := below_step HB5 hs53
  have hB3 := below_step hB2 hs23
  have hz : W3.heap[u3.heap.size]? = some (.cells #[.int .i64 z1, .int .i64 z2] 27 (0, 0)) := by rw [hW3]; exact World.alloc_heap_new _ _
  rw [← hW3]
  clear hW3
  obtain ⟨q0, q1⟩ := box2_facts hz
  obtain ⟨p0, p1⟩ := box2_facts (HY.out W3 hs23)
  obtain ⟨o0, o1⟩ := box2_facts (HX.out W3 (below_step hs12 hs23))
  clear hz
  by_cases hea : ea = 0
  · subst hea
    by_cases heb : eb = 0
    · subst heb
      obtain ⟨rfl, hz, rfl⟩ : tc = ta ++ tb.map (shT (n1 + 1)) ∧ (z1, z2) = (0, 0) ∧ ec = 0 := by
        have := HJ3.out rfl rfl
        simp only [Prod.mk.injEq] at this ⊢
        exact ⟨this.1, this.2.1, this.2.2⟩
      clear HJ1 HJ2 HJ3 q0 q1 p0 p1 o0 o1
      have R1 : Hid (W3.ownsRow _ 33 5 (.slice v1 ka cv1) ka (tcs ta)) := Lib.hid (own_below (own_below HO1.out hs1) (below_step hs12 hs23))
      have R2 : Hid (W3.ownsRow _ 33 5 (.slice v2 kb cv2) kb (tcs (mixT (n1 + 1) tb 0))) := Lib.hid (by rw [mix_0]; exact own_below (own_below HO2.out hs2) hs23)
      have R3 : Hid (W3.ownsRow _ 33 5 (.slice v3' kc cv3) kc (tcs (ta ++ tb.map (shT (n1 + 1))))) := Lib.hid (own_below HO6.out hs3)
      have N12 : Hid (∀ g, (Value.slice v2 kb cv2).ownBlock = some g → (Value.slice v1 ka cv1).ownBlock ≠ some g) := Lib.hid (own_not HO1.out HO2.out hs1.size)
      have N32 : Hid (∀ g, (Value.slice v2 kb cv2).ownBlock = some g → (Value.slice v3' kc cv3).ownBlock ≠ some g) := Lib.hid (fun g hg e => own_not HO2.out HO6.out (by have h1 := hs2.size; have h2 := HB5.size; omega) g e hg)
      have NB : Hid (∀ g, (Value.slice v2 kb cv2).ownBlock = some g → w.heap.size ≤ g) := Lib.hid (fun g hg => by have h1 := (HO2.out.lt g hg).1; have h2 := hB1.size; omega)
      have hkb3 : kb ≤ 300 := by have h1 := HLn.out.2; have h2 := HKb.out; omega
      go_wp2_with fail
      -- MARK5
      go_loopw [15] (fun x15 wr => ∃ i : Nat, x15 = .int .i64 (i : Int) ∧ i ≤ kb ∧ Hid (wr.ownsRow w.heap.size 33 5 (.slice v1 ka cv1) ka (tcs ta)) ∧ Hid (wr.ownsRow W1.heap.size 33 5 (.slice v2 kb cv2) kb (tcs (mixT (n1 + 1) tb i))) ∧ Hid (wr.ownsRow w5.heap.size 33 5 (.slice v3' kc cv3) kc (tcs (ta ++ tb.map (shT (n1 + 1))))) ∧ Below w.heap.size w wr) (fun x15 _ => kb - (intOf x15).toNat)
      case atStart => exact ⟨0, rfl, Nat.zero_le _, R1, R2, R3, hB3⟩
      case round =>
        obtain ⟨i, rfl, hik, Q1, Q2, Q3, hbr⟩ := hrel
        have hi0 : (0 : Int) ≤ (i : Int) := Int.natCast_nonneg _
        by_cases hlt : i < kb
        · obtain ⟨t, ht⟩ : ∃ t, tb[i]? = some t := ⟨_, List.getElem?_eq_getElem (by rw [HKb.out]; exact hlt)⟩
          have hsp := HSp.out t (List.mem_of_getElem? ht)
          rcases own_form Q2.out with ⟨_, h0⟩ | ⟨g2, cc, hv, hg1, hg2⟩
          · omega
          obtain ⟨rfl, _, rfl⟩ := Value.slice.inj hv
          obtain ⟨e0, e1, e2, e3, e4⟩ := tcs_at _ (mix_at (k := n1 + 1) ht)
          have F : ∀ j u, (tcs (mixT (n1 + 1) tb i))[j]? = some u → wr.cell? ⟨g2, j, none⟩ = some u := fun j u hj => by
            have := Q2.out.cells (g := g2) rfl j u hj
            rw [Go.WideShapes.add_plain, Nat.zero_add] at this; exact this
          have hmx := mix_set (k := n1 + 1) ht (t.2.1 + ((n1 : Int) + 1)) (t.2.2.1 + ((n1 : Int) + 1)) (by simp) (by simp)
          have HMx := Lib.hid hmx
          obtain ⟨tk, tf, tt, tn, tx⟩ := t
          have b1 : wr.cell? ⟨g2, i * 5 + 1, none⟩ = some (.int .i64 tf) := F _ _ e1
          have b2 : wr.cell? ⟨g2, i * 5 + 2, none⟩ = some (.int .i64 tt) := F _ _ e2
          have r1 : wr.frozen? ⟨g2, i * 5 + 1, none⟩ = false := Q2.out.frozenAt _
          have r2 : wr.frozen? ⟨g2, i * 5 + 2, none⟩ = false := Q2.out.frozenAt _
          simp only at hsp HMx
          have s1 : IntKind.i64.wrap (tf + ((n1 : Int) + 1)) = tf + ((n1 : Int) + 1) := by rw [IntKind.wrap_i64]; omega
          have s2 : IntKind.i64.wrap (tt + ((n1 : Int) + 1)) = tt + ((n1 : Int) + 1) := by rw [IntKind.wrap_i64]; omega
          have hi1 : (i : Int) < (kb : Int) := by omega
          have HFin : Hid (∀ W, W = ((wr.setCell ⟨g2, i * 5 + 1, none⟩ (.int .i64 (tf + ((n1 : Int) + 1)))).setCell ⟨g2, i * 5 + 2, none⟩ (.int .i64 (tt + ((n1 : Int) + 1)))) →
              W.ownsRow w.heap.size 33 5 (.slice v1 ka cv1) ka (tcs ta) ∧ W.ownsRow W1.heap.size 33 5 (.slice (some ⟨g2, 0, none⟩) kb cv2) kb (tcs (mixT (n1 + 1) tb (i + 1))) ∧ W.ownsRow w5.heap.size 33 5 (.slice v3' kc cv3) kc (tcs (ta ++ tb.map (shT (n1 + 1)))) ∧ Below w.heap.size w W) := Lib.hid (by
            rintro W rfl
            have n1' := N12.out g2 rfl
            have n3' := N32.out g2 rfl
            have nb := NB.out g2 rfl
            refine ⟨ownsRow_setCell_other (ownsRow_setCell_other Q1.out n1' _) n1' _, ?_, ownsRow_setCell_other (ownsRow_setCell_other Q3.out n3' _) n3' _, (hbr.setCell nb _).setCell nb _⟩
            have h1 := (Q2.out.stored (i * 5 + 1) (.int .i64 (tf + ((n1 : Int) + 1)))).1
            have h2 := (h1.stored (i * 5 + 2) (.int .i64 (tt + ((n1 : Int) + 1)))).1
            rw [HMx.out] at h2; exact h2)
          clear hmx F e0 e1 e2 e3 e4 ht hv
          go_upto_region 14 with (fail)
          -- MARK6
          go_region
          -- MARK7
          all_goals go_wp2_with fail
          -- MARK8
          all_goals (
            obtain ⟨f1, f2, f3, f4⟩ := HFin.out _ rfl
            exact ⟨⟨i + 1, by go_num, by omega, Lib.hid (own_below f1 (Below.refl _ _).drew), Lib.hid (own_below f2 (Below.refl _ _).drew), Lib.hid (own_below f3 (Below.refl _ _).drew), f4.drew⟩, by simp [intOf]; omega⟩)
        · obtain rfl : i = kb := by omega
          have hd0 : decide ((i : Int) < (i : Int)) = false := decide_eq_false (Int.lt_irrefl _)
          have E2 : Hid (wr.ownsRow W1.heap.size 33 5 (.slice v2 i cv2) i (tcs (tb.map (shT (n1 + 1))))) := Lib.hid (by have := Q2.out; rw [mix_all _ _ (Nat.le_of_eq HKb.out)] at this; exact this)
          have E0 : Hid ((wr.alloc (.cells #[] 33)).ownsRow wr.heap.size 33 5 (.slice (some ⟨wr.heap.size, 0, none⟩) 0 0) 0 []) := Lib.hid (World.ownsRow_made wr #[] 0 (Nat.le_refl _) (by unfold maxLen; omega) rfl)
          obtain ⟨i5, hi5, hk0, hk1, hk2⟩ := info_parts2 infoTk
          have hl1 := HLn.out.1
          have hl2 := HLn.out.2
          have hka := HKa.out
          have hkb := HKb.out
          have HSa : Hid (∀ W, Below wr.heap.size wr W → SrcAt W (.slice v1 ka cv1) ka (tcs ta)) := Lib.hid fun W hW => (src_own5 Q1.out (by rw [tcs_len, HKa.out])).below hW (Nat.le_refl _)
          have HSb : Hid (∀ W, Below wr.heap.size wr W → SrcAt W (.slice v2 i cv2) i (tcs (tb.map (shT (n1 + 1))))) := Lib.hid fun W hW => (src_own5 E2.out (by rw [tcs_len, List.length_map, HKb.out])).below hW (Nat.le_refl _)
          go_wp2_with (first
            | (at_builtin; refine wpList_append_5 rfl (.tmp 124) (.tmp 125) 25 rfl wr.heap.size 33 i5 zeroTk 48 Tryd.underlying25 hi5 hk0 hk1 hk2 rfl _ 0 [] rfl E0.out _ ka (tcs ta) rfl (HSa.out _ ((Below.refl _ wr).alloc (Nat.le_refl _) _)) (by rw [tcs_len, HKa.out]) (one_tcs _) (by unfold maxLen; omega) (by omega) (by simp) ?_; intro v7 w7 ho7 hg7; have HO7 : Hid (w7.ownsRow wr.heap.size 33 5 v7 ka (tcs ta)) := Lib.hid (by simpa using ho7); have HB7 : Below wr.heap.size wr w7 := (((Below.refl _ wr).alloc (Nat.le_refl _) _).grown hg7 (by simp) (fun k hk => (E0.out.lt k hk).1)); clear ho7 hg7)
            | (at_builtin; refine wpList_append_5 rfl (.tmp 126) (.tmp 127) 25 rfl wr.heap.size 33 i5 zeroTk 48 Tryd.underlying25 hi5 hk0 hk1 hk2 rfl v7 ka (tcs ta) rfl HO7.out _ i (tcs (tb.map (shT (n1 + 1)))) rfl (HSb.out _ HB7) (by rw [tcs_len, List.length_map, HKb.out]) (one_tcs _) (by unfold maxLen; omega) (by omega) HB7.size ?_; intro v8 w8 ho8 hg8; have HO8 := Lib.hid ho8; have HB8 : Below wr.heap.size wr w8 := HB7.grown hg8 HB7.size (fun k hk => (HO7.out.lt k hk).1); clear ho8 hg8))
          -- MARK10
          have hB8 := below_step hbr HB8
          have HT8 : Hid (TksAt w8 v8 (ta ++ tb.map (shT (n1 + 1)))) := Lib.hid (by have := HO8.out; rw [← tcs_app] at this; exact tks_own this (by rw [List.length_append, List.length_map, HKa.out, HKb.out]))
          have HT3 : Hid (TksAt w8 (.slice v3' kc cv3) (ta ++ tb.map (shT (n1 + 1)))) := Lib.hid ((tks_own Q3.out HKc.out).below HB8 (Nat.le_refl _))
          refine (SameT_any (.slice v3' kc cv3) v8 (ta ++ tb.map (shT (n1 + 1))) w8 HT3.out HT8.out (by rw [List.length_append, List.length_map]; omega)).mono ?_
          rintro e w9 ⟨rfl, hb9⟩
          have hB9 := below_step hB8 hb9
          go_wp2_with fail
          -- MARK11
          refine (CAw.out w9 hB9).mono ?_
          rintro e w10 ⟨rfl, hb10⟩
          go_wp2_with fail
          go_ret
          exact ⟨rfl, below_step hB9 hb10⟩
    · obtain ⟨p, q, hp, hq, h1, h2⟩ := HJ2.out rfl heb
      simp only [Prod.mk.injEq] at h1 h2
      have hne : (eb != 0) = true := bne_iff_ne.2 heb
      clear heb
      obtain ⟨rfl, ⟨rfl, rfl⟩, _⟩ := h1
      obtain ⟨rfl, ⟨rfl, rfl⟩, rfl⟩ := h2
      have s1 : IntKind.i64.wrap ((p : Int) + ((n1 : Int) + 1)) = (p : Int) + ((n1 : Int) + 1) := by rw [IntKind.wrap_i64]; omega
      have s2 : IntKind.i64.wrap ((q : Int) + ((n1 : Int) + 1)) = (q : Int) + ((n1 : Int) + 1) := by rw [IntKind.wrap_i64]; omega
      clear HJ1 HJ2 HJ3
      go_wp2_with fail
      -- MARK12
      refine (CAw.out W3 hB3).mono ?_
      rintro e w4 ⟨rfl, hb4⟩
      go_wp2_with fail
      go_ret
      exact ⟨rfl, below_step hB3 hb4⟩
  · obtain ⟨h1, h2⟩ := HJ1.out hea
    simp only [Prod.mk.injEq] at h1
    obtain ⟨rfl, ⟨rfl, rfl⟩, rfl⟩ := h1
    obtain rfl : kc = 0 := by rw [← HKc.out, h2]; rfl
    have hne : (ec != 0) = true := bne_iff_ne.2 hea
    clear HJ1 HJ2 HJ3 hea h2
    go_wp2_with fail
    -- MARK13
    refine (CAw.out W3 hB3).mono ?_
    rintro e w4 ⟨rfl, hb4⟩
    go_wp2_with fail
    go_ret
    exact ⟨rfl, below_step hB3 hb4⟩
end Go.Proofs.YtlpbhncdkhppkaaDoor
