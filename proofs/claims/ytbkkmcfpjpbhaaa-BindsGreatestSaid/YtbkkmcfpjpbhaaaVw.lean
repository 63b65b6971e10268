/- The reference of layer 11: Add. (Written by tools/gen_vw.py.) -/
import Derived.Test.YtbkkmcfpjpbhaaaVu
import Derived.Lib.AppendZeros
import Derived.Deep.Upon
namespace Go.Proofs.Ytbkkmcfpjpbhaaa
open Go.RowKit Go.PlainAid

theorem step_append_run {P : Program} {w : World} {ops : Array Oper} {o : Oper} {a : Act} {K : Act → World → Prop} {Q : Exit → Act → World → Prop} {E : Prop} (hgd : o.guard = none) (s x : Operand) (t tn : TypeId)
    (ho : o.op = .call { callee := .builtin .append, args := #[s, x], argTypes := #[t, tn] }) (vs vx : Value) (hs : a.eval s = vs) (hx : a.eval x = vx)
    (v' : Value) (w' : World) (hr : (Builtin.append_ #[t, tn] o.type #[vs, vx]).run P w = .ok v' w') (h : K (a.put o.dst v') w') : if Region.wanted o (yielded ops a.tmps) = true then Oper.wp P o a w K Q else E := by
  have hw : Region.wanted o (yielded ops a.tmps) = true := by simp [Region.wanted, hgd]
  rw [if_pos hw]
  exact Lib.wp_append_run w s x t tn ho vs vx hs hx v' w' hr h
theorem own_atV {v : Value} {n B : Nat} (h : v.ownBlock = some n) (hB : B ≤ n) : ∀ k, v.ownBlock = some k → B ≤ k := fun k hk => by rw [h] at hk; cases hk; exact hB
theorem box_keptV {Wz w5 : World} {n ne : Nat} {x0 x1 x2 x3 : Value} {t : TypeId} {v : Value} (hb : Wz.heap[n]? = some (.cells #[x0, x1, x2, x3] t (0, 0))) (hg : Wz.grownBy w5 v.ownBlock) (hv : v.ownBlock = some ne) (hne : n ≠ ne) :
    ∀ (jj : Nat) (u : Value), [x0, x1, x2, x3][jj]? = some u → w5.cell? ((⟨n, 0, none⟩ : Addr).add jj) = some u := by
  have h2 := (hg.block n (Array.getElem?_eq_some_iff.1 hb).1 (by rw [hv]; intro e; exact hne (Option.some.inj e))).trans hb
  intro jj u hj
  rw [Go.WideShapes.add_plain]
  match jj, hj with
  | 0, hj => cases hj; simp [World.cell?, h2]
  | 1, hj => cases hj; simp [World.cell?, h2]
  | 2, hj => cases hj; simp [World.cell?, h2]
  | 3, hj => cases hj; simp [World.cell?, h2]
  | jj + 4, hj => simp at hj
theorem app_nil (i0 : TypeInfo) (hi : Try.prog.info? 24 = some i0) (N c : Nat) (ty : TypeId) (W : World) : (Builtin.append_ #[22, 22] ty #[.slice (some ⟨N, 0, none⟩) 0 0, .slice none 0 c]).run Try.prog W = .ok (.slice (some ⟨N, 0, none⟩) 0 0) W :=
  run_append_nothing W _ _ ty _ i0 Try.underlying22 hi _ 0 0 (Nat.le_refl _) _ (Src.ofNil W Try.underlying22 c)
set_option maxRecDepth 100000 in
set_option maxHeartbeats 12800000 in
theorem rAdd_any (v : Value) (T : List Bd) (b : Bd) (w : World) (h : BsAt w v T) (hs : SmB T) (hb1 : b.n.length ≤ 100000) (hb2 : b.s.length ≤ 100000) :
    Calls Try.prog 15 #[v, bdA b] w (GivesB (addE T b) w) := by
  have CW : Hid (∀ W v2 T2, Below w.heap.size w W → BsAt W v2 T2 → SmB T2 → Calls Try.prog 13 #[v2] W fun e w' => e = .returned (chkV T2) ∧ Below W.heap.size W w') := Lib.hid fun W v2 T2 _ h2 hs2 => rbCheck_any v2 T2 W h2 hs2
  have HV := Lib.hid (fun W (hW : Below w.heap.size w W) => h.below hW (Nat.le_refl _))
  have HS := Lib.hid hs
  have HS2 := Lib.hid (hs.snoc hb1 hb2)
  have HE1 : Hid ((chkB T).2 ≠ 0 → addE T b = ([], (chkB T).2)) := Lib.hid fun e => by unfold addE; rw [if_pos e]
  have HE2 : Hid ((chkB T).2 = 0 → (chkB (T ++ [b])).2 ≠ 0 → addE T b = ([], (chkB (T ++ [b])).2)) := Lib.hid fun e e2 => by unfold addE; rw [if_neg (by simpa using e), if_pos e2]
  have HE3 : Hid ((chkB T).2 = 0 → (chkB (T ++ [b])).2 = 0 → addE T b = (T ++ [b], 0)) := Lib.hid fun e e2 => by unfold addE; rw [if_neg (by simpa using e), if_neg (by simpa using e2)]
  have HX : Hid (bcs (T ++ [b]) = bcs T ++ bdC b) := Lib.hid (by rw [bcs_app, bcs_one])
  have HLen : Hid ((T ++ [b]).length = T.length + 1) := Lib.hid (by rw [List.length_append]; rfl)
  have HOne := Lib.hid (one_bcs T)
  obtain ⟨i0, hi, hj0, hj1, hj2⟩ := info_parts2 infoBd
  have HNil := Lib.hid (fun N c ty W => app_nil i0 hi N c ty W)
  obtain ⟨a0, n, c0, hv, hn, -, h3⟩ := h
  have HLn : Hid ((bcs T).length = n * 4) := Lib.hid (by rw [bcs_len, hn])
  by_cases h0 : (chkB T).2 = 0
  · have hl : T.length ≤ 1000 := ((chk_iff T).1 h0).few
    have C1 : Hid (∀ W, Below w.heap.size w W → Calls Try.prog 13 #[v] W fun e w' => e = .returned (.tuple #[.int .i64 0, .int .i64 0]) ∧ Below W.heap.size W w') := Lib.hid fun W hW => by
      have := CW.out W v T hW (HV.out W hW) HS.out
      unfold chkV at this
      rw [chk_ok ((chk_iff T).1 h0)] at this; exact this
    obtain ⟨R, hR⟩ : ∃ R, addE T b = R := ⟨_, rfl⟩
    have HE22 := Lib.hid (HE2.out h0)
    have HE32 := Lib.hid (HE3.out h0)
    rw [hR] at HE22 HE32 ⊢
    rw [← hn] at hl HLen
    obtain ⟨bn, bS, bp, br⟩ := b
    have HC : Hid (bdC ⟨bn, bS, bp, br⟩ = [.string (str bn), .string (str bS), .int .i64 bp, .int .i64 br]) := Lib.hid rfl
    rw [bdA_eq]
    rw [HC.out] at HX
    simp only
    obtain ⟨BN, hBN⟩ : ∃ S, str bn = S := ⟨_, rfl⟩
    obtain ⟨BS, hBS⟩ : ∃ S, str bS = S := ⟨_, rfl⟩
    rw [hBN, hBS] at HX ⊢
    obtain ⟨W0, hW0⟩ : ∃ W0, W0 = w.alloc (.cells #[.string BN, .string BS, .int .i64 bp, .int .i64 br] 24) := ⟨_, rfl⟩
    have hb0 : Below w.heap.size w W0 := by rw [hW0]; exact below_b1 _ _
    have hx0 : W0.heap[w.heap.size]? = some (.cells #[.string BN, .string BS, .int .i64 bp, .int .i64 br] 24 (0, 0)) := by rw [hW0]; exact World.alloc_heap_new _ _
    have hz0 : w.heap.size < W0.heap.size := by rw [hW0, World.size_alloc]; omega
    have C1a := Lib.hid (C1.out W0 hb0)
    have h3' : T = [] ∨ ∃ g off, a0 = some ⟨g, off, none⟩ ∧ g < w.heap.size ∧ ∀ (j : Nat) (u : Value), (bcs T)[j]? = some u → w.cell? ⟨g, off + j, none⟩ = some u := h3
    subst hv
    clear hs hb1 hb2 hBN hBS C1 HE1 HE2 HE3 h0 hR h3
    cases a0 with
    | none =>
      have hT : T = [] := by
        rcases h3' with h3 | ⟨g, off, e, _⟩
        · exact h3
        · cases e
      clear h3'
      subst hT
      rw [List.length_nil] at hn
      subst hn
      have HXn : Hid (bcs ([] ++ [(⟨bn, bS, bp, br⟩ : Bd)]) = [.string BN, .string BS, .int .i64 bp, .int .i64 br]) := Lib.hid (by rw [HX.out]; rfl)
      go_enter Try.func15, Try.ntmps15
      go_wp2_with fail
      rw [← hW0]
      refine C1a.out.mono ?_
      rintro e w1 ⟨rfl, hb1⟩
      have hbw1 : Below w.heap.size w w1 := hb0.trans (hb1.mono hb0.size)
      have HBX := Lib.hid (fun W (hW : Below w1.heap.size w1 W) => box4_facts ((hW.block w.heap.size (by have := hb1.size; omega)).trans ((hb1.block w.heap.size hz0).trans hx0)))
      obtain ⟨k0, k1, k2, k3⟩ := HBX.out w1 (Below.refl _ _)
      have bD : Below w1.heap.size w1 w1.drew := (Below.refl _ w1).drew
      have bA : Below w1.heap.size w1 (w1.drew.alloc (.cells #[] 24)) := bD.alloc (Nat.le_refl _) _
      have bX : Below w1.heap.size w1 (w1.drew.alloc (.cells #[.string BN, .string BS, .int .i64 bp, .int .i64 br] 24)) := bD.alloc (Nat.le_refl _) _
      have bB : Below w1.heap.size w1 ((w1.drew.alloc (.cells #[] 24)).alloc (.cells #[.string BN, .string BS, .int .i64 bp, .int .i64 br] 24)) := bA.alloc bA.size _
      have bC : Below w1.heap.size w1 ((w1.drew.alloc (.cells #[.string BN, .string BS, .int .i64 bp, .int .i64 br] 24)).alloc (.cells #[] 24)) := bX.alloc bX.size _
      have HxB : Hid (((w1.drew.alloc (.cells #[] 24)).alloc (.cells #[.string BN, .string BS, .int .i64 bp, .int .i64 br] 24)).heap[w1.heap.size + 1]? = some (.cells #[.string BN, .string BS, .int .i64 bp, .int .i64 br] 24 (0, 0))) := Lib.hid (by
        have := World.alloc_heap_new (w1.drew.alloc (.cells #[] 24)) (.cells #[.string BN, .string BS, .int .i64 bp, .int .i64 br] 24)
        rw [World.size_alloc] at this; exact this)
      have HxC : Hid (((w1.drew.alloc (.cells #[.string BN, .string BS, .int .i64 bp, .int .i64 br] 24)).alloc (.cells #[] 24)).heap[w1.heap.size]? = some (.cells #[.string BN, .string BS, .int .i64 bp, .int .i64 br] 24 (0, 0))) := Lib.hid
        ((Below.heap_alloc _ _ _ (by rw [World.size_alloc]; exact Nat.lt_succ_self _)).trans (World.alloc_heap_new w1.drew _))
      clear hW0 hx0
      have HnB : Hid (∀ j u, [Value.string BN, .string BS, .int .i64 bp, .int .i64 br][j]? = some u → ((w1.drew.alloc (.cells #[] 24)).alloc (.cells #[.string BN, .string BS, .int .i64 bp, .int .i64 br] 24)).cell? ((⟨w1.heap.size + 1, 0, none⟩ : Addr).add j) = some u) := Lib.hid (new_cellsX _ [Value.string BN, .string BS, .int .i64 bp, .int .i64 br] _ _ (World.size_alloc _ _))
      have HnC : Hid (∀ j u, [Value.string BN, .string BS, .int .i64 bp, .int .i64 br][j]? = some u → ((w1.drew.alloc (.cells #[.string BN, .string BS, .int .i64 bp, .int .i64 br] 24)).alloc (.cells #[] 24)).cell? ((⟨w1.heap.size, 0, none⟩ : Addr).add j) = some u) := Lib.hid fun j u hj => by
        have := new_cellsX w1.drew [Value.string BN, .string BS, .int .i64 bp, .int .i64 br] 24 _ rfl j u hj
        rw [Go.WideShapes.add_plain] at this ⊢
        exact ((below_b1 (w1.drew.alloc (.cells #[.string BN, .string BS, .int .i64 bp, .int .i64 br] 24)) _).cell (p := ⟨w1.heap.size, 0 + j, none⟩) (by rw [World.size_alloc]; exact Nat.lt_succ_self _)).trans this
      go_wp2_with fail
      -- MARK1
      go_region_held3 (fun w' => w'.cell? ⟨w.heap.size, 0, none⟩ = some (.string BN) ∧ w'.cell? ⟨w.heap.size, 1, none⟩ = some (.string BS) ∧ w'.cell? ⟨w.heap.size, 2, none⟩ = some (.int .i64 bp) ∧ w'.cell? ⟨w.heap.size, 3, none⟩ = some (.int .i64 br)) (first | exact HBX.out _ (by assumption) | go_keep) (first
        | (refine step_append_own rfl _ _ 22 rfl w1.heap.size 24 i0 zeroBv 4 48 Try.underlying22 hi hj0 hj1 hj2 rfl (by decide) _ _ _ rfl ((emp_rowV w1.heap.size w1.drew _ 4 (Nat.le_refl _) _ rfl).alloc _) ⟨w1.heap.size + 1, 0, none⟩ 1 1 [.string BN, .string BS, .int .i64 bp, .int .i64 br] rfl rfl HnB.out (by simp [Value.oneCell']) (by unfold maxLen; omega) (by omega) bB.size ?_; intro v6 w6 hown6 hgrow6 _; rw [Nat.zero_add, List.nil_append] at hown6; have hown6 := hown6; obtain ⟨b6, cb6, rfl⟩ := own_len hown6; have hb6 : Below w1.heap.size w1 w6 := bB.grown hgrow6 bB.size (own_atV rfl (Nat.le_refl _)); obtain ⟨m0, m1, m2, m3⟩ := HBX.out w6 hb6)
        | (refine step_append_own rfl _ _ 22 rfl w1.heap.size 24 i0 zeroBv 4 48 Try.underlying22 hi hj0 hj1 hj2 rfl (by decide) _ _ _ rfl (emp_rowV w1.heap.size (w1.drew.alloc (.cells #[.string BN, .string BS, .int .i64 bp, .int .i64 br] 24)) _ 4 (by rw [World.size_alloc]; exact Nat.le_succ _) (w1.heap.size + 1) (World.size_alloc _ _)) ⟨w1.heap.size, 0, none⟩ 1 1 [.string BN, .string BS, .int .i64 bp, .int .i64 br] rfl rfl HnC.out (by simp [Value.oneCell']) (by unfold maxLen; omega) (by omega) bC.size ?_; intro v6 w6 hown6 hgrow6 _; rw [Nat.zero_add, List.nil_append] at hown6; have hown6 := hown6; obtain ⟨b6, cb6, rfl⟩ := own_len hown6; have hb6 : Below w1.heap.size w1 w6 := bC.grown hgrow6 bC.size (own_atV rfl (Nat.le_succ _)); obtain ⟨m0, m1, m2, m3⟩ := HBX.out w6 hb6)
        | (refine step_append_run rfl _ _ _ _ rfl (.slice (some ⟨_, 0, none⟩) 0 0) (.slice none 0 c0) rfl rfl _ _ (HNil.out _ _ _ _) ?_))
      -- MARK2
      all_goals
        have hbw6 : Below w.heap.size w w6 := hbw1.trans (hb6.mono hbw1.size)
        have HO6 : Hid (w6.ownsRow w1.heap.size 24 4 (.slice b6 1 cb6) 1 (bcs ([] ++ [(⟨bn, bS, bp, br⟩ : Bd)]))) := Lib.hid (by rw [HXn.out]; exact hown6)
        have HBs : Hid (BsAt w6 (.slice b6 1 cb6) ([] ++ [(⟨bn, bS, bp, br⟩ : Bd)])) := Lib.hid (bs_own HO6.out HLen.out)
        have C4 := Lib.hid (CW.out w6 _ _ hbw6 HBs.out HS2.out)
        unfold chkV at C4
        obtain ⟨⟨ix, er⟩, her⟩ : ∃ er, chkB ([] ++ [(⟨bn, bS, bp, br⟩ : Bd)]) = er := ⟨_, rfl⟩
        rw [her] at C4 HE22 HE32
        simp only at C4 HE22 HE32
        clear her
        go_wp2_with fail
        refine C4.out.mono ?_
        rintro e w7 ⟨rfl, hb7⟩
        have hbw7 : Below w.heap.size w w7 := below_step hbw6 hb7
        by_cases h1 : er = 0
        · subst h1
          have HR := HE32.out rfl
          subst HR
          have HO7 : Hid (w7.ownsRow w.heap.size 24 4 (.slice b6 1 cb6) ([] ++ [(⟨bn, bS, bp, br⟩ : Bd)]).length (bcs ([] ++ [(⟨bn, bS, bp, br⟩ : Bd)]))) := Lib.hid (by rw [HLen.out]; exact World.ownsRow.mono (own_below HO6.out hb7) hbw1.size)
          go_wp2_with fail
          go_ret2
          exact ⟨_, rfl, HO7, hbw7⟩
        · have hne : (er != 0) = true := bne_iff_ne.2 h1
          have HR := HE22.out h1
          subst HR
          go_wp2_with fail
          go_ret2
          exact ⟨_, rfl, Lib.hid (own_nilV _ _ _ _), hbw7⟩
    | some ad =>
      have HCw : Hid (∀ W, Below w.heap.size w W → ∀ j u, (bcs T)[j]? = some u → W.cell? (ad.add j) = some u) := Lib.hid fun W hW j u hj => by
        rcases h3' with rfl | ⟨g, off, e, hg, hcell⟩
        · simp [bcs] at hj
        · obtain rfl := Option.some.inj e
          rw [Go.WideShapes.add_plain]
          exact (hW.cell (p := ⟨g, off + j, none⟩) hg).trans (hcell j u hj)
      clear h3' hn
      go_enter Try.func15, Try.ntmps15
      go_wp2_with fail
      rw [← hW0]
      refine C1a.out.mono ?_
      rintro e w1 ⟨rfl, hb1⟩
      have hbw1 : Below w.heap.size w w1 := hb0.trans (hb1.mono hb0.size)
      have HBX := Lib.hid (fun W (hW : Below w1.heap.size w1 W) => box4_facts ((hW.block w.heap.size (by have := hb1.size; omega)).trans ((hb1.block w.heap.size hz0).trans hx0)))
      obtain ⟨k0, k1, k2, k3⟩ := HBX.out w1 (Below.refl _ _)
      have bD : Below w1.heap.size w1 w1.drew := (Below.refl _ w1).drew
      have bA : Below w1.heap.size w1 (w1.drew.alloc (.cells #[] 24)) := bD.alloc (Nat.le_refl _) _
      have bX : Below w1.heap.size w1 (w1.drew.alloc (.cells #[.string BN, .string BS, .int .i64 bp, .int .i64 br] 24)) := bD.alloc (Nat.le_refl _) _
      have bB : Below w1.heap.size w1 ((w1.drew.alloc (.cells #[] 24)).alloc (.cells #[.string BN, .string BS, .int .i64 bp, .int .i64 br] 24)) := bA.alloc bA.size _
      have bC : Below w1.heap.size w1 ((w1.drew.alloc (.cells #[.string BN, .string BS, .int .i64 bp, .int .i64 br] 24)).alloc (.cells #[] 24)) := bX.alloc bX.size _
      have HxB : Hid (((w1.drew.alloc (.cells #[] 24)).alloc (.cells #[.string BN, .string BS, .int .i64 bp, .int .i64 br] 24)).heap[w1.heap.size + 1]? = some (.cells #[.string BN, .string BS, .int .i64 bp, .int .i64 br] 24 (0, 0))) := Lib.hid (by
        have := World.alloc_heap_new (w1.drew.alloc (.cells #[] 24)) (.cells #[.string BN, .string BS, .int .i64 bp, .int .i64 br] 24)
        rw [World.size_alloc] at this; exact this)
      have HxC : Hid (((w1.drew.alloc (.cells #[.string BN, .string BS, .int .i64 bp, .int .i64 br] 24)).alloc (.cells #[] 24)).heap[w1.heap.size]? = some (.cells #[.string BN, .string BS, .int .i64 bp, .int .i64 br] 24 (0, 0))) := Lib.hid
        ((Below.heap_alloc _ _ _ (by rw [World.size_alloc]; exact Nat.lt_succ_self _)).trans (World.alloc_heap_new w1.drew _))
      clear hW0 hx0
      have HCo : Hid (∀ W, Below w1.heap.size w1 W → ∀ j u, (bcs T)[j]? = some u → W.cell? (ad.add j) = some u) := Lib.hid fun W hW => HCw.out W (hbw1.trans (hW.mono hbw1.size))
      go_wp2_with fail
      -- MARK3
      go_region_held3 (fun w' => w'.cell? ⟨w.heap.size, 0, none⟩ = some (.string BN) ∧ w'.cell? ⟨w.heap.size, 1, none⟩ = some (.string BS) ∧ w'.cell? ⟨w.heap.size, 2, none⟩ = some (.int .i64 bp) ∧ w'.cell? ⟨w.heap.size, 3, none⟩ = some (.int .i64 br)) (first | exact HBX.out _ (by assumption) | go_keep) (first
        | (refine step_append_own rfl _ _ 22 rfl w1.heap.size 24 i0 zeroBv 4 48 Try.underlying22 hi hj0 hj1 hj2 rfl (by decide) _ _ _ rfl (emp_rowV w1.heap.size w1.drew _ 4 (Nat.le_refl _) _ rfl) ad n c0 (bcs T) rfl HLn.out (HCo.out _ bA) HOne.out (by unfold maxLen; omega) (by omega) bA.size ?_; intro v5 w5 hown5 hgrow5 _; rw [Nat.zero_add, List.nil_append] at hown5; obtain ⟨b5, cb5, rfl⟩ := own_len hown5; have hb5 : Below w1.heap.size w1 w5 := bA.grown hgrow5 bA.size (own_atV rfl (Nat.le_refl _)); have bY := hb5.alloc hb5.size (.cells #[.string BN, .string BS, .int .i64 bp, .int .i64 br] 24); obtain ⟨m0, m1, m2, m3⟩ := HBX.out w5 hb5)
        | (refine step_append_own rfl _ _ 22 rfl w1.heap.size 24 i0 zeroBv 4 48 Try.underlying22 hi hj0 hj1 hj2 rfl (by decide) _ _ _ rfl ((emp_rowV w1.heap.size w1.drew _ 4 (Nat.le_refl _) _ rfl).alloc _) ad n c0 (bcs T) rfl HLn.out (HCo.out _ bB) HOne.out (by unfold maxLen; omega) (by omega) bB.size ?_; intro v5 w5 hown5 hgrow5 _; rw [Nat.zero_add, List.nil_append] at hown5; obtain ⟨b5, cb5, rfl⟩ := own_len hown5; have hb5 : Below w1.heap.size w1 w5 := bB.grown hgrow5 bB.size (own_atV rfl (Nat.le_refl _)); have HN70 := Lib.hid (box_keptV HxB.out hgrow5 rfl (by exact Nat.succ_ne_self _)); obtain ⟨m0, m1, m2, m3⟩ := HBX.out w5 hb5)
        | (refine step_append_own rfl _ _ 22 rfl w1.heap.size 24 i0 zeroBv 4 48 Try.underlying22 hi hj0 hj1 hj2 rfl (by decide) _ _ _ rfl (emp_rowV w1.heap.size (w1.drew.alloc (.cells #[.string BN, .string BS, .int .i64 bp, .int .i64 br] 24)) _ 4 (by rw [World.size_alloc]; exact Nat.le_succ _) (w1.heap.size + 1) (World.size_alloc _ _)) ad n c0 (bcs T) rfl HLn.out (HCo.out _ bC) HOne.out (by unfold maxLen; omega) (by omega) bC.size ?_; intro v5 w5 hown5 hgrow5 _; rw [Nat.zero_add, List.nil_append] at hown5; obtain ⟨b5, cb5, rfl⟩ := own_len hown5; have hb5 : Below w1.heap.size w1 w5 := bC.grown hgrow5 bC.size (own_atV rfl (Nat.le_succ _)); have HN70 := Lib.hid (box_keptV HxC.out hgrow5 rfl (by exact (Nat.succ_ne_self _).symm)); obtain ⟨m0, m1, m2, m3⟩ := HBX.out w5 hb5)
        | (refine step_append_own rfl _ _ 22 rfl w1.heap.size 24 i0 zeroBv 4 48 Try.underlying22 hi hj0 hj1 hj2 rfl (by decide) _ _ _ rfl (hown5.alloc _) ⟨w5.heap.size, 0, none⟩ 1 1 [.string BN, .string BS, .int .i64 bp, .int .i64 br] rfl rfl (new_cells w5 [.string BN, .string BS, .int .i64 bp, .int .i64 br] _) (by simp [Value.oneCell']) (by unfold maxLen; omega) (by omega) (hb5.alloc hb5.size _).size ?_; intro v6 w6 hown6 hgrow6 _; rw [← HX.out] at hown6; obtain ⟨b6, cb6, rfl⟩ := own_len hown6; have hb6 : Below w1.heap.size w1 w6 := (hb5.alloc hb5.size _).grown hgrow6 (by rw [World.size_alloc]; have := hb5.size; omega) (fun kk hk2 => (hown5.lt kk hk2).1); obtain ⟨m0, m1, m2, m3⟩ := HBX.out w6 hb6)
        | (refine step_append_own rfl _ _ 22 rfl w1.heap.size 24 i0 zeroBv 4 48 Try.underlying22 hi hj0 hj1 hj2 rfl (by decide) _ _ _ rfl hown5 _ 1 1 [.string BN, .string BS, .int .i64 bp, .int .i64 br] rfl rfl HN70.out (by simp [Value.oneCell']) (by unfold maxLen; omega) (by omega) hb5.size ?_; intro v6 w6 hown6 hgrow6 _; rw [← HX.out] at hown6; obtain ⟨b6, cb6, rfl⟩ := own_len hown6; have hb6 : Below w1.heap.size w1 w6 := hb5.grown hgrow6 hb5.size (fun kk hk2 => (hown5.lt kk hk2).1); obtain ⟨m0, m1, m2, m3⟩ := HBX.out w6 hb6))
      -- MARK4
      all_goals
        have hbw6 : Below w.heap.size w w6 := hbw1.trans (hb6.mono hbw1.size)
        have HO6 := Lib.hid hown6
        have HBs : Hid (BsAt w6 (.slice b6 (n + 1) cb6) (T ++ [(⟨bn, bS, bp, br⟩ : Bd)])) := Lib.hid (bs_own HO6.out HLen.out)
        have C4 := Lib.hid (CW.out w6 _ _ hbw6 HBs.out HS2.out)
        unfold chkV at C4
        obtain ⟨⟨ix, er⟩, her⟩ : ∃ er, chkB (T ++ [(⟨bn, bS, bp, br⟩ : Bd)]) = er := ⟨_, rfl⟩
        rw [her] at C4 HE22 HE32
        simp only at C4 HE22 HE32
        clear her
        go_wp2_with fail
        refine C4.out.mono ?_
        rintro e w7 ⟨rfl, hb7⟩
        have hbw7 : Below w.heap.size w w7 := below_step hbw6 hb7
        by_cases h1 : er = 0
        · subst h1
          have HR := HE32.out rfl
          subst HR
          have HO7 : Hid (w7.ownsRow w.heap.size 24 4 (.slice b6 (n + 1) cb6) (T ++ [(⟨bn, bS, bp, br⟩ : Bd)]).length (bcs (T ++ [(⟨bn, bS, bp, br⟩ : Bd)]))) := Lib.hid (by rw [HLen.out]; exact World.ownsRow.mono (own_below HO6.out hb7) hbw1.size)
          go_wp2_with fail
          go_ret2
          exact ⟨_, rfl, HO7, hbw7⟩
        · have hne : (er != 0) = true := bne_iff_ne.2 h1
          have HR := HE22.out h1
          subst HR
          go_wp2_with fail
          go_ret2
          exact ⟨_, rfl, Lib.hid (own_nilV _ _ _ _), hbw7⟩
  · have HR := Lib.hid (HE1.out h0)
    have C1 := Lib.hid (fun W hW => CW.out W v T hW (HV.out W hW) HS.out)
    unfold chkV at C1
    subst hv
    obtain ⟨⟨ix, er⟩, her⟩ : ∃ er, chkB T = er := ⟨_, rfl⟩
    rw [her] at h0 C1 HR
    simp only at h0 C1 HR
    rw [HR.out]
    have hne : (er != 0) = true := bne_iff_ne.2 h0
    rw [bdA_eq]
    clear hs hb1 hb2 hn HE1 HE2 HE3 h0 her HR h3
    go_enter Try.func15, Try.ntmps15
    go_wp2_with fail
    refine (C1.out _ (below_b1 _ _)).mono ?_
    rintro e w1 ⟨rfl, hb1⟩
    have hbw1 : Below w.heap.size w w1 := (below_b1 w _).trans (hb1.mono (below_b1 w _).size)
    go_wp2_with fail
    go_ret2
    exact ⟨_, rfl, Lib.hid (own_nilV _ _ _ _), hbw1⟩
-- MARK9
end Go.Proofs.Ytbkkmcfpjpbhaaa
