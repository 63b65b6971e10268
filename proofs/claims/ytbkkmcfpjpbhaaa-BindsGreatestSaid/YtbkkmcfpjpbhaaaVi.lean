/- slices.Clone of bindings, binds.Add. -/
import Derived.Test.YtbkkmcfpjpbhaaaVh
namespace Go.Proofs.Ytbkkmcfpjpbhaaa
open Go.RowKit Go.PlainAid

abbrev zeroBv : Value := .agg #[.string ⟨#[]⟩, .string ⟨#[]⟩, .int .i64 0, .int .i64 0]
theorem infoBd : (Try.prog.info? 24).map (fun i => (i.zero, i.size, i.bytes)) = some (some zeroBv, 4, 48) := by kernel_rfl
theorem one_bcs (l : List Bd) : ∀ u ∈ bcs l, u.oneCell' = true := by
  induction l with
  | nil => intro u hu; cases hu
  | cons x l ih =>
    intro u hu
    rw [bcs_cons] at hu
    simp only [List.mem_cons] at hu
    rcases hu with rfl | rfl | rfl | rfl | hu
    · rfl
    · rfl
    · rfl
    · rfl
    · exact ih u hu
/-- A row that is made empty. -/
theorem emp_rowV (B : Nat) (W : World) (t : TypeId) (z : Nat) (hB : B ≤ W.heap.size) (N : Nat) (hN : W.heap.size = N) : (W.alloc (.cells #[] t)).ownsRow B t z (.slice (some ⟨N, 0, none⟩) 0 0) 0 [] := by
  subst hN
  exact ⟨by simp, .inr ⟨W.heap.size, 0, #[], rfl, hB, World.alloc_heap_new _ _, Nat.le_refl _, Nat.zero_le _, by simp, by simp⟩⟩
/-- A list of bindings. -/
def GivesL (l : List Bd) (w : World) (e : Ending) (w' : World) : Prop := ∃ v, e = .returned v ∧ Hid (w'.ownsRow w.heap.size 24 4 v l.length (bcs l)) ∧ Below w.heap.size w w'
set_option maxRecDepth 100000 in
set_option maxHeartbeats 3200000 in
theorem clone_any (v : Value) (T : List Bd) (w : World) (h : BsAt w v T) (hl : T.length ≤ 2000) :
    Calls Try.prog 34 #[v] w (GivesL T w) := by
  obtain ⟨a, n, c, rfl, hn, hc, h3⟩ := h
  cases a with
  | none =>
    have h0 : T = [] := by
      rcases h3 with h3 | ⟨g, off, e, _⟩
      · exact h3
      · cases e
    subst h0
    rw [List.length_nil] at hn
    subst hn
    have he : ∀ W : World, (binOp .eql 22 (.slice none 0 c) (.slice none 0 0)).run Try.prog W = .ok (.bool true) W := fun _ => rfl
    clear h3 hl hc
    go_enter Try.func34, Try.ntmps34
    go_wp2
    go_ret
    exact ⟨_, rfl, Lib.hid (own_nilV _ _ _ _), Below.refl _ _⟩
  | some ad =>
    have HE := Lib.hid (emp_rowV w.heap.size w 24 4 (Nat.le_refl _) _ rfl)
    have hbE : Below w.heap.size w (w.alloc (.cells #[] 24)) := below_b1 _ _
    have HCells : Hid (∀ j u, (bcs T)[j]? = some u → (w.alloc (.cells #[] 24)).cell? (ad.add j) = some u) := Lib.hid fun j u hj => by
      rcases h3 with rfl | ⟨g, off, e, hg, hcell⟩
      · simp [bcs] at hj
      · obtain rfl := Option.some.inj e
        rw [Go.WideShapes.add_plain]
        exact (hbE.cell (p := ⟨g, off + j, none⟩) hg).trans (hcell j u hj)
    have HL : Hid ((bcs T).length = n * 4) := Lib.hid (by rw [bcs_len, hn])
    have HOne := Lib.hid (one_bcs T)
    have HN := Lib.hid hn
    obtain ⟨i0, hi, hj0, hj1, hj2⟩ := info_parts2 infoBd
    have hn2 : n ≤ 2000 := by omega
    have he : ∀ W : World, (binOp .eql 22 (.slice (some ad) n c) (.slice none 0 0)).run Try.prog W = .ok (.bool false) W := fun _ => rfl
    clear h3 hl hn
    go_enter Try.func34, Try.ntmps34
    go_wp2_with (at_builtin; refine wpList_append_own _ rfl _ _ 22 rfl w.heap.size 24 i0 zeroBv 4 48 Try.underlying22 hi hj0 hj1 hj2 rfl (by decide) _ _ _ rfl HE.out ad n c (bcs T) rfl HL.out HCells.out HOne.out (by unfold maxLen; omega) (by omega) hbE.size ?_; intro v' w2 hown2 hgrow2 _; rw [Nat.zero_add, List.nil_append] at hown2; have HO2 := Lib.hid hown2; have hb2 : Below w.heap.size w w2 := hbE.grown hgrow2 hbE.size (fun q hq => by cases hq; exact Nat.le_refl _); clear hown2 hgrow2)
    -- MARK1
    go_ret
    exact ⟨_, rfl, Lib.hid (by rw [← HN.out]; exact HO2.out), hb2⟩
/-- What Add returns. -/
def addE (T : List Bd) (b : Bd) : List Bd × Int := if (chkB T).2 ≠ 0 then ([], (chkB T).2) else if (chkB (T ++ [b])).2 ≠ 0 then ([], (chkB (T ++ [b])).2) else (T ++ [b], 0)
def GivesB (r : List Bd × Int) (w : World) (e : Ending) (w' : World) : Prop := ∃ v, e = .returned (.tuple #[v, .int .i64 r.2]) ∧ Hid (w'.ownsRow w.heap.size 24 4 v r.1.length (bcs r.1)) ∧ Below w.heap.size w w'
theorem SmB.snoc {T : List Bd} {b : Bd} (h : SmB T) (h1 : b.n.length ≤ 100000) (h2 : b.s.length ≤ 100000) : SmB (T ++ [b]) := by
  intro x hx
  rcases List.mem_append.1 hx with hx | hx
  · exact h x hx
  · rw [List.mem_singleton.1 hx]; exact ⟨h1, h2⟩
set_option maxRecDepth 100000 in
set_option maxHeartbeats 6400000 in
theorem Add_any (v : Value) (T : List Bd) (b : Bd) (w : World) (h : BsAt w v T) (hs : SmB T) (hb1 : b.n.length ≤ 100000) (hb2 : b.s.length ≤ 100000) :
    Calls Try.prog 14 #[v, bdA b] w (GivesB (addE T b) w) := by
  have CW : Hid (∀ W v2 T2, Below w.heap.size w W → BsAt W v2 T2 → SmB T2 → Calls Try.prog 33 #[v2, .slice none 0 0] W fun e w' => e = .returned (.int .i64 (chkB T2).2) ∧ Below W.heap.size W w') := Lib.hid fun W v2 T2 _ h2 hs2 => by
    have := checkWith_any v2 (.slice none 0 0) T2 [] W h2 hs2 (ss_nil W) (by simp) (by simp)
    rw [with_none] at this; exact this
  have HV := Lib.hid (fun W (hW : Below w.heap.size w W) => h.below hW (Nat.le_refl _))
  have HS := Lib.hid hs
  have HS2 := Lib.hid (hs.snoc hb1 hb2)
  have CL := Lib.hid (fun (hl : T.length ≤ 2000) W (hW : Below w.heap.size w W) => clone_any v T W (h.below hW (Nat.le_refl _)) hl)
  have HE1 : Hid ((chkB T).2 ≠ 0 → addE T b = ([], (chkB T).2)) := Lib.hid fun e => by unfold addE; rw [if_pos e]
  have HE2 : Hid ((chkB T).2 = 0 → (chkB (T ++ [b])).2 ≠ 0 → addE T b = ([], (chkB (T ++ [b])).2)) := Lib.hid fun e e2 => by unfold addE; rw [if_neg (by simpa using e), if_pos e2]
  have HE3 : Hid ((chkB T).2 = 0 → (chkB (T ++ [b])).2 = 0 → addE T b = (T ++ [b], 0)) := Lib.hid fun e e2 => by unfold addE; rw [if_neg (by simpa using e), if_neg (by simpa using e2)]
  have HX : Hid (bcs (T ++ [b]) = bcs T ++ bdC b) := Lib.hid (by rw [bcs_app, bcs_one])
  have HLen : Hid ((T ++ [b]).length = T.length + 1) := Lib.hid (by rw [List.length_append]; rfl)
  obtain ⟨a0, c0, hv, -⟩ := h.slice
  by_cases h0 : (chkB T).2 = 0
  · have hl : T.length ≤ 1000 := ((chk_iff T).1 h0).few
    have CL2 := Lib.hid (CL.out (by omega))
    have C1 := Lib.hid (CW.out w v T (Below.refl _ _) (HV.out w (Below.refl _ _)) HS.out)
    rw [h0] at C1
    obtain ⟨R, hR⟩ : ∃ R, addE T b = R := ⟨_, rfl⟩
    have HE22 := Lib.hid (HE2.out h0)
    have HE32 := Lib.hid (HE3.out h0)
    rw [hR] at HE22 HE32 ⊢
    obtain ⟨n, hn⟩ : ∃ n, T.length = n := ⟨_, rfl⟩
    unfold GivesL at CL2
    rw [hn] at hl CL2 HLen hv
    obtain ⟨bn, bS, bp, br⟩ := b
    have HC : Hid (bdC ⟨bn, bS, bp, br⟩ = [.string (str bn), .string (str bS), .int .i64 bp, .int .i64 br]) := Lib.hid rfl
    rw [bdA_eq]
    rw [HC.out] at HX
    simp only
    obtain ⟨BN, hBN⟩ : ∃ S, str bn = S := ⟨_, rfl⟩
    obtain ⟨BS, hBS⟩ : ∃ S, str bS = S := ⟨_, rfl⟩
    rw [hBN, hBS] at HX ⊢
    obtain ⟨W0, hW0⟩ : ∃ W0, W0 = w.alloc (.cells #[.string BN, .string BS, .int .i64 bp, .int .i64 br] 24) := ⟨_, rfl⟩
    have hb0 : Below w.heap.size w W0 := by rw [hW0]; exact below_b1 _ _
    have hx0 : W0.heap[w.heap.size]? = some (.cells #[.string BN, .string BS, .int .i64 bp, .int .i64 br] 24 (0, 0)) := by rw [hW0]; exact World.alloc_heap_new _ _
    have hz0 : w.heap.size < W0.heap.size := by rw [hW0, World.size_alloc]; omega
    have C1a : Hid (Calls Try.prog 33 #[v, .slice none 0 0] W0 fun e w' => e = .returned (.int .i64 0) ∧ Below W0.heap.size W0 w') := Lib.hid (by
      have := CW.out W0 v T hb0 (HV.out W0 hb0) HS.out
      rw [h0] at this; exact this)
    obtain ⟨i0, hi, hj0, hj1, hj2⟩ := info_parts2 infoBd
    subst hv
    clear h hs hb1 hb2 hn hBN hBS C1 HE1 HE2 HE3 CL h0
    go_enter Try.func14, Try.ntmps14
    go_wp2_with fail
    rw [← hW0]
    refine C1a.out.mono ?_
    rintro e w1 ⟨rfl, hb1⟩
    have hbw1 : Below w.heap.size w w1 := hb0.trans (hb1.mono hb0.size)
    have HBX := Lib.hid (fun W (hW : Below w1.heap.size w1 W) => box4_facts ((hW.block w.heap.size (by have := hb1.size; omega)).trans ((hb1.block w.heap.size hz0).trans hx0)))
    obtain ⟨k0, k1, k2, k3⟩ := HBX.out w1 (Below.refl _ _)
    have hD1 : Below w1.heap.size w1 w1.drew := (Below.refl _ w1).drew
    have hA : Below w.heap.size w w1.drew := hbw1.drew
    have hA2 : Below w1.heap.size w1 (w1.drew.alloc (.cells #[.string BN, .string BS, .int .i64 bp, .int .i64 br] 24)) := hD1.alloc (Nat.le_refl _) _
    have hB : Below w.heap.size w (w1.drew.alloc (.cells #[.string BN, .string BS, .int .i64 bp, .int .i64 br] 24)) := hbw1.trans (hA2.mono hbw1.size)
    have HNw := Lib.hid (new_cellsX w1.drew [.string BN, .string BS, .int .i64 bp, .int .i64 br] 24 w1.heap.size rfl)
    clear hW0 hx0
    go_wp2_with fail
    -- MARK2
    go_region_held3 (fun w' => w'.cell? ⟨w.heap.size, 0, none⟩ = some (.string BN) ∧ w'.cell? ⟨w.heap.size, 1, none⟩ = some (.string BS) ∧ w'.cell? ⟨w.heap.size, 2, none⟩ = some (.int .i64 bp) ∧ w'.cell? ⟨w.heap.size, 3, none⟩ = some (.int .i64 br)) (first | exact HBX.out _ (by assumption) | go_keep) (first
      | (go_at_call 34; refine (CL2.out _ hA).mono ?_; rintro e w2 ⟨v2, rfl, HO2, hb2⟩; have hb21 : Below w1.heap.size w1 w2 := below_drew hb2; have HO2w : Hid (w2.ownsRow w1.heap.size 24 4 v2 n (bcs T)) := Lib.hid HO2.out; obtain ⟨b2, cb2, rfl⟩ := own_len HO2w.out; obtain ⟨m0, m1, m2, m3⟩ := HBX.out w2 hb21)
      | (go_at_call 34; refine (CL2.out _ hB).mono ?_; rintro e w2 ⟨v2, rfl, HO2, hb2⟩; have hb21 : Below w1.heap.size w1 w2 := below_step hA2 hb2; have HO2w : Hid (w2.ownsRow w1.heap.size 24 4 v2 n (bcs T)) := Lib.hid (World.ownsRow.mono HO2.out hA2.size); obtain ⟨b2, cb2, rfl⟩ := own_len HO2w.out; obtain ⟨m0, m1, m2, m3⟩ := HBX.out w2 hb21; have HNv : Hid (∀ j u, [Value.string BN, .string BS, .int .i64 bp, .int .i64 br][j]? = some u → w2.cell? ((⟨w1.heap.size, 0, none⟩ : Addr).add j) = some u) := Lib.hid (fun j u hj => by have := HNw.out j u hj; rw [Go.WideShapes.add_plain] at this ⊢; exact (hb2.cell (p := ⟨w1.heap.size, 0 + j, none⟩) (by show w1.heap.size < _; rw [World.size_alloc]; exact Nat.lt_succ_self _)).trans this))
      | (refine step_append_own rfl _ _ 22 rfl w1.heap.size 24 i0 zeroBv 4 48 Try.underlying22 hi hj0 hj1 hj2 rfl (by decide) _ _ _ rfl (HO2w.out.alloc _) ⟨w2.heap.size, 0, none⟩ 1 1 [.string BN, .string BS, .int .i64 bp, .int .i64 br] rfl rfl (new_cells w2 [.string BN, .string BS, .int .i64 bp, .int .i64 br] _) (by simp [Value.oneCell']) (by unfold maxLen; omega) (by omega) (hb21.alloc hb21.size _).size ?_; intro v4 w4 hown4 hgrow4 _; rw [← HX.out] at hown4; obtain ⟨b4, cb4, rfl⟩ := own_len hown4; have hb41 : Below w1.heap.size w1 w4 := (hb21.alloc hb21.size _).grown hgrow4 (hb21.alloc hb21.size _).size (fun kk hk2 => (HO2w.out.lt kk hk2).1); obtain ⟨m0, m1, m2, m3⟩ := HBX.out w4 hb41; have HO4 := Lib.hid hown4)
      | (refine step_append_own rfl _ _ 22 rfl w1.heap.size 24 i0 zeroBv 4 48 Try.underlying22 hi hj0 hj1 hj2 rfl (by decide) _ _ _ rfl HO2w.out ⟨w1.heap.size, 0, none⟩ 1 1 [.string BN, .string BS, .int .i64 bp, .int .i64 br] rfl rfl HNv.out (by simp [Value.oneCell']) (by unfold maxLen; omega) (by omega) hb21.size ?_; intro v4 w4 hown4 hgrow4 _; rw [← HX.out] at hown4; obtain ⟨b4, cb4, rfl⟩ := own_len hown4; have hb41 : Below w1.heap.size w1 w4 := hb21.grown hgrow4 hb21.size (fun kk hk2 => (HO2w.out.lt kk hk2).1); obtain ⟨m0, m1, m2, m3⟩ := HBX.out w4 hb41; have HO4 := Lib.hid hown4))
    -- MARK3
    all_goals
      have hbw4 : Below w.heap.size w w4 := hbw1.trans (hb41.mono hbw1.size)
      have HBs : Hid (BsAt w4 (.slice b4 (n + 1) cb4) (T ++ [(⟨bn, bS, bp, br⟩ : Bd)])) := Lib.hid (bs_own HO4.out HLen.out)
      have C4 := Lib.hid (CW.out w4 _ _ hbw4 HBs.out HS2.out)
      obtain ⟨er, her⟩ : ∃ er, (chkB (T ++ [(⟨bn, bS, bp, br⟩ : Bd)])).2 = er := ⟨_, rfl⟩
      rw [her] at C4 HE22 HE32
      clear her hR
      go_wp2_with fail
      -- MARK4
      refine C4.out.mono ?_
      rintro e w5 ⟨rfl, hb5⟩
      have hbw5 : Below w.heap.size w w5 := below_step hbw4 hb5
      by_cases h1 : er = 0
      · subst h1
        have HR := HE32.out rfl
        subst HR
        have HO5 : Hid (w5.ownsRow w.heap.size 24 4 (.slice b4 (n + 1) cb4) (T ++ [(⟨bn, bS, bp, br⟩ : Bd)]).length (bcs (T ++ [(⟨bn, bS, bp, br⟩ : Bd)]))) := Lib.hid (by rw [HLen.out]; exact World.ownsRow.mono (own_below HO4.out hb5) hbw1.size)
        go_wp2_with fail
        go_ret2
        exact ⟨_, rfl, HO5, hbw5⟩
      · have hne : (er != 0) = true := bne_iff_ne.2 h1
        have HR := HE22.out h1
        subst HR
        go_wp2_with fail
        go_ret2
        exact ⟨_, rfl, Lib.hid (own_nilV _ _ _ _), hbw5⟩
  · have HR := Lib.hid (HE1.out h0)
    have C1 := Lib.hid (fun W hW => CW.out W v T hW (HV.out W hW) HS.out)
    obtain ⟨n, hn⟩ : ∃ n, T.length = n := ⟨_, rfl⟩
    rw [hn] at hv
    subst hv
    obtain ⟨er, her⟩ : ∃ er, (chkB T).2 = er := ⟨_, rfl⟩
    rw [her] at h0 C1 HR
    rw [HR.out]
    have hne : (er != 0) = true := bne_iff_ne.2 h0
    rw [bdA_eq]
    clear h hs hb1 hb2 hn HE1 HE2 HE3 CL h0 her HR
    go_enter Try.func14, Try.ntmps14
    go_wp2_with fail
    refine (C1.out _ (below_b1 _ _)).mono ?_
    rintro e w1 ⟨rfl, hb1⟩
    have hbw1 : Below w.heap.size w w1 := (below_b1 w _).trans (hb1.mono (below_b1 w _).size)
    go_wp2_with fail
    go_ret2
    exact ⟨_, rfl, Lib.hid (own_nilV _ _ _ _), hbw1⟩
-- MARK9
end Go.Proofs.Ytbkkmcfpjpbhaaa
