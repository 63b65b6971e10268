import Derived.Test.YtdiinlmeoifgjaaDoorHea
import Derived.Test.YtdiinlmeoifgjaaDoorZq
import Derived.Test.YtdiinlmeoifgjaaDoorHdo
/- Lits: what it gives (mathematics); the program. -/
namespace Go.Proofs.YtdiinlmeoifgjaaDoor
open Go.RowKit Go.PlainAid

/-- What Lits gives: literals, node, error. -/
abbrev LtR := List Pid × Int × Int
def litF : List Pid → Nat → List Sx → LtR
  | vs, _, [] => (vs, 0, 0)
  | vs, i, x :: t => if x.k ≠ 3 ∨ dotsX x = true ∨ blkX x = true then ([], (i : Int), 6) else if idX x ∈ vs then ([], (i : Int), 8) else litF (vs ++ [idX x]) (i + 1) t
def litP (l : List Sx) : LtR := if (ckL l).2 ≠ 0 then ([], ckL l) else match l with | [] => ([], 0, 0) | x :: t => if 20 < x.c then ([], 0, 3) else litF [] 1 t
theorem ckL_ok {l : List Sx} (h : (ckL l).2 = 0) : (chkX l).2 = 0 ∧ ∃ x t, l = x :: t ∧ x.k = 4 := by
  unfold ckL at h
  by_cases hc : (chkX l).2 ≠ 0
  · rw [if_pos hc] at h; exact absurd h hc
  · rw [if_neg hc] at h
    have hc' : (chkX l).2 = 0 := by simpa using hc
    refine ⟨hc', ?_⟩
    cases l with
    | nil => exact absurd rfl (chkX_tree hc').2.1
    | cons x t =>
      simp only at h
      by_cases hk : x.k ≠ 4
      · rw [if_pos hk] at h; cases h
      · exact ⟨x, t, rfl, by simpa using hk⟩
theorem litP_ok {x : Sx} {t : List Sx} (h : (ckL (x :: t)).2 = 0) : litP (x :: t) = if 20 < x.c then ([], 0, 3) else litF [] 1 t := by
  unfold litP; rw [if_neg (by simpa using h)]
theorem litF_at {l : List Sx} {k : Nat} {y : Sx} (h : l[k]? = some y) (vs : List Pid) : litF vs k (l.drop k) = if y.k ≠ 3 ∨ dotsX y = true ∨ blkX y = true then ([], (k : Int), 6) else if idX y ∈ vs then ([], (k : Int), 8) else litF (vs ++ [idX y]) (k + 1) (l.drop (k + 1)) := by
  obtain ⟨hk, e⟩ := List.getElem?_eq_some_iff.1 h
  rw [List.drop_eq_getElem_cons hk, e, litF]
theorem litF_end {l : List Sx} {k : Nat} (h : l.length ≤ k) (vs : List Pid) : litF vs k (l.drop k) = (vs, 0, 0) := by rw [List.drop_of_length_le h, litF]
theorem litF_len : ∀ (t : List Sx) (vs : List Pid) (i : Nat), (litF vs i t).1.length ≤ vs.length + t.length := by
  intro t
  induction t with
  | nil => intro vs i; exact Nat.le_refl _
  | cons x t ih =>
    intro vs i
    rw [litF]
    split
    · exact Nat.zero_le _
    · split
      · exact Nat.zero_le _
      · have := ih (vs ++ [idX x]) (i + 1)
        rw [List.length_append, List.length_singleton] at this
        rw [List.length_cons]; omega
theorem litP_len (l : List Sx) : (litP l).1.length ≤ l.length := by
  unfold litP
  split
  · exact Nat.zero_le _
  · cases l with
    | nil => exact Nat.le_refl _
    | cons x t =>
      simp only
      split
      · exact Nat.zero_le _
      · have := litF_len t [] 1
        rw [List.length_cons]; simp at this; omega
/-- What a call of Lits gives. -/
def LitV (l : List Sx) (w : World) (e : Ending) (w' : World) : Prop := ∃ v, e = .returned (.tuple #[v, .int .i64 (litP l).2.1, .int .i64 (litP l).2.2]) ∧ PsAt w' v (litP l).1 ∧ Below w.heap.size w w'
theorem litV_of {l : List Sx} {w w' : World} {v : Value} {vs : List Pid} {a b : Int} (h : litP l = (vs, a, b)) (hp : PsAt w' v vs) (hb : Below w.heap.size w w') : LitV l w (.returned (.tuple #[v, .int .i64 a, .int .i64 b])) w' := by
  unfold LitV; rw [h]; exact ⟨v, rfl, hp, hb⟩
set_option maxRecDepth 50000 in
set_option maxHeartbeats 6400000 in
theorem Lits_any (v : Value) (l : List Sx) (w : World) (h : XsAt w v l) (hs : SmX l) (hi : InX l) (T : STabs w) :
    Calls Tryd.prog 11 #[v] w (LitV l w) := by
  have C := Lib.hid (checkList_any v l w h hs hi T)
  have HV := Lib.hid (fun W (hW : Below w.heap.size w W) => h.below hW (Nat.le_refl _))
  obtain ⟨va, vc, rfl, _⟩ := h.slice
  obtain ⟨⟨r1, r2⟩, hr⟩ : ∃ r, ckL l = r := ⟨_, rfl⟩
  rw [hr] at C
  unfold two64 at C
  simp only at C
  by_cases h0 : r2 = 0
  case neg =>
    have HR : Hid (litP l = ([], r1, r2)) := Lib.hid (by unfold litP; rw [hr, if_pos h0])
    have hne : (r2 != 0) = true := bne_iff_ne.2 h0
    obtain ⟨n, hn⟩ : ∃ n, l.length = n := ⟨_, rfl⟩
    rw [hn] at C ⊢
    clear h hs hi T hn hr HV h0
    go_enter Tryd.func11, Tryd.ntmps11
    go_wp2_with fail
    refine C.out.mono ?_
    rintro e w1 ⟨rfl, hb1⟩
    go_wp2_with fail
    go_ret3
    exact litV_of HR.out (ps_nil _ _ _) hb1
  subst h0
  obtain ⟨hc, x0, t, hl, hk4⟩ := ckL_ok (l := l) (by rw [hr])
  have HP0 : Hid (litP l = if 20 < x0.c then ([], 0, 3) else litF [] 1 (l.drop 1)) := Lib.hid (by rw [hl]; exact litP_ok (by rw [← hl, hr]))
  have hx0 : l[0]? = some x0 := by rw [hl]; rfl
  have hl2 := (chkX_tree hc).2.2
  obtain ⟨n, hn⟩ : ∃ n, l.length = n := ⟨_, rfl⟩
  have HN := Lib.hid hn
  have hn0 : 0 < n := by rw [← hn, hl]; simp
  rw [hn] at C HV hl2 ⊢

  obtain ⟨C0, hC0⟩ : ∃ c, x0.c = c := ⟨_, rfl⟩
  have hr1 : r1 = 0 := by
    have : ckL l = (0, 0) := by unfold ckL; rw [if_neg (by simpa using hc), hl]; simp [hk4]
    rw [hr] at this; exact (Prod.mk.inj this).1
  subst hr1
  obtain ⟨g0, o0, hva, _, _, d1, _⟩ := (HV.out w (Below.refl _ _)).node hx0
  have HCell : Hid (∀ W, Below w.heap.size w W → W.cell? ⟨g0, o0 + 1, none⟩ = some (.int .i64 C0)) := Lib.hid fun W hW => by
    obtain ⟨g', o', e, _, _, c1, _⟩ := (HV.out W hW).node hx0
    rw [hva] at e
    cases e; rw [hC0] at c1; rw [Nat.zero_mul, Nat.add_zero] at c1; exact c1
  subst hva
  rw [hC0] at HP0
  have hn1 : (0 : Int) < (n : Int) := by omega
  clear d1 h hx0 hl hk4 hr hC0 hn
  by_cases h20 : 20 < C0
  · have HR := Lib.hid (HP0.out.trans (if_pos h20))
    have hd : decide ((20 : Int) < C0) = true := decide_eq_true h20
    clear HP0 hs hi T h20
    go_enter Tryd.func11, Tryd.ntmps11
    go_wp2_with fail
    refine C.out.mono ?_
    rintro e w1 ⟨rfl, hb1⟩
    have q1 := HCell.out w1 hb1
    go_wp2_with fail
    go_ret3
    exact litV_of HR.out (ps_nil _ _ _) hb1
  have HP := Lib.hid (HP0.out.trans (if_neg h20))
  have hd : decide ((20 : Int) < C0) = false := decide_eq_false h20
  clear HP0 hi T h20 hc
  have HSm := Lib.hid hs
  obtain ⟨i0, hi0, hz0, hz1, hz2⟩ := info_parts2 infoPi
  clear hs
  go_enter Tryd.func11, Tryd.ntmps11
  go_wp2_with fail
  refine C.out.mono ?_
  rintro e w1 ⟨rfl, hb1⟩
  have q1 := HCell.out w1 hb1
  go_wp2_with fail
  -- MARK1
  clear q1 C
  go_loopw [2, 7] (fun x2 x7 wr => ∃ (k m : Nat) (b : Option Addr) (c : Nat) (vs : List Pid), x2 = .slice b m c ∧ x7 = .int .i64 (k : Int) ∧ k ≤ n ∧ m ≤ k ∧ Hid (vs.length = m) ∧ Hid (wr.ownsRow w.heap.size 32 2 (.slice b m c) m (pcs vs)) ∧ Hid (litF [] 1 (l.drop 1) = litF vs k (l.drop k)) ∧ Below w.heap.size w wr) (fun _ x7 _ => n - (intOf x7).toNat)
  case atStart => exact ⟨1, 0, none, 0, [], rfl, rfl, hn0, Nat.zero_le _, Lib.hid rfl, Lib.hid (own_nilH _ _ _ _), Lib.hid rfl, hb1⟩
  case round =>
    obtain ⟨k, m, b, c, vs, rfl, rfl, hk, hmk, HM, HO, HL, hb⟩ := hrel
    have hk0 : (0 : Int) ≤ (k : Int) := Int.natCast_nonneg _
    by_cases hlt : k < n
    · have hd1 : decide ((k : Int) < (n : Int)) = true := decide_eq_true (by omega)
      have hk1 : (k : Int) < (n : Int) := by omega
      obtain ⟨x, hx⟩ : ∃ x, l[k]? = some x := ⟨_, List.getElem?_eq_getElem (by rw [HN.out]; exact hlt)⟩
      obtain ⟨g1, o1, e1, _, c0, c1, c2, c3, c4, c5, c6, c7⟩ := (HV.out wr hb).node hx
      obtain ⟨rfl, rfl⟩ : g0 = g1 ∧ o0 = o1 := by cases e1; exact ⟨rfl, rfl⟩
      clear e1
      have HSt := Lib.hid (litF_at hx vs)
      have CE := Lib.hid (fun W => isEll_any x W)
      have CB := Lib.hid (fun W => isBlk_any x W)
      have CI := Lib.hid (fun W => ident_any x W)
      have CN := Lib.hid (fun W (hW : PsAt W (.slice b m c) vs) => pContains_any _ vs x.s x.p W hW (by rw [HM.out]; omega))
      obtain ⟨x0, x1, x2, x3, x4, x5, x6, x7⟩ := x
      have HPC : Hid (pcs vs ++ [.string (str x3), .string (str x4)] = pcs (vs ++ [(x3, x4)])) := Lib.hid (by rw [pcs_app, pcs_one]; rfl)
      have HLe : Hid ((vs ++ [(x3, x4)]).length = m + 1) := Lib.hid (by rw [List.length_append, HM.out]; rfl)
      unfold idX keyV at CI
      unfold idX at HSt
      simp only [sxA_open] at CE CB CI CN HSt c0 c1 c2 c3 c4 c5 c6 c7
      obtain ⟨bd, hbd⟩ : ∃ b, dotsX ⟨x0, x1, x2, x3, x4, x5, x6, x7⟩ = b := ⟨_, rfl⟩
      obtain ⟨bk, hbk⟩ : ∃ b, blkX ⟨x0, x1, x2, x3, x4, x5, x6, x7⟩ = b := ⟨_, rfl⟩
      obtain ⟨bt, hbt⟩ : ∃ b, (x0 != 3) = b := ⟨_, rfl⟩
      obtain ⟨bm, hbm⟩ : ∃ b, decide (((x3, x4) : Pid) ∈ vs) = b := ⟨_, rfl⟩
      rw [hbd] at CE HSt
      rw [hbk] at CB HSt
      rw [hbm] at CN
      have H1 : Hid (bt = true ∨ bd = true ∨ bk = true → litP l = ([], (k : Int), 6)) := Lib.hid fun e => by
        rw [HP.out, HL.out, HSt.out, if_pos]
        rcases e with e | e
        · left; rw [← hbt] at e; exact bne_iff_ne.1 e
        · exact .inr e
      have H2 : Hid (bt = false → bd = false → bk = false → bm = true → litP l = ([], (k : Int), 8)) := Lib.hid fun e1 e2 e3 e4 => by
        rw [HP.out, HL.out, HSt.out, if_neg, if_pos (by rw [← hbm] at e4; exact of_decide_eq_true e4)]
        rintro (h | h | h)
        · rw [← hbt] at e1; exact h (by simpa using e1)
        · rw [e2] at h; cases h
        · rw [e3] at h; cases h
      have H3 : Hid (bt = false → bd = false → bk = false → bm = false → litF [] 1 (l.drop 1) = litF (vs ++ [(x3, x4)]) (k + 1) (l.drop (k + 1))) := Lib.hid fun e1 e2 e3 e4 => by
        rw [HL.out, HSt.out, if_neg, if_neg (by rw [← hbm] at e4; exact of_decide_eq_false e4)]
        rintro (h | h | h)
        · rw [← hbt] at e1; exact h (by simpa using e1)
        · rw [e2] at h; cases h
        · rw [e3] at h; cases h
      obtain ⟨X, hX⟩ : ∃ S, str x3 = S := ⟨_, rfl⟩
      obtain ⟨Y, hY⟩ : ∃ S, str x4 = S := ⟨_, rfl⟩
      rw [hX] at CE CB CI CN HPC c3
      rw [hY] at CE CB CI CN HPC c4
      clear hbd hbk hbm HSt hx hX hY
      have hx8 := World.alloc_heap_new wr (.cells #[.int .i64 x0, .int .i64 x1, .int .i64 x2, .string X, .string Y, .int .i64 x5, .int .i64 x6, .int .i64 x7] 49)
      have hb8 : Below wr.heap.size wr (wr.alloc (.cells #[.int .i64 x0, .int .i64 x1, .int .i64 x2, .string X, .string Y, .int .i64 x5, .int .i64 x6, .int .i64 x7] 49)) := below_b1 wr _
      have hz8 : wr.heap.size < (wr.alloc (.cells #[.int .i64 x0, .int .i64 x1, .int .i64 x2, .string X, .string Y, .int .i64 x5, .int .i64 x6, .int .i64 x7] 49)).heap.size := by rw [World.size_alloc]; exact Nat.lt_succ_self _
      obtain ⟨W8, hW8⟩ : ∃ W8, wr.alloc (.cells #[.int .i64 x0, .int .i64 x1, .int .i64 x2, .string X, .string Y, .int .i64 x5, .int .i64 x6, .int .i64 x7] 49) = W8 := ⟨_, rfl⟩
      rw [hW8] at hx8 hb8 hz8
      have HB8 := Lib.hid (fun W (hW : Below W8.heap.size W8 W) => box8F ((hW.block wr.heap.size hz8).trans hx8))
      have hw8 := below_step hb hb8
      obtain ⟨q0, q1, q2, q3, q4, q5, q6, q7⟩ := HB8.out _ (Below.refl _ _)
      have HO8 := Lib.hid (fun W (hW : Below W8.heap.size W8 W) => own_below HO.out (below_step hb8 hW))
      clear hx8
      cases bt
      case true =>
        have HR := Lib.hid (H1.out (.inl rfl))
        go_wp2_with fail
        -- MARKT
        go_ret3
        exact litV_of HR.out (ps_nil _ _ _) hw8
      go_wp2_with fail
      -- MARK2
      refine (CE.out W8).mono ?_
      rintro e w9 ⟨rfl, hb9⟩
      have hw9 := below_step hw8 hb9
      clear q0 q1 q2 q3 q4 q5 q6 q7
      cases bd
      case true =>
        have HR := Lib.hid (H1.out (.inr (.inl rfl)))
        go_wp2_with fail
        go_ret3
        exact litV_of HR.out (ps_nil _ _ _) hw9
      obtain ⟨q0, q1, q2, q3, q4, q5, q6, q7⟩ := HB8.out _ hb9
      go_wp2_with fail
      refine (CB.out w9).mono ?_
      rintro e w10 ⟨rfl, hb10⟩
      have hw10 := below_step hw9 hb10
      have hb810 := below_step hb9 hb10
      clear q0 q1 q2 q3 q4 q5 q6 q7
      cases bk
      case true =>
        have HR := Lib.hid (H1.out (.inr (.inr rfl)))
        go_wp2_with fail
        go_ret3
        exact litV_of HR.out (ps_nil _ _ _) hw10
      obtain ⟨q0, q1, q2, q3, q4, q5, q6, q7⟩ := HB8.out _ hb810
      go_wp2_with fail
      -- MARK3
      refine (CI.out w10).mono ?_
      rintro e w11 ⟨rfl, hb11⟩
      have hw11 := below_step hw10 hb11
      have hb811 := below_step hb810 hb11
      have HPs := Lib.hid (ps_own (HO8.out w11 hb811) HM.out)
      clear q0 q1 q2 q3 q4 q5 q6 q7
      go_wp2_with fail
      refine (CN.out w11 HPs.out).mono ?_
      rintro e w12 ⟨rfl, hb12⟩
      have hw12 := below_step hw11 hb12
      have hb812 := below_step hb811 hb12
      cases bm
      case true =>
        have HR := Lib.hid (H2.out (by simp) (by simp) (by simp) (by simp))
        go_wp2_with fail
        go_ret3
        exact litV_of HR.out (ps_nil _ _ _) hw12
      obtain ⟨q0, q1, q2, q3, q4, q5, q6, q7⟩ := HB8.out _ hb812
      have HNx := Lib.hid (H3.out (by simp) (by simp) (by simp) (by simp))
      go_wp2_with fail
      refine (CI.out w12).mono ?_
      rintro e w13 ⟨rfl, hb13⟩
      have hw13 := below_step hw12 hb13
      have hb813 := below_step hb812 hb13
      have HO13 := Lib.hid (HO8.out w13 hb813)
      clear q0 q1 q2 q3 q4 q5 q6 q7 HO8
      have hs13 := hw13.size
      go_wp2_with (at_builtin; refine wpList_append_own _ rfl _ _ 25 rfl w.heap.size 32 i0 (.agg #[.string ByteArray.empty, .string ByteArray.empty]) 2 32 Tryd.underlying25 hi0 hz0 hz1 hz2 rfl (by decide) _ _ _ rfl (HO13.out.alloc _) ⟨w13.heap.size, 0, none⟩ 1 1 [.string X, .string Y] rfl rfl (new_cells w13 [.string X, .string Y] _) (by simp [Value.oneCell']) (by unfold maxLen; omega) (by omega) (by rw [World.size_alloc]; omega) ?_; intro v4 w4 hown4 hgrow4 _; rw [HPC.out] at hown4; obtain ⟨b4, cb4, rfl⟩ := own_lenR hown4; have hb4 : Below w.heap.size w w4 := (hw13.alloc hw13.size _).grown hgrow4 (by rw [World.size_alloc]; omega) (fun k hk => (HO13.out.lt k hk).1); have HO4 := Lib.hid hown4; clear hown4 hgrow4)
      -- MARK4
      exact ⟨⟨k + 1, m + 1, b4, cb4, _, rfl, by go_num, by omega, by omega, HLe, HO4, HNx, hb4⟩, by simp [intOf]; omega⟩
    · obtain rfl : k = n := by omega
      have hd1 : decide ((k : Int) < (k : Int)) = false := decide_eq_false (by omega)
      have HR : Hid (litP l = (vs, 0, 0)) := Lib.hid (HP.out.trans (HL.out.trans (litF_end (by rw [HN.out]; exact Nat.le_refl _) vs)))
      have HPs := Lib.hid (ps_own HO.out HM.out)
      go_wp2_with fail
      go_ret3
      exact litV_of HR.out HPs.out hb
-- MARK9
end Go.Proofs.YtdiinlmeoifgjaaDoor

/- Lits: the reference. -/
namespace Go.Proofs.YtdiinlmeoifgjaaDoor
open Go.RowKit Go.PlainAid

theorem natC_at {l : List Nat} {j q : Nat} (h : l[j]? = some q) : (natC l)[j]? = some (.int .i64 (q : Int)) := by unfold natC; rw [List.getElem?_map, h]; rfl
/-- The elements of a list whose first ones are leaves. -/
theorem els_step {l : List Sx} (h : (chkX l).2 = 0) {k : Nat} (hk : k < cnt (kidsX l) 0) (he : posK (kidsX l) 0 k = k + 1) : k + 1 < l.length ∧ ∀ x, l[k + 1]? = some x → x.k = 3 → posK (kidsX l) 0 (k + 1) = k + 2 := by
  have hp := chkX_pat h
  have h0 : 0 < (kidsX l).length := by rw [kidsX_len]; exact List.length_pos_iff.2 (chkX_tree h).2.1
  obtain ⟨s1, s2, s3⟩ := hp.tr.pos_step h0 hk
  rw [kidsX_len, he] at s2
  refine ⟨s2, fun x hx hk3 => ?_⟩
  rw [← s3, he]
  exact hp.end_leaf s2 (by rw [lstAt_of hx, hk3]; decide)
theorem els_end {l : List Sx} (h : (chkX l).2 = 0) : posK (kidsX l) 0 (cnt (kidsX l) 0) = l.length := by
  have hp := chkX_pat h
  have h0 : 0 < (kidsX l).length := by rw [kidsX_len]; exact List.length_pos_iff.2 (chkX_tree h).2.1
  rw [hp.tr.pos_end h0]; exact hp.end_0
theorem els_0 {l : List Sx} (h : (chkX l).2 = 0) : posK (kidsX l) 0 0 = 1 := by
  have h0 : 0 < (kidsX l).length := by rw [kidsX_len]; exact List.length_pos_iff.2 (chkX_tree h).2.1
  rw [posK_start h0]
/-- The cells of a row of numbers, in every later world. -/
theorem nat_cells {w : World} {B n : Nat} {a : Option Addr} {c : Nat} {l : List Nat} (h : w.ownsRow B 3 1 (.slice a n c) n (natC l)) (hn : 0 < n) : ∃ g, a = some ⟨g, 0, none⟩ ∧ g < w.heap.size ∧ ∀ W, Below w.heap.size w W → ∀ j q : Nat, l[j]? = some q → W.cell? ⟨g, j, none⟩ = some (.int .i64 (q : Int)) := by
  rcases own_form h with ⟨e, h0⟩ | ⟨g, c', e, h1, h2⟩
  · omega
  · obtain ⟨rfl, -, rfl⟩ := Value.slice.inj e
    exact ⟨g, rfl, h2, fun W hW j q hj => own_cell (own_below h hW) (natC_at hj)⟩
set_option maxRecDepth 50000 in
set_option maxHeartbeats 6400000 in
theorem rLits_any (v : Value) (l : List Sx) (w : World) (h : XsAt w v l) (hs : SmX l) (hi : InX l) :
    Calls Tryd.prog 12 #[v] w (LitV l w) := by
  have C := Lib.hid (rCheck10_any v l w h hs hi)
  have HV := Lib.hid (fun W (hW : Below w.heap.size w W) => h.below hW (Nat.le_refl _))
  have HEl := Lib.hid (fun (hc : (chkX l).2 = 0) (hp : 0 < l.length) W (hW : Below w.heap.size w W) => rElements_any v l 0 W (h.below hW (Nat.le_refl _)) hc hp)
  obtain ⟨va, vc, rfl, _⟩ := h.slice
  obtain ⟨⟨r1, r2⟩, hr⟩ : ∃ r, chkX l = r := ⟨_, rfl⟩
  rw [hr] at C
  simp only at C
  by_cases h0 : r2 = 0
  case neg =>
    have HR : Hid (litP l = ([], r1, r2)) := Lib.hid (by
      have e : ckL l = (r1, r2) := by unfold ckL; rw [hr, if_pos h0]
      unfold litP; rw [e, if_pos h0])
    have hne : (r2 != 0) = true := bne_iff_ne.2 h0
    obtain ⟨n, hn⟩ : ∃ n, l.length = n := ⟨_, rfl⟩
    rw [hn] at C ⊢
    clear h hs hi hn hr HV HEl h0
    go_enter Tryd.func12, Tryd.ntmps12
    go_wp2_with fail
    refine C.out.mono ?_
    rintro e w1 ⟨rfl, hb1⟩
    go_wp2_with fail
    go_ret3
    exact litV_of HR.out (ps_nil _ _ _) hb1
  subst h0
  have hc : (chkX l).2 = 0 := by rw [hr]
  obtain ⟨x0, t, hl⟩ := List.exists_cons_of_ne_nil (chkX_tree hc).2.1
  have hx0 : l[0]? = some x0 := by rw [hl]; rfl
  have hl2 := (chkX_tree hc).2.2
  obtain ⟨n, hn⟩ : ∃ n, l.length = n := ⟨_, rfl⟩
  have HN := Lib.hid hn
  have hn0 : 0 < n := by rw [← hn, hl]; simp
  rw [hn] at C HV hl2 HEl ⊢
  have HEl := Lib.hid (HEl.out hc hn0)
  obtain ⟨C0, hC0⟩ : ∃ c, x0.c = c := ⟨_, rfl⟩
  obtain ⟨K0, hK0⟩ : ∃ c, x0.k = c := ⟨_, rfl⟩
  obtain ⟨g0, o0, hva, _, d0, d1, _⟩ := (HV.out w (Below.refl _ _)).node hx0
  have HCell : Hid (∀ W, Below w.heap.size w W → W.cell? ⟨g0, o0, none⟩ = some (.int .i64 K0) ∧ W.cell? ⟨g0, o0 + 1, none⟩ = some (.int .i64 C0)) := Lib.hid fun W hW => by
    obtain ⟨g', o', e, _, c0, c1, _⟩ := (HV.out W hW).node hx0
    rw [hva] at e
    cases e; rw [hC0, Nat.zero_mul, Nat.add_zero] at c1; rw [hK0, Nat.zero_mul, Nat.add_zero] at c0; exact ⟨c0, c1⟩
  subst hva
  have HK4 : Hid (K0 ≠ 4 → litP l = ([], 0, 6)) := Lib.hid fun e => by
    have e2 : ckL l = (0, 6) := by unfold ckL; rw [if_neg (by simpa using hc), hl]; exact if_pos (by rw [hK0]; exact e)
    unfold litP; rw [e2, if_pos (by decide)]
  have HP0 : Hid (K0 = 4 → litP l = if 20 < C0 then ([], 0, 3) else litF [] 1 (l.drop 1)) := Lib.hid fun e => by
    have e2 : ckL (x0 :: t) = (0, 0) := by rw [hl] at hc; unfold ckL; rw [if_neg (by simpa using hc)]; exact if_neg (by rw [hK0, e]; simp)
    rw [hl, litP_ok (by rw [e2]), hC0]; rfl
  have hn1 : (0 : Int) < (n : Int) := by omega
  have HStep := Lib.hid (fun k hk he => els_step hc (k := k) hk he)
  have HEnd := Lib.hid (els_end hc)
  have HE0 := Lib.hid (els_0 hc)
  rw [hn] at HStep HEnd
  obtain ⟨K, hK⟩ : ∃ K, cnt (kidsX l) 0 = K := ⟨_, rfl⟩
  have HKat : Hid (∀ k, k < K → (kidsN (kidsX l) 0)[k]? = some (posK (kidsX l) 0 k)) := Lib.hid fun k hk => kidsN_at (by rw [hK]; exact hk)
  have hKn : K < n := by
    have h3 := (kidsN_len (kidsX l) 0)
    have hp := chkX_pat hc
    have h0 : 0 < (kidsX l).length := by rw [kidsX_len, hn]; exact hn0
    have := hp.tr.pos_mono h0 (d := K) (k := 0) (by omega)
    rw [Nat.zero_add, ← hK, els_end hc, hn, hK, els_0 hc] at this
    omega
  rw [hK] at HEl HStep HEnd
  clear d0 d1 h hx0 hl hr hC0 hK0 hn hc hi
  by_cases h4 : K0 = 4
  case neg =>
    have HR := Lib.hid (HK4.out h4)
    have hd4 : (K0 != 4) = true := bne_iff_ne.2 h4
    clear HP0 HK4 hs
    go_enter Tryd.func12, Tryd.ntmps12
    go_wp2_with fail
    refine C.out.mono ?_
    rintro e w1 ⟨rfl, hb1⟩
    obtain ⟨q0, q1⟩ := HCell.out w1 hb1
    go_wp2_with fail
    go_ret3
    exact litV_of HR.out (ps_nil _ _ _) hb1
  have hd4 : (K0 != 4) = false := by rw [h4]; rfl
  have HP0 := Lib.hid (HP0.out h4)
  clear HK4 h4
  by_cases h20 : 20 < C0
  · have HR := Lib.hid (HP0.out.trans (if_pos h20))
    have hd : decide ((20 : Int) < C0) = true := decide_eq_true h20
    clear HP0 hs h20
    go_enter Tryd.func12, Tryd.ntmps12
    go_wp2_with fail
    refine C.out.mono ?_
    rintro e w1 ⟨rfl, hb1⟩
    obtain ⟨q0, q1⟩ := HCell.out w1 hb1
    go_wp2_with fail
    go_ret3
    exact litV_of HR.out (ps_nil _ _ _) hb1
  have HP := Lib.hid (HP0.out.trans (if_neg h20))
  have hd : decide ((20 : Int) < C0) = false := decide_eq_false h20
  clear HP0 h20
  obtain ⟨i0, hi0, hz0, hz1, hz2⟩ := info_parts2 infoPi
  clear hs
  go_enter Tryd.func12, Tryd.ntmps12
  go_wp2_with fail
  refine C.out.mono ?_
  rintro e w1 ⟨rfl, hb1⟩
  obtain ⟨q0, q1⟩ := HCell.out w1 hb1
  go_wp2_with fail
  -- MARK0
  refine (HEl.out w1 hb1).mono ?_
  rintro e w2 ⟨ea, ec, rfl, HEo, hb2⟩
  have hw2 := below_step hb1 hb2
  have HEn : Hid (0 < K → ∃ g, ea = some ⟨g, 0, none⟩ ∧ g < w2.heap.size ∧ ∀ W, Below w2.heap.size w2 W → ∀ j q : Nat, (kidsN (kidsX l) 0)[j]? = some q → W.cell? ⟨g, j, none⟩ = some (.int .i64 (q : Int))) := Lib.hid (nat_cells HEo.out)
  go_wp2_with fail
  -- MARK1
  clear q0 q1 C HEo
  go_loopw [7, 9] (fun x7 x9 wr => ∃ (k m : Nat) (b : Option Addr) (c : Nat) (vs : List Pid), x7 = .slice b m c ∧ x9 = .int .i64 (k : Int) ∧ k ≤ K ∧ m ≤ k ∧ Hid (vs.length = m) ∧ Hid (wr.ownsRow w2.heap.size 32 2 (.slice b m c) m (pcs vs)) ∧ Hid (posK (kidsX l) 0 k = k + 1) ∧ Hid (litF [] 1 (l.drop 1) = litF vs (k + 1) (l.drop (k + 1))) ∧ Below w2.heap.size w2 wr) (fun _ x9 _ => K - (intOf x9).toNat)
  case atStart => exact ⟨0, 0, none, 0, [], rfl, rfl, Nat.zero_le _, Nat.zero_le _, Lib.hid rfl, Lib.hid (own_nilH _ _ _ _), HE0, Lib.hid rfl, Below.refl _ _⟩
  case round =>
    obtain ⟨k, m, b, c, vs, rfl, rfl, hk, hmk, HM, HO, HPo, HL, hb⟩ := hrel
    have hk0 : (0 : Int) ≤ (k : Int) := Int.natCast_nonneg _
    have hwr := below_step hw2 hb
    by_cases hlt : k < K
    · have hd1 : decide ((k : Int) < (K : Int)) = true := decide_eq_true (by omega)
      have hk1 : (k : Int) < (K : Int) := by omega
      obtain ⟨ge, rfl, hge, hcells⟩ := HEn.out (by omega)
      obtain ⟨hq1, hstep⟩ := HStep.out k hlt HPo.out
      obtain ⟨q, hq⟩ : ∃ q, k + 1 = q := ⟨_, rfl⟩
      have HEc : Hid (∀ W, Below w2.heap.size w2 W → W.cell? ⟨ge, k, none⟩ = some (.int .i64 (q : Int))) := Lib.hid fun W hW => by
        have := hcells W hW k _ (HKat.out k hlt)
        rw [HPo.out, hq] at this; exact this
      rw [hq] at hq1 hstep HL
      have hqI : (q : Int) < (n : Int) := by omega
      have hq0 : (0 : Int) ≤ (q : Int) := Int.natCast_nonneg _
      obtain ⟨x, hx⟩ : ∃ x, l[q]? = some x := ⟨_, List.getElem?_eq_getElem (by rw [HN.out]; exact hq1)⟩
      have HPx : Hid ((x.k != 3) = false → posK (kidsX l) 0 (k + 1) = k + 1 + 1) := Lib.hid fun e => by
        have := hstep x hx (by simpa using e)
        rw [hq]; omega
      obtain ⟨g1, o1, e1, _, c0, c1, c2, c3, c4, c5, c6, c7⟩ := (HV.out wr hwr).node hx
      obtain ⟨rfl, rfl⟩ : g0 = g1 ∧ o0 = o1 := by cases e1; exact ⟨rfl, rfl⟩
      clear e1 hcells hstep
      have HQ := Lib.hid hq
      clear hq
      have ec0 := HEc.out wr hb
      have HSt := Lib.hid (litF_at hx vs)
      have CE := Lib.hid (fun W => Dots_any x W)
      have CB := Lib.hid (fun W => Blank_any x W)
      have CI := Lib.hid (fun W => Id_any x W)
      have CN := Lib.hid (fun W (hW : PsAt W (.slice b m c) vs) => rHas_any _ vs x.s x.p W hW (by rw [HM.out]; omega))
      obtain ⟨x0, x1, x2, x3, x4, x5, x6, x7⟩ := x
      have HPC : Hid (pcs vs ++ [.string (str x3), .string (str x4)] = pcs (vs ++ [(x3, x4)])) := Lib.hid (by rw [pcs_app, pcs_one]; rfl)
      have HLe : Hid ((vs ++ [(x3, x4)]).length = m + 1) := Lib.hid (by rw [List.length_append, HM.out]; rfl)
      unfold idX keyV at CI
      unfold idX at HSt
      simp only [sxA_open] at CE CB CI CN HSt c0 c1 c2 c3 c4 c5 c6 c7
      obtain ⟨bd, hbd⟩ : ∃ b, dotsX ⟨x0, x1, x2, x3, x4, x5, x6, x7⟩ = b := ⟨_, rfl⟩
      obtain ⟨bk, hbk⟩ : ∃ b, blkX ⟨x0, x1, x2, x3, x4, x5, x6, x7⟩ = b := ⟨_, rfl⟩
      obtain ⟨bt, hbt⟩ : ∃ b, (x0 != 3) = b := ⟨_, rfl⟩
      obtain ⟨bm, hbm⟩ : ∃ b, decide (((x3, x4) : Pid) ∈ vs) = b := ⟨_, rfl⟩
      rw [hbd] at CE HSt
      rw [hbk] at CB HSt
      rw [hbm] at CN
      have H1 : Hid (bt = true ∨ bd = true ∨ bk = true → litP l = ([], (q : Int), 6)) := Lib.hid fun e => by
        rw [HP.out, HL.out, HSt.out, if_pos]
        rcases e with e | e
        · left; rw [← hbt] at e; exact bne_iff_ne.1 e
        · exact .inr e
      have H2 : Hid (bt = false → bd = false → bk = false → bm = true → litP l = ([], (q : Int), 8)) := Lib.hid fun e1 e2 e3 e4 => by
        rw [HP.out, HL.out, HSt.out, if_neg, if_pos (by rw [← hbm] at e4; exact of_decide_eq_true e4)]
        rintro (h | h | h)
        · rw [← hbt] at e1; exact h (by simpa using e1)
        · rw [e2] at h; cases h
        · rw [e3] at h; cases h
      have H3 : Hid (bt = false → bd = false → bk = false → bm = false → litF [] 1 (l.drop 1) = litF (vs ++ [(x3, x4)]) (q + 1) (l.drop (q + 1))) := Lib.hid fun e1 e2 e3 e4 => by
        rw [HL.out, HSt.out, if_neg, if_neg (by rw [← hbm] at e4; exact of_decide_eq_false e4)]
        rintro (h | h | h)
        · rw [← hbt] at e1; exact h (by simpa using e1)
        · rw [e2] at h; cases h
        · rw [e3] at h; cases h
      obtain ⟨X, hX⟩ : ∃ S, str x3 = S := ⟨_, rfl⟩
      obtain ⟨Y, hY⟩ : ∃ S, str x4 = S := ⟨_, rfl⟩
      rw [hX] at CE CB CI CN HPC c3
      rw [hY] at CE CB CI CN HPC c4
      clear hbd hbk hbm HSt hx hX hY
      have hx8 := World.alloc_heap_new wr (.cells #[.int .i64 x0, .int .i64 x1, .int .i64 x2, .string X, .string Y, .int .i64 x5, .int .i64 x6, .int .i64 x7] 49)
      have hb8 : Below wr.heap.size wr (wr.alloc (.cells #[.int .i64 x0, .int .i64 x1, .int .i64 x2, .string X, .string Y, .int .i64 x5, .int .i64 x6, .int .i64 x7] 49)) := below_b1 wr _
      have hz8 : wr.heap.size < (wr.alloc (.cells #[.int .i64 x0, .int .i64 x1, .int .i64 x2, .string X, .string Y, .int .i64 x5, .int .i64 x6, .int .i64 x7] 49)).heap.size := by rw [World.size_alloc]; exact Nat.lt_succ_self _
      obtain ⟨W8, hW8⟩ : ∃ W8, wr.alloc (.cells #[.int .i64 x0, .int .i64 x1, .int .i64 x2, .string X, .string Y, .int .i64 x5, .int .i64 x6, .int .i64 x7] 49) = W8 := ⟨_, rfl⟩
      rw [hW8] at hx8 hb8 hz8
      have HB8 := Lib.hid (fun W (hW : Below W8.heap.size W8 W) => box8F ((hW.block wr.heap.size hz8).trans hx8))
      have hw8 := below_step hb hb8
      obtain ⟨q0, q1, q2, q3, q4, q5, q6, q7⟩ := HB8.out _ (Below.refl _ _)
      have HO8 := Lib.hid (fun W (hW : Below W8.heap.size W8 W) => own_below HO.out (below_step hb8 hW))
      clear hx8
      cases bt
      case true =>
        have HR := Lib.hid (H1.out (.inl rfl))
        have ec := HEc.out W8 hw8
        go_wp2_with fail
        -- MARKT
        go_quiet (fail)
        go_wp2_with fail
        go_ret3
        exact litV_of HR.out (ps_nil _ _ _) (below_step hw2 ⟨hw8.os, hw8.tape, hw8.output, hw8.size, hw8.block⟩)
      go_wp2_with fail
      -- MARK2
      refine (CE.out W8).mono ?_
      rintro e w9 ⟨rfl, hb9⟩
      have hw9 := below_step hw8 hb9
      clear q0 q1 q2 q3 q4 q5 q6 q7
      cases bd
      case true =>
        have HR := Lib.hid (H1.out (.inr (.inl rfl)))
        have ec := HEc.out w9 hw9
        go_wp2_with fail
        go_quiet (fail)
        go_wp2_with fail
        go_ret3
        exact litV_of HR.out (ps_nil _ _ _) (below_step hw2 ⟨hw9.os, hw9.tape, hw9.output, hw9.size, hw9.block⟩)
      obtain ⟨q0, q1, q2, q3, q4, q5, q6, q7⟩ := HB8.out _ hb9
      go_wp2_with fail
      refine (CB.out w9).mono ?_
      rintro e w10 ⟨rfl, hb10⟩
      have hw10 := below_step hw9 hb10
      have hb810 := below_step hb9 hb10
      clear q0 q1 q2 q3 q4 q5 q6 q7
      cases bk
      case true =>
        have HR := Lib.hid (H1.out (.inr (.inr rfl)))
        have ec := HEc.out w10 hw10
        go_wp2_with fail
        go_quiet (fail)
        go_wp2_with fail
        go_ret3
        exact litV_of HR.out (ps_nil _ _ _) (below_step hw2 ⟨hw10.os, hw10.tape, hw10.output, hw10.size, hw10.block⟩)
      obtain ⟨q0, q1, q2, q3, q4, q5, q6, q7⟩ := HB8.out _ hb810
      go_wp2_with fail
      -- MARK3
      refine (CI.out w10).mono ?_
      rintro e w11 ⟨rfl, hb11⟩
      have hw11 := below_step hw10 hb11
      have hb811 := below_step hb810 hb11
      have HPs := Lib.hid (ps_own (HO8.out w11 hb811) HM.out)
      clear q0 q1 q2 q3 q4 q5 q6 q7
      go_wp2_with fail
      refine (CN.out w11 HPs.out).mono ?_
      rintro e w12 ⟨rfl, hb12⟩
      have hw12 := below_step hw11 hb12
      have hb812 := below_step hb811 hb12
      cases bm
      case true =>
        have HR := Lib.hid (H2.out (by simp) (by simp) (by simp) (by simp))
        have ec := HEc.out w12 hw12
        go_wp2_with fail
        go_quiet (fail)
        go_wp2_with fail
        go_ret3
        exact litV_of HR.out (ps_nil _ _ _) (below_step hw2 ⟨hw12.os, hw12.tape, hw12.output, hw12.size, hw12.block⟩)
      obtain ⟨q0, q1, q2, q3, q4, q5, q6, q7⟩ := HB8.out _ hb812
      have HNx := Lib.hid (H3.out (by simp) (by simp) (by simp) (by simp))
      have HNx : Hid (litF [] 1 (l.drop 1) = litF (vs ++ [(x3, x4)]) (k + 1 + 1) (l.drop (k + 1 + 1))) := Lib.hid (by have h := HNx.out; rw [← HQ.out] at h; exact h)
      go_wp2_with fail
      refine (CI.out w12).mono ?_
      rintro e w13 ⟨rfl, hb13⟩
      have hw13 := below_step hw12 hb13
      have hb813 := below_step hb812 hb13
      have HO13 := Lib.hid (HO8.out w13 hb813)
      clear q0 q1 q2 q3 q4 q5 q6 q7 HO8
      have hs13 := hw13.size
      go_wp2_with (at_builtin; refine wpList_append_own _ rfl _ _ 25 rfl w2.heap.size 32 i0 (.agg #[.string ByteArray.empty, .string ByteArray.empty]) 2 32 Tryd.underlying25 hi0 hz0 hz1 hz2 rfl (by decide) _ _ _ rfl (HO13.out.alloc _) ⟨w13.heap.size, 0, none⟩ 1 1 [.string X, .string Y] rfl rfl (new_cells w13 [.string X, .string Y] _) (by simp [Value.oneCell']) (by unfold maxLen; omega) (by omega) (by rw [World.size_alloc]; omega) ?_; intro v4 w4 hown4 hgrow4 _; rw [HPC.out] at hown4; obtain ⟨b4, cb4, rfl⟩ := own_lenR hown4; have hb4 : Below w2.heap.size w2 w4 := (hw13.alloc hw13.size _).grown hgrow4 (by rw [World.size_alloc]; omega) (fun k hk => (HO13.out.lt k hk).1); have HO4 := Lib.hid hown4; clear hown4 hgrow4)
      -- MARK4
      have HPN := Lib.hid (HPx.out hbt)
      exact ⟨⟨k + 1, m + 1, b4, cb4, _, rfl, by go_num, by omega, by omega, HLe, HO4, HPN, HNx, hb4⟩, by simp [intOf]; omega⟩
    · obtain rfl : k = K := by omega
      have hd1 : decide ((k : Int) < (k : Int)) = false := decide_eq_false (by omega)
      have HR : Hid (litP l = (vs, 0, 0)) := Lib.hid (HP.out.trans (HL.out.trans (litF_end (by rw [HN.out, ← HEnd.out, HPo.out]; exact Nat.le_refl _) vs)))
      have HPs := Lib.hid (ps_own HO.out HM.out)
      go_wp2_with fail
      go_ret3
      exact litV_of HR.out HPs.out hwr
-- MARK9
end Go.Proofs.YtdiinlmeoifgjaaDoor

/- The law PatternLits. -/
namespace Go.Proofs.YtdiinlmeoifgjaaDoor
open Go.RowKit Go.PlainAid

set_option maxRecDepth 50000 in
set_option maxHeartbeats 3200000 in
theorem lawLt_any (v : Value) (l : List Sx) (w : World) (h : XsAt w v l) (hi : InX l) (T : STabs w) :
    Calls Tryd.prog 3 #[v] w fun e w' => e = .returned (.bool true) ∧ Below w.heap.size w w' := by
  have CL := Lib.hid (Large_any v l w h)
  have CS := Lib.hid (fun W (hW : Below w.heap.size w W) => shown_any W (T.below hW))
  have C1 := Lib.hid (fun (hs : SmX l) W (hW : Below w.heap.size w W) => Lits_any v l W (h.below hW (Nat.le_refl _)) hs hi (T.below hW))
  have C2 := Lib.hid (fun (hs : SmX l) W (hW : Below w.heap.size w W) => rLits_any v l W (h.below hW (Nat.le_refl _)) hs hi)
  have HLen := Lib.hid (litP_len l)
  obtain ⟨va, vc, rfl, _⟩ := h.slice
  obtain ⟨n, hn⟩ : ∃ n, l.length = n := ⟨_, rfl⟩
  rw [hn] at CL C1 C2 HLen ⊢
  obtain ⟨⟨vs, pn, pe⟩, hp⟩ : ∃ r, litP l = r := ⟨_, rfl⟩
  unfold LitV at C1 C2
  rw [hp] at C1 C2 HLen
  unfold BigR at CL
  simp only at C1 C2 HLen
  clear h hn hp T hi
  have e1 : (pn == pn) = true := beq_self_eq_true _
  have e2 : (pe == pe) = true := beq_self_eq_true _
  go_enter Tryd.func3, Tryd.ntmps3
  go_wp2_with fail
  refine CL.out.mono ?_
  rintro e w1 ⟨b, rfl, HP, hb1⟩
  cases b
  case true =>
    go_wp2_with fail
    refine (CS.out w1 hb1).mono ?_
    rintro e w2 ⟨rfl, hb2⟩
    go_wp2_with fail
    go_ret
    exact ⟨rfl, below_step hb1 hb2⟩
  obtain ⟨hn120, hsm⟩ := HP rfl
  have HS : Hid (SmX l) := Lib.hid fun x hx => by have := hsm x hx; omega
  clear HP hsm
  go_wp2_with fail
  refine (C1.out HS.out w1 hb1).mono ?_
  rintro e w2 ⟨r1, rfl, hr1, hb2⟩
  have hw2 := below_step hb1 hb2
  have HR1 := Lib.hid (fun W (hW : Below w2.heap.size w2 W) => hr1.below hW (Nat.le_refl _))
  clear hr1
  go_wp2_with fail
  refine (C2.out HS.out w2 hw2).mono ?_
  rintro e w3 ⟨r2, rfl, hr2, hb3⟩
  have hw3 := below_step hw2 hb3
  have CSm := Lib.hid (SameIds_any r1 r2 vs vs w3 (HR1.out w3 hb3) hr2 (Nat.le_trans HLen.out (by omega)) (Nat.le_trans HLen.out (by omega)))
  rw [decide_eq_true rfl] at CSm
  clear hr2
  go_wp2_with fail
  refine CSm.out.mono ?_
  rintro e w4 ⟨rfl, hb4⟩
  have hw4 := below_step hw3 hb4
  go_wp2_with fail
  -- MARK1
  refine (CS.out w4 hw4).mono ?_
  rintro e w5 ⟨rfl, hb5⟩
  go_wp2_with fail
  go_ret
  exact ⟨rfl, below_step hw4 hb5⟩
-- MARK9
end Go.Proofs.YtdiinlmeoifgjaaDoor
