/- binds.meaning, Same. -/
import Derived.Test.YtbkkmcfpjpbhaaaVg
namespace Go.Proofs.Ytbkkmcfpjpbhaaa
open Go.RowKit Go.PlainAid

def zeroB : Bd := ⟨[], [], 0, 0⟩
/-- What meaning returns. -/
def meanB (T : List Bd) (n s : List UInt8) : Bd × Int :=
  if (resB T n s).2 = 0 then (T[(resB T n s).1]?.getD default, 0) else if (resB T n s).2 = 10 then (⟨n, [], 0, 0⟩, 0) else (zeroB, (resB T n s).2)
def meanV (r : Bd × Int) : Value := .tuple #[bdA r.1, .int .i64 r.2]
theorem box4F_facts {W : World} {n : Nat} {x0 x1 x2 x3 : Value} {t : TypeId} (h : W.heap[n]? = some (.cells #[x0, x1, x2, x3] t (0, 0))) :
    (W.cell? ⟨n, 0, none⟩ = some x0 ∧ W.cell? ⟨n, 1, none⟩ = some x1 ∧ W.cell? ⟨n, 2, none⟩ = some x2 ∧ W.cell? ⟨n, 3, none⟩ = some x3) ∧
    (W.frozen? ⟨n, 0, none⟩ = false ∧ W.frozen? ⟨n, 1, none⟩ = false ∧ W.frozen? ⟨n, 2, none⟩ = false ∧ W.frozen? ⟨n, 3, none⟩ = false) := by
  refine ⟨⟨?_, ?_, ?_, ?_⟩, ?_, ?_, ?_, ?_⟩ <;> simp [World.cell?, World.frozen?, h]
theorem set_four {W : World} {n : Nat} {x0 x1 x2 x3 : Value} {t : TypeId} {fr : Nat × Nat} (y0 y1 y2 y3 : Value) (h : W.heap[n]? = some (.cells #[x0, x1, x2, x3] t fr)) :
    ((((W.setCell ⟨n, 0, none⟩ y0).setCell ⟨n, 1, none⟩ y1).setCell ⟨n, 2, none⟩ y2).setCell ⟨n, 3, none⟩ y3).heap[n]? = some (.cells #[y0, y1, y2, y3] t fr) := by
  simp [World.setCell, Array.getElem?_modify, h]
theorem below_four {B : Nat} {w W : World} {n : Nat} (h : Below B w W) (hn : B ≤ n) (y0 y1 y2 y3 : Value) :
    Below B w ((((W.setCell ⟨n, 0, none⟩ y0).setCell ⟨n, 1, none⟩ y1).setCell ⟨n, 2, none⟩ y2).setCell ⟨n, 3, none⟩ y3) :=
  (((h.setCell hn _).setCell hn _).setCell hn _).setCell hn _
theorem results_box4T {fn : Func} {p t : Tmp} (h : fn.results = #[.cell p 24, .tmp t]) (tmps : Array Value) (W : World) (n : Nat) (y0 y1 y2 y3 u : Value) (tt : TypeId) (hp : tmps.getD p undef = .pointer (some ⟨n, 0, none⟩)) (hu : tmps.getD t undef = u) (b : W.heap[n]? = some (.cells #[y0, y1, y2, y3] tt (0, 0))) :
    (results fn tmps).run Try.prog W = .ok (.tuple #[.agg #[y0, y1, y2, y3], u]) W := by
  obtain ⟨c0, c1, c2, c3⟩ := box4_facts b
  have hp' : tmps[p]?.getD undef = .pointer (some ⟨n, 0, none⟩) := by simpa using hp
  have hu' : tmps[t]?.getD undef = u := by simpa using hu
  simp [results, h, hp', hu', go_sem, c0, c1, c2, c3]
set_option maxRecDepth 100000 in
set_option maxHeartbeats 3200000 in
theorem meaning_any (v : Value) (T : List Bd) (b : Bd) (w : World) (h : BsAt w v T) (hs : SmB T) (ho : OkB T) (hs2 : b.s.length ≤ 100000) :
    Calls Try.prog 40 #[v, bdA b] w fun e w' => e = .returned (meanV (meanB T b.n b.s)) ∧ Below w.heap.size w w' := by
  obtain ⟨n, s, p, r⟩ := b
  simp only at hs2
  have HV := Lib.hid (fun W (hW : Below w.heap.size w W) => h.below hW (Nat.le_refl _))
  have CR := Lib.hid (fun W (hW : Below w.heap.size w W) => resolve_any v T n s W (h.below hW (Nat.le_refl _)) hs ho hs2)
  have HCa := Lib.hid (res_cases (T := T) n s)
  obtain ⟨a0, c0, hv, _⟩ := h.slice
  obtain ⟨m, hm⟩ : ∃ m, T.length = m := ⟨_, rfl⟩
  have HN := Lib.hid hm
  rw [hm] at hv
  show Calls _ _ #[_, .agg #[.string (str n), .string (str s), .int .i64 p, .int .i64 r]] _ _
  obtain ⟨NN, hNN⟩ : ∃ NN, str n = NN := ⟨_, rfl⟩
  obtain ⟨SS, hSS⟩ : ∃ SS, str s = SS := ⟨_, rfl⟩
  have HNN := Lib.hid hNN
  rw [hNN, hSS] at CR
  rw [hNN, hSS]
  have HM0 : Hid (∀ i x, resB T n s = (i, 0) → T[i]? = some x → meanV (meanB T n s) = .tuple #[bdA x, .int .i64 0]) := Lib.hid fun i x e hx => by
    unfold meanB meanV; rw [e]; simp only; rw [if_pos trivial, hx]; rfl
  have HM1 : Hid (resB T n s = (0, 10) → meanV (meanB T n s) = .tuple #[bdA ⟨n, [], 0, 0⟩, .int .i64 0]) := Lib.hid fun e => by
    unfold meanB meanV; rw [e]; rfl
  have HM2 : Hid (resB T n s = (0, 11) → meanV (meanB T n s) = .tuple #[bdA zeroB, .int .i64 11]) := Lib.hid fun e => by
    unfold meanB meanV; rw [e]; rfl
  obtain ⟨RV, hRV⟩ : ∃ RV, meanV (meanB T n s) = RV := ⟨_, rfl⟩
  rw [hRV] at HM0 HM1 HM2
  show Calls _ _ _ _ fun e w' => e = .returned (meanV (meanB T n s)) ∧ _
  rw [hRV]
  obtain ⟨q, hq⟩ : ∃ q, resB T n s = q := ⟨_, rfl⟩
  rw [hq] at CR HCa HM0 HM1 HM2
  obtain ⟨qi, qe⟩ := q
  unfold resV at CR
  simp only at CR HCa
  clear h hs ho hs2 hNN hSS hm hq hRV
  obtain ⟨W0, hW0⟩ : ∃ W0, W0 = (w.alloc (.cells #[.string NN, .string SS, .int .i64 p, .int .i64 r] 24)).alloc (.cells #[.string ⟨#[]⟩, .string ⟨#[]⟩, .int .i64 0, .int .i64 0] 24) := ⟨_, rfl⟩
  have hb0 : Below w.heap.size w W0 := by rw [hW0]; exact (below_b1 _ _).alloc (below_b1 _ _).size _
  subst hv
  go_enter Try.func40, Try.ntmps40
  go_wp2_with fail
  -- MARK1
  rw [← hW0]
  refine (CR.out _ hb0).mono ?_
  rintro e w1 ⟨rfl, hb1⟩
  have hbw1 : Below w.heap.size w w1 := hb0.trans (hb1.mono hb0.size)
  have hz0 : W0.heap.size = w.heap.size + 2 := by rw [hW0, World.size_alloc, World.size_alloc]
  have hxb : W0.heap[w.heap.size + 1]? = some (.cells #[.string ⟨#[]⟩, .string ⟨#[]⟩, .int .i64 0, .int .i64 0] 24 (0, 0)) := by
    have := World.alloc_heap_new (w.alloc (.cells #[.string NN, .string SS, .int .i64 p, .int .i64 r] 24)) (.cells #[.string ⟨#[]⟩, .string ⟨#[]⟩, .int .i64 0, .int .i64 0] 24)
    rw [World.size_alloc, ← hW0] at this; exact this
  have hxa : W0.heap[w.heap.size]? = some (.cells #[.string NN, .string SS, .int .i64 p, .int .i64 r] 24 (0, 0)) := by
    rw [hW0, ((below_b1 (w.alloc _) _).block w.heap.size (by rw [World.size_alloc]; omega))]; exact World.alloc_heap_new _ _
  have hxb1 := (hb1.block (w.heap.size + 1) (by omega)).trans hxb
  have hxa1 := (hb1.block w.heap.size (by omega)).trans hxa
  obtain ⟨k0, k1, k2, k3⟩ := box4_facts hxa1
  obtain ⟨⟨l0, l1, l2, l3⟩, u0, u1, u2, u3⟩ := box4F_facts hxb1
  have HX1 := Lib.hid hxb1
  have HBW := Lib.hid hbw1
  have hn1 : w.heap.size ≤ w.heap.size + 1 := Nat.le_succ _
  clear hxb hxa hW0 hz0 hxa1 hxb1
  rcases HCa.out with ⟨i, e1, hi, _⟩ | ⟨e1, _⟩ | ⟨e1, _, _⟩
  · obtain ⟨rfl, rfl⟩ := Prod.mk.inj e1
    obtain ⟨x, hx, -⟩ := mem_cand.1 hi
    have HR := Lib.hid (HM0.out _ _ rfl hx)
    obtain ⟨g, off, rfl, hg, c0, c1, c2, c3⟩ := (HV.out w1 hbw1).node hx
    have hi1 : (qi : Int) < (m : Int) := by have := (List.getElem?_eq_some_iff.1 hx).1; have := HN.out; omega
    have hi0 : (0 : Int) ≤ (qi : Int) := Int.natCast_nonneg _
    obtain ⟨xn, xs, xp, xr⟩ := x
    simp only at c0 c1 c2 c3
    clear hx hi hbw1 hb1 hb0 e1
    go_wp2_with fail
    -- MARK2
    (try simp only [Exit.inBlock, Exit.then])
    refine bodyPost_ret (results_box4T rfl _ _ (w.heap.size + 1) _ _ _ _ _ _ rfl rfl (set_four _ _ _ _ HX1.out)) rfl ?_
    exact ⟨by rw [HR.out]; rfl, below_four HBW.out hn1 _ _ _ _⟩
  · obtain ⟨rfl, rfl⟩ := Prod.mk.inj e1
    have HR := Lib.hid (HM1.out rfl)
    clear hbw1 hb1 hb0 e1
    go_wp2_with fail
    -- MARK3
    (try simp only [Exit.inBlock, Exit.then])
    refine bodyPost_ret (results_box4T rfl _ _ (w.heap.size + 1) _ _ _ _ _ _ rfl rfl (set_four _ _ _ _ HX1.out)) rfl ?_
    exact ⟨by rw [HR.out]; unfold bdA bdC; simp only; rw [HNN.out]; rfl, below_four HBW.out hn1 _ _ _ _⟩
  · obtain ⟨rfl, rfl⟩ := Prod.mk.inj e1
    have HR := Lib.hid (HM2.out rfl)
    clear hbw1 hb1 hb0 e1
    go_wp2_with fail
    -- MARK4
    (try simp only [Exit.inBlock, Exit.then])
    refine bodyPost_ret (results_box4T rfl _ _ (w.heap.size + 1) _ _ _ _ _ _ rfl rfl (set_four _ _ _ _ HX1.out)) rfl ?_
    exact ⟨by rw [HR.out]; rfl, below_four HBW.out hn1 _ _ _ _⟩
/-- What Same returns. -/
def sameE (T : List Bd) (a b : Bd) : Bool × Int :=
  if withE T [a.s, b.s] ≠ 0 then (false, withE T [a.s, b.s]) else if (meanB T a.n a.s).2 ≠ 0 then (false, (meanB T a.n a.s).2) else if (meanB T b.n b.s).2 ≠ 0 then (false, (meanB T b.n b.s).2)
  else (decide ((meanB T a.n a.s).1 = (meanB T b.n b.s).1), 0)
def sameV (r : Bool × Int) : Value := .tuple #[.bool r.1, .int .i64 r.2]
theorem ok_with {T : List Bd} {l : List (List UInt8)} (h : withE T l = 0) : OkB T := by
  unfold withE at h
  by_cases h1 : (chkB T).2 = 0
  · exact (chk_iff T).1 h1
  · rw [if_pos h1] at h; exact absurd h h1
theorem bdA_eq (x : Bd) : bdA x = .agg #[.string (str x.n), .string (str x.s), .int .i64 x.p, .int .i64 x.r] := rfl
theorem bd_eq (x y : Bd) (W : World) : (binOp .eql 24 (bdA x) (bdA y)).run Try.prog W = .ok (.bool (decide (x = y))) W := by
  obtain ⟨x0, x1, x2, x3⟩ := x
  obtain ⟨y0, y1, y2, y3⟩ := y
  have h0 : ((str x0).toList = (str y0).toList) ↔ x0 = y0 := by rw [← beq_iff_eq, str_beqV, decide_eq_true_iff]
  have h1 : ((str x1).toList = (str y1).toList) ↔ x1 = y1 := by rw [← beq_iff_eq, str_beqV, decide_eq_true_iff]
  unfold bdA bdC
  simp [go_sem, h0, h1]
  by_cases e0 : x0 = y0 <;> by_cases e1 : x1 = y1 <;> by_cases e2 : x2 = y2 <;> by_cases e3 : x3 = y3 <;> simp [e0, e1, e2, e3]
set_option maxRecDepth 100000 in
set_option maxHeartbeats 3200000 in
theorem Same_any (v : Value) (T : List Bd) (a b : Bd) (w : World) (h : BsAt w v T) (hs : SmB T) (ha : a.s.length ≤ 100000) (hb : b.s.length ≤ 100000) :
    Calls Try.prog 22 #[v, bdA a, bdA b] w fun e w' => e = .returned (sameV (sameE T a b)) ∧ Below w.heap.size w w' := by
  have CW := Lib.hid (fun W v2 (hW : Below w.heap.size w W) (h2 : SsAt W v2 [a.s, b.s]) => checkWith_any v v2 T [a.s, b.s] W (h.below hW (Nat.le_refl _)) hs h2 (by
    intro x hx
    rcases List.mem_cons.1 hx with rfl | hx
    · exact ha
    · rw [List.mem_singleton.1 hx]; exact hb) (by simp))
  have CA := Lib.hid (fun (ho : OkB T) W (hW : Below w.heap.size w W) => meaning_any v T a W (h.below hW (Nat.le_refl _)) hs ho ha)
  have CB := Lib.hid (fun (ho : OkB T) W (hW : Below w.heap.size w W) => meaning_any v T b W (h.below hW (Nat.le_refl _)) hs ho hb)
  have HOk : Hid (withE T [a.s, b.s] = 0 → OkB T) := Lib.hid ok_with
  have HE1 : Hid (withE T [a.s, b.s] ≠ 0 → sameV (sameE T a b) = .tuple #[.bool false, .int .i64 (withE T [a.s, b.s])]) := Lib.hid fun e => by unfold sameE sameV; rw [if_pos e]
  have HE2 : Hid (withE T [a.s, b.s] = 0 → (meanB T a.n a.s).2 ≠ 0 → sameV (sameE T a b) = .tuple #[.bool false, .int .i64 (meanB T a.n a.s).2]) := Lib.hid fun e e2 => by unfold sameE sameV; rw [if_neg (by simpa using e), if_pos e2]
  have HE3 : Hid (withE T [a.s, b.s] = 0 → (meanB T a.n a.s).2 = 0 → (meanB T b.n b.s).2 ≠ 0 → sameV (sameE T a b) = .tuple #[.bool false, .int .i64 (meanB T b.n b.s).2]) := Lib.hid fun e e2 e3 => by unfold sameE sameV; rw [if_neg (by simpa using e), if_neg (by simpa using e2), if_pos e3]
  have HE4 : Hid (withE T [a.s, b.s] = 0 → (meanB T a.n a.s).2 = 0 → (meanB T b.n b.s).2 = 0 → sameV (sameE T a b) = .tuple #[.bool (decide ((meanB T a.n a.s).1 = (meanB T b.n b.s).1)), .int .i64 0]) := Lib.hid fun e e2 e3 => by unfold sameE sameV; rw [if_neg (by simpa using e), if_neg (by simpa using e2), if_neg (by simpa using e3)]
  have HSS : Hid (#[Value.string (str a.s), .string (str b.s)] = ([a.s, b.s].map fun x => Value.string (str x)).toArray) := Lib.hid rfl
  obtain ⟨RV, hRV⟩ : ∃ RV, sameV (sameE T a b) = RV := ⟨_, rfl⟩
  rw [hRV] at HE1 HE2 HE3 HE4 ⊢
  obtain ⟨er, her⟩ : ∃ er, withE T [a.s, b.s] = er := ⟨_, rfl⟩
  rw [her] at CW HOk HE1 HE2 HE3 HE4
  obtain ⟨⟨ra, ea⟩, hra⟩ : ∃ r, meanB T a.n a.s = r := ⟨_, rfl⟩
  obtain ⟨⟨rb, eb⟩, hrb⟩ : ∃ r, meanB T b.n b.s = r := ⟨_, rfl⟩
  rw [hra] at CA HE2 HE3 HE4
  rw [hrb] at CB HE3 HE4
  have HEq := Lib.hid (fun W => bd_eq ra rb W)
  unfold meanV at CA CB
  obtain ⟨an, aS, ap, ar⟩ := a
  obtain ⟨bn, bS, bp, br⟩ := b
  obtain ⟨ran, ras, rap, rar⟩ := ra
  obtain ⟨rbn, rbs, rbp, rbr⟩ := rb
  simp only [bdA_eq] at CA CB HEq HE2 HE3 HE4 CW ⊢
  obtain ⟨AN, hAN⟩ : ∃ S, str an = S := ⟨_, rfl⟩
  obtain ⟨AS, hAS⟩ : ∃ S, str aS = S := ⟨_, rfl⟩
  obtain ⟨BN, hBN⟩ : ∃ S, str bn = S := ⟨_, rfl⟩
  obtain ⟨BS, hBS⟩ : ∃ S, str bS = S := ⟨_, rfl⟩
  obtain ⟨RA, hRA⟩ : ∃ S, str ran = S := ⟨_, rfl⟩
  obtain ⟨SA, hSA⟩ : ∃ S, str ras = S := ⟨_, rfl⟩
  obtain ⟨RB, hRB⟩ : ∃ S, str rbn = S := ⟨_, rfl⟩
  obtain ⟨SB, hSB⟩ : ∃ S, str rbs = S := ⟨_, rfl⟩
  obtain ⟨bq, hbq⟩ : ∃ q, decide ((⟨ran, ras, rap, rar⟩ : Bd) = ⟨rbn, rbs, rbp, rbr⟩) = q := ⟨_, rfl⟩
  rw [hbq] at HEq HE4
  rw [hRA, hSA] at CA HEq
  rw [hRB, hSB] at CB HEq
  rw [hAN, hAS] at CA ⊢
  rw [hBN, hBS] at CB ⊢
  rw [hAS, hBS] at HSS
  obtain ⟨a0, c0, hv, _⟩ := h.slice
  obtain ⟨m, hm⟩ : ∃ m, T.length = m := ⟨_, rfl⟩
  rw [hm] at hv
  subst hv
  obtain ⟨W0, hW0⟩ : ∃ W0, W0 = (w.alloc (.cells #[.string AN, .string AS, .int .i64 ap, .int .i64 ar] 24)).alloc (.cells #[.string BN, .string BS, .int .i64 bp, .int .i64 br] 24) := ⟨_, rfl⟩
  have hb0 : Below w.heap.size w W0 := by rw [hW0]; exact (below_b1 _ _).alloc (below_b1 _ _).size _
  have hz0 : W0.heap.size = w.heap.size + 2 := by rw [hW0, World.size_alloc, World.size_alloc]
  have hxb : W0.heap[w.heap.size + 1]? = some (.cells #[.string BN, .string BS, .int .i64 bp, .int .i64 br] 24 (0, 0)) := by
    have := World.alloc_heap_new (w.alloc (.cells #[.string AN, .string AS, .int .i64 ap, .int .i64 ar] 24)) (.cells #[.string BN, .string BS, .int .i64 bp, .int .i64 br] 24)
    rw [World.size_alloc, ← hW0] at this; exact this
  have hxa : W0.heap[w.heap.size]? = some (.cells #[.string AN, .string AS, .int .i64 ap, .int .i64 ar] 24 (0, 0)) := by
    rw [hW0, ((below_b1 (w.alloc _) _).block w.heap.size (by rw [World.size_alloc]; omega))]; exact World.alloc_heap_new _ _
  have HXA := Lib.hid (fun W (hW : Below W0.heap.size W0 W) => (hW.block w.heap.size (by omega)).trans hxa)
  have HXB := Lib.hid (fun W (hW : Below W0.heap.size W0 W) => (hW.block (w.heap.size + 1) (by omega)).trans hxb)
  have HZ := Lib.hid hz0
  clear h hs ha hb hRV her hra hrb hAN hAS hBN hBS hRA hSA hRB hSB hbq hm hxa hxb hz0
  go_enter Try.func22, Try.ntmps22
  go_wp2_with fail
  -- MARK6
  rw [← hW0]
  have hb0a : Below w.heap.size w (W0.alloc (.cells #[.string AS, .string BS] 9)) := hb0.alloc hb0.size _
  refine (CW.out _ _ hb0a (ss_new W0 [aS, bS] 2 _ rfl _ HSS.out _ HZ.out)).mono ?_
  rintro e w1 ⟨rfl, hb1⟩
  have hbW1 : Below W0.heap.size W0 w1 := (below_b1 W0 _).trans (hb1.mono (below_b1 W0 _).size)
  have hbw1 : Below w.heap.size w w1 := hb0.trans (hbW1.mono hb0.size)
  obtain ⟨k0, k1, k2, k3⟩ := box4_facts (HXA.out _ hbW1)
  obtain ⟨l0, l1, l2, l3⟩ := box4_facts (HXB.out _ hbW1)
  clear hW0 hb0a hb1
  by_cases h0 : er = 0
  · subst h0
    have HOk2 := Lib.hid (HOk.out rfl)
    have HE22 := Lib.hid (HE2.out rfl)
    have HE32 := Lib.hid (HE3.out rfl)
    have HE42 := Lib.hid (HE4.out rfl)
    have CA2 := Lib.hid (CA.out HOk2.out w1 hbw1)
    clear HOk HE1 HE2 HE3 HE4 CA
    go_wp2_with fail
    refine CA2.out.mono ?_
    rintro e w2 ⟨rfl, hb2⟩
    obtain ⟨W3, hW3⟩ : ∃ W3, W3 = w2.alloc (.cells #[.string RA, .string SA, .int .i64 rap, .int .i64 rar] 24) := ⟨_, rfl⟩
    have hb3 : Below w2.heap.size w2 W3 := by rw [hW3]; exact below_b1 _ _
    have hbw3 : Below w.heap.size w W3 := below_step (below_step hbw1 hb2) hb3
    have hbW3 : Below W0.heap.size W0 W3 := below_step (below_step hbW1 hb2) hb3
    by_cases h1 : ea = 0
    · subst h1
      have HE33 := Lib.hid (HE32.out rfl)
      have HE43 := Lib.hid (HE42.out rfl)
      clear HE22 HE32 HE42
      have CB2 := Lib.hid (CB.out HOk2.out W3 hbw3)
      have hx3 : W3.heap[w2.heap.size]? = some (.cells #[.string RA, .string SA, .int .i64 rap, .int .i64 rar] 24 (0, 0)) := by rw [hW3]; exact World.alloc_heap_new _ _
      have hz3 : w2.heap.size < W3.heap.size := by rw [hW3, World.size_alloc]; omega
      have m := box4_facts (HXB.out _ hbW3)
      rw [hW3] at m
      obtain ⟨m0, m1, m2, m3⟩ := m
      go_wp2_with fail
      -- MARK5
      rw [← hW3]
      refine CB2.out.mono ?_
      rintro e w4 ⟨rfl, hb4⟩
      have hbw4 := below_step hbw3 hb4
      by_cases h2 : eb = 0
      · subst h2
        have HR := Lib.hid (HE43.out rfl)
        have hx4 := ((below_b1 w4 (.cells #[.string RB, .string SB, .int .i64 rbp, .int .i64 rbr] 24)).block w2.heap.size (by have := hb4.size; omega)).trans ((hb4.block w2.heap.size hz3).trans hx3)
        have heq := HEq.out
        obtain ⟨n0, n1, n2, n3⟩ := box4_facts hx4
        have hlt : w2.heap.size < w4.heap.size := by have := hb4.size; omega
        clear hx3 hx4
        go_wp2_with fail
        -- MARK4
        go_ret2
        exact ⟨by rw [HR.out]; rfl, hbw4.alloc hbw4.size _⟩
      · have hne : (eb != 0) = true := bne_iff_ne.2 h2
        have HR := Lib.hid (HE33.out h2)
        go_wp2_with fail
        go_ret2
        exact ⟨by rw [HR.out]; rfl, hbw4.alloc hbw4.size _⟩
    · have hne : (ea != 0) = true := bne_iff_ne.2 h1
      have HR := Lib.hid (HE22.out h1)
      go_wp2_with fail
      rw [← hW3]
      go_ret2
      exact ⟨by rw [HR.out]; rfl, hbw3⟩
  · have hne : (er != 0) = true := bne_iff_ne.2 h0
    have HR := Lib.hid (HE1.out h0)
    go_wp2_with fail
    go_ret2
    exact ⟨by rw [HR.out]; rfl, hbw1⟩
-- MARK9
end Go.Proofs.Ytbkkmcfpjpbhaaa
