/- Patterns: the iterator over the spots. -/
import Derived.Test.YtdiinlmeoifgjaaGreatDoorHjb
import Derived.Deep.RegionHeld3
import Derived.Sort.CutIn
import Derived.Deep.AppendLies
import Derived.Sort.QuietIn
namespace Go.Proofs.YtdiinlmeoifgjaaGreatDoor
open Go.RowKit Go.Shelf Go.PlainAid

attribute [local go_sem] Oper.semAt_some

theorem xs_same {w W : World} {g off n c : Nat} {p : List Sx} (h : XsAt w (.slice (some ⟨g, off, none⟩) n c) p) (hb : W.heap[g]? = w.heap[g]?) (hg : g < W.heap.size) : XsAt W (.slice (some ⟨g, off, none⟩) n c) p := by
  obtain ⟨a', n', c', e, hn, hc, h⟩ := h
  obtain ⟨rfl, rfl, rfl⟩ := Value.slice.inj e
  refine ⟨_, n, c, rfl, hn, hc, h.imp id ?_⟩
  rintro ⟨g', off', e', _, hcell⟩
  cases e'
  exact ⟨g, off, rfl, hg, fun j u hj => (World.cell?_of_block (a := ⟨g, off + j, none⟩) hb).trans (hcell j u hj)⟩
theorem infoFr : (Tryz.prog.info? 74).map (fun i => (i.zero, i.size, i.bytes)) = some (some (.agg #[.int .i64 0, .int .i64 0, .int .i64 0, .bool false]), 4, 32) := by kernel_rfl
theorem own_mk4 (w : World) (z : Fr) (e : TypeId) : (w.alloc (.cells (frC z).toArray e)).ownsRow w.heap.size e 4 (.slice (some ⟨w.heap.size, 0, none⟩) 1 1) 1 (frS [z]) :=
  ⟨rfl, .inr ⟨_, 1, (frC z).toArray, rfl, Nat.le_refl _, World.alloc_heap_new _ _, Nat.le_refl _, by unfold maxLen; omega, rfl, rfl⟩⟩
set_option maxRecDepth 100000 in
set_option maxHeartbeats 8000000 in
/-- The iterator's contract. -/
theorem spots_seq (Bp g off n c : Nat) (p : List Sx) (P₀ : Nat → Prop) (N : Nat) (hN : 1 ≤ N) (w : World) (hP : P₀ Bp ∧ P₀ g) (hn₀ : ∀ k, P₀ k → k < w.heap.size)
    (hb : w.heap[Bp]? = some (.cells #[.slice (some ⟨g, off, none⟩) n c] 22 (0, 0)))
    (hX : XsAt w (.slice (some ⟨g, off, none⟩) n c) p) (hT : HdOk p) (hc : ∀ x ∈ p, 0 ≤ x.c) :
    SeqC N Tryz.prog 32 #[.pointer (some ⟨Bp, 0, none⟩)] encS P₀ (fun ys => ys = spP p) (fun pre => pre <+: spP p) (fun pre x => pre ++ [x] <+: spP p) w := by
  intro l J Jx W C0 hW hJ hJx hC hY h0
  have hn : n = p.length := by
    obtain ⟨_, n', _, e, hn, _⟩ := hX
    cases e; exact hn
  have hl : n ≤ 2000 := by rw [hn]; exact hT.short
  have hn2 : 2 ≤ n := by rw [hn]; exact hT.long
  have HPW : Hid (∀ k, P₀ k → k < W.heap.size) := Lib.hid fun k hk => Nat.lt_of_lt_of_le (hn₀ k hk) hW.size
  have HF : Hid (∀ wr : World, (∀ k, P₀ k → wr.heap[k]? = W.heap[k]?) → W.heap.size ≤ wr.heap.size → wr.cell? ⟨Bp, 0, none⟩ = some (.slice (some ⟨g, off, none⟩) n c) ∧ XsAt wr (.slice (some ⟨g, off, none⟩) n c) p) := Lib.hid fun wr hwr hsz => by
    have h1 := (hwr _ hP.1).trans ((hW.block _ (hn₀ _ hP.1)).trans hb)
    have h2 := (hwr _ hP.2).trans (hW.block _ (hn₀ _ hP.2))
    exact ⟨(box1F h1).1, xs_same hX h2 (by have := hn₀ _ hP.2; have := hW.size; omega)⟩
  have CE := Lib.hid (ends_any _ p W (hX.below hW (Nat.le_refl _)) hT.tr hc (by omega))
  have HEn := Lib.hid (fun (wr : World) (r : Value) (h : IntRow wr r ((endsL (kidsX p)).map fun q : Nat => (q : Int))) => ends_cells hn.symm (by omega) h)
  have CF : Hid (∀ W', Calls Tryz.prog 34 #[.int .i64 0] W' fun e w' => e = .returned (.int .i64 2) ∧ w' = W') := Lib.hid fun W' => first_any 0 W' (by omega)
  have HN := Lib.hid hn
  have HT := Lib.hid hT
  have HCs := Lib.hid hC
  have HJ := Lib.hid hJ
  have HY := Lib.hid hY
  have HL : Hid (spP p = [] ++ spM p (n - 2) 2 [(2, n, 0, false)]) := Lib.hid (by rw [hn]; exact (spP_M hT).symm)
  obtain ⟨L, hL⟩ : ∃ L, spP p = L := ⟨_, rfl⟩
  rw [hL] at HL HY ⊢
  obtain ⟨cp, hX0⟩ := HF.out W (fun _ _ => rfl) (Nat.le_refl _)
  obtain ⟨i0, hi, hz0, hz1, hz2⟩ := info_parts2 infoFr
  clear hb hX hT hc hn hJ hY hC hn₀ hP hJx hL hW hX0
  refine callsIn_of_wp Tryz.func32 rfl trivial ?_ rfl
  simp only [Tryz.ntmps32, List.size_toArray, List.length_cons, List.length_nil, Nat.reduceAdd, Nat.reduceSub, Array.replicate_succ, Array.replicate_zero, List.push_toArray, List.append_toArray, List.nil_append, List.cons_append]
  gi_wp2
  refine ⟨trivial, (callsIn_wide.2 CE.out).mono ?_⟩
  rintro e w2 ⟨r, rfl, hr1, hb2, hg2⟩
  obtain ⟨ge, oe, ce, rfl, hgl, hgc⟩ := HEn.out w2 r hr1
  have hgW : W.heap.size ≤ ge := hg2 ge rfl
  have HGC := Lib.hid hgc
  have hJ2 : J [] C0 w2 := HJ.out _ _ _ _ none h0 (grown_noneH hb2) (fun r e => by cases e)
  have hnC : ¬ C0 ge := fun h => by have := HCs.out _ _ _ h0 ge h; omega
  have HPs : Hid (∀ b, P₀ b → w2.heap[b]? = W.heap[b]?) := Lib.hid fun b hb => hb2.block b (HPW.out b hb)
  have hsz2 := hb2.size
  obtain ⟨cp2, _⟩ := HF.out w2 HPs.out hsz2
  clear hr1 hg2 hgc hb2 h0 cp
  gi_wp2
  -- MARK1
  gi_cut [4] from 11 (fun x4 w3 => x4 = .slice (some ⟨w2.heap.size, 0, none⟩) 1 1 ∧ w3 = (w2.alloc (.cells #[.int .i64 2, .int .i64 (n : Int), .int .i64 0, .bool false] 74)).drew)
  case first =>
    gi_region_with (refine ⟨trivial, (callsIn_wide.2 (CF.out _)).mono ?_⟩; rintro e w3 ⟨rfl, rfl⟩)
    all_goals (gi_wp2; gi_meet; exact ⟨rfl, rfl⟩)
  obtain ⟨rfl, rfl⟩ := hcut
  obtain ⟨B, hB⟩ : ∃ B, w2.heap.size = B := ⟨_, rfl⟩
  obtain ⟨w3, hw3⟩ : ∃ w3, (w2.alloc (.cells #[.int .i64 2, .int .i64 (n : Int), .int .i64 0, .bool false] 74)).drew = w3 := ⟨_, rfl⟩
  have HO3 : Hid (w3.ownsRow B 74 4 (.slice (some ⟨B, 0, none⟩) 1 1) 1 (frS [(2, n, 0, false)])) := Lib.hid (by rw [← hw3, ← hB]; exact own_mk4 w2 (2, n, 0, false) _)
  have hg3 : w2.grownBy w3 none := by rw [← hw3]; exact grown_noneH ((below_b1 _ _).drew)
  have hnB : ¬ C0 w2.heap.size := fun h => by have := HCs.out _ _ _ hJ2 _ h; omega
  have hJ3 : J [] C0 w3 := HJ.out _ _ _ _ none hJ2 hg3 (fun r e => by cases e)
  have HP3 : Hid (∀ b, P₀ b → w3.heap[b]? = W.heap[b]?) := Lib.hid fun b hb => (hg3.block b (by have := HPW.out b hb; omega) (fun e => by cases e)).trans (HPs.out b hb)
  have HG3 : Hid (w3.heap[ge]? = w2.heap[ge]?) := Lib.hid (hg3.block ge hgl (fun e => by cases e))
  have hsz3 : B ≤ w3.heap.size := by rw [← hB]; exact hg3.size
  rw [hw3, hB]
  rw [hB] at hgl
  have hBW : W.heap.size ≤ B := by omega
  have HG2 : Hid (∀ (wr : World), wr.heap[ge]? = w2.heap[ge]? → ∀ j, j < n → wr.cell? ⟨ge, oe + j, none⟩ = some (.int .i64 (endX p j : Int))) := Lib.hid fun wr h j hj => (World.cell?_of_block (a := ⟨ge, oe + j, none⟩) h).trans (HGC.out j hj)
  rw [hB] at hnB
  clear hw3 hg3 hJ2 HPs cp2 HGC hB
  gi_wp2
  refine ⟨trivial, (callsIn_wide.2 (CF.out _)).mono ?_⟩
  rintro e w4 ⟨rfl, rfl⟩
  gi_wp2
  -- MARK2
  gi_loopw [4, 5] (fun x4 x5 wr => ∃ (i m : Nat) (st : List Fr) (pre : List Spt) (gs cs : Nat) (C : Nat → Prop), x4 = .slice (some ⟨gs, 0, none⟩) m cs ∧ x5 = .int .i64 (i : Int) ∧ 2 ≤ i ∧ i ≤ n ∧ Hid (st.length = m) ∧ m ≤ 2002 ∧ B ≤ gs ∧ Hid (wr.ownsRow B 74 4 (.slice (some ⟨gs, 0, none⟩) m cs) m (frS st)) ∧ Hid (StOk n i st) ∧ Hid (L = pre ++ spM p (n - i) i st) ∧ J pre C wr ∧ ¬ C ge ∧ ¬ C gs ∧ Hid (wr.heap[ge]? = w2.heap[ge]?) ∧ Hid (∀ b, P₀ b → wr.heap[b]? = W.heap[b]?) ∧ w4.heap.size ≤ wr.heap.size) (fun _ x5 _ => n - (intOf x5).toNat)
  case atStart => exact ⟨2, 1, [(2, n, 0, false)], [], B, 1, C0, rfl, rfl, Nat.le_refl _, hn2, Lib.hid rfl, by omega, Nat.le_refl _, HO3, Lib.hid (StOk.start hn2), HL, hJ3, hnC, hnB, HG3, HP3, Nat.le_refl _⟩
  case round =>
    obtain ⟨i, m, st, pre, gs, cs, C, rfl, rfl, hi2, hin, HM, hm, hBg, HO, HSt, HLs, hJr, hnCe, hnCs, HG, HPr, hzr⟩ := hrel
    have hWr : W.heap.size ≤ wr.heap.size := by omega
    obtain ⟨cp, hXr⟩ := HF.out wr HPr.out hWr
    have HXr := Lib.hid hXr
    have hi0 : (0 : Int) ≤ (i : Int) := Int.natCast_nonneg _
    have hcap := own_cap HO.out
    clear hXr
    by_cases hlt : i < n
    · have hi1 : (i : Int) < (n : Int) := by omega
      have hd3 : decide ((i : Int) < (n : Int)) = true := decide_eq_true hi1
      gi_wp2
      -- MARK3
      gi_loopw [4] (fun x4 w7 => ∃ (m2 : Nat) (st2 : List Fr), x4 = .slice (some ⟨gs, 0, none⟩) m2 cs ∧ Hid (st2.length = m2) ∧ m2 ≤ m ∧ Hid (popS i st2 = popS i st) ∧ Hid (StOk n i st2) ∧ Hid (wr.ownsRow B 74 4 (.slice (some ⟨gs, 0, none⟩) m2 cs) m2 (frS st2)) ∧ w7 = wr) (fun x4 _ => sliceLen x4)
      case atStart => exact ⟨m, st, rfl, HM, Nat.le_refl _, Lib.hid rfl, HSt, HO, rfl⟩
      case round =>
        obtain ⟨m2, st2, rfl, HM2, hm2, HP2, HS2, HO2, rfl⟩ := hrel
        obtain ⟨z, r, hst2⟩ := List.exists_cons_of_ne_nil HS2.out.ne
        subst hst2
        obtain ⟨zf, ze, zd, zb⟩ := z
        obtain ⟨j, hj⟩ : ∃ j, r.length = j := ⟨_, rfl⟩
        have hm2j : m2 = j + 1 := by have := HM2.out; rw [List.length_cons, hj] at this; omega
        subst hm2j
        have hcell : ∀ (q : Nat) (u : Value), (frC (zf, ze, zd, zb))[q]? = some u → wr.cell? ⟨gs, j * 4 + q, none⟩ = some u := fun q u h => by
          have := HO2.out.cells (g := gs) rfl (j * 4 + q) u (by rw [← hj]; exact frS_top _ r h)
          rw [Go.WideShapes.add_plain, Nat.zero_add] at this; exact this
        have k0 := hcell 0 _ rfl
        have k1 := hcell 1 _ rfl
        have k2 := hcell 2 _ rfl
        have k3 := hcell 3 _ rfl
        rw [Nat.add_zero] at k0
        have hj0 : (0 : Int) ≤ (j : Int) := Int.natCast_nonneg _
        have hj1 : (j : Int) < (j : Int) + 1 := by omega
        have hj2 : (j : Int) ≤ (cs : Int) := by omega
        clear hcell
        by_cases hz : ze = i
        · have hze : ((ze : Int) == (i : Int)) = true := by rw [hz]; exact beq_self_eq_true _
          have HP3' : Hid (popS i r = popS i st) := Lib.hid (by rw [← HP2.out, popS_pop hz])
          have HS3 : Hid (StOk n i r) := Lib.hid (HS2.out.pop hlt hz)
          have HO3' : Hid (wr.ownsRow B 74 4 (.slice (some ⟨gs, 0, none⟩) j cs) j (frS r)) := Lib.hid (by
            have h1 := own_cutF HO2.out (m := j) (by omega)
            rw [← hj, frS_cut, hj] at h1; exact h1)
          have HM3 := Lib.hid hj
          clear hz hj
          gi_wp2
          -- MARK4
          exact ⟨⟨j, r, rfl, HM3, by omega, HP3', HS3, HO3', by first | rfl | trivial⟩, by simp [sliceLen]⟩
        · have hze : ((ze : Int) == (i : Int)) = false := beq_eq_false_iff_ne.2 (by omega)
          have HTop : Hid (popS i st = (zf, ze, zd, zb) :: r) := Lib.hid (by rw [← HP2.out, popS_top hz])
          have HJn := Lib.hid hj
          obtain ⟨bf, hbf⟩ : ∃ bf, ((i : Int) == (zf : Int)) = bf := ⟨_, rfl⟩
          have HBf : Hid (decide (i = zf) = bf) := Lib.hid (by rw [← hbf, Bool.eq_iff_iff, decide_eq_true_iff, beq_iff_eq]; omega)
          have hgs : gs < wr.heap.size := by
            rcases own_form HO2.out with ⟨e, _⟩ | ⟨g', c', e, _, hg'⟩
            · cases e
            · cases e; exact hg'
          have ka0 : ∀ o, (wr.alloc o).drew.cell? ⟨gs, j * 4, none⟩ = some (.int .i64 (zf : Int)) := fun o => (World.cell?_alloc_lt _ _ _ hgs).trans k0
          have ka2 : ∀ o, (wr.alloc o).drew.cell? ⟨gs, j * 4 + 2, none⟩ = some (.int .i64 (zd : Int)) := fun o => (World.cell?_alloc_lt _ _ _ hgs).trans k2
          have ka3 : ∀ o, (wr.alloc o).drew.cell? ⟨gs, j * 4 + 3, none⟩ = some (.bool zb) := fun o => (World.cell?_alloc_lt _ _ _ hgs).trans k3
          clear hz hj HP2
          gi_upto_region 8 with fail
          -- MARK5
          gi_cut [7] from 42 (fun x7 w8 => x7 = .pointer (some ⟨wr.heap.size, 0, none⟩) ∧ w8 = (wr.alloc (.cells #[.int .i64 (zd : Int), .bool (zb || bf)] 59)).drew)
          case first =>
            refine wpIn_wide.2 ?_
            cases zb
            · go_region_held3 (fun w => w.cell? ⟨gs, j * 4, none⟩ = some (.int .i64 (zf : Int)) ∧ w.cell? ⟨gs, j * 4 + 2, none⟩ = some (.int .i64 (zd : Int)) ∧ w.cell? ⟨gs, j * 4 + 3, none⟩ = some (.bool false)) (go_keep) (fail)
              all_goals (go_wp2_with fail; go_meet; exact ⟨rfl, rfl⟩)
            · skip
              refine wp_region_held_drew (S := (fun w => w.cell? ⟨gs, j * 4, none⟩ = some (.int .i64 (zf : Int)) ∧ w.cell? ⟨gs, j * 4 + 2, none⟩ = some (.int .i64 (zd : Int)) ∧ w.cell? ⟨gs, j * 4 + 3, none⟩ = some (.bool true))) (by kernel_rfl) (by exact ⟨k0, k2, k3⟩) (fun hHeld => ?_)
              refine wpAnyH_take (i := 0) (v := ?_) rfl (by kernel_rfl) (by kernel_rfl) (by decide +kernel) (fun _ _ _ h => h) (Or.inl ⟨by rfl, ?hy⟩) (by assumption) ?_
              case hy => (intro w hSw; (try dsimp only at hSw); go_simp; try with_reducible rfl)
              simp only [List.getElem_toArray, List.getElem_cons_zero, Act.put, List.setIfInBounds_toArray, List.set_cons_succ, List.set_cons_zero]
              refine wpAnyH_take (i := 1) (v := ?_) rfl (by kernel_rfl) (by kernel_rfl) (by decide +kernel) (fun _ _ _ h => h) (Or.inl ⟨by rfl, ?hy⟩) (by assumption) ?_
              case hy => (intro w hSw; (try dsimp only at hSw); go_simp; try with_reducible rfl)
              simp only [List.getElem_toArray, List.getElem_cons_succ, List.getElem_cons_zero, Act.put, List.setIfInBounds_toArray, List.set_cons_succ, List.set_cons_zero]
              refine wpAnyH_take (i := 2) (v := ?_) rfl (by kernel_rfl) (by kernel_rfl) (by decide +kernel) (fun _ _ _ h => h) (Or.inl ⟨by rfl, ?hy⟩) (by assumption) ?_
              case hy => (intro w hSw; (try dsimp only at hSw); go_simp; try with_reducible rfl)
              simp only [List.getElem_toArray, List.getElem_cons_succ, List.getElem_cons_zero, Act.put, List.setIfInBounds_toArray, List.set_cons_succ, List.set_cons_zero]
              refine wpAnyH_take (i := 3) (v := ?_) rfl (by kernel_rfl) (by kernel_rfl) (by decide +kernel) (fun _ _ _ h => h) (Or.inl ⟨by rfl, ?hy⟩) (by assumption) ?_
              case hy => (intro w hSw; (try dsimp only at hSw); go_simp; try with_reducible rfl)
              simp only [List.getElem_toArray, List.getElem_cons_succ, List.getElem_cons_zero, Act.put, List.setIfInBounds_toArray, List.set_cons_succ, List.set_cons_zero]
              refine wpAnyH_take (i := 4) (v := ?_) rfl (by kernel_rfl) (by kernel_rfl) (by decide +kernel) (fun _ _ _ h => h) (Or.inl ⟨by rfl, ?hy⟩) (by assumption) ?_
              case hy => (intro w hSw; (try dsimp only at hSw); go_simp; try with_reducible rfl)
              simp only [List.getElem_toArray, List.getElem_cons_succ, List.getElem_cons_zero, Act.put, List.setIfInBounds_toArray, List.set_cons_succ, List.set_cons_zero]
              refine wpAnyH_take (i := 5) (v := ?_) rfl (by kernel_rfl) (by kernel_rfl) (by decide +kernel) (fun _ _ _ h => h) (Or.inl ⟨by rfl, ?hy⟩) (by assumption) ?_
              case hy => (intro w hSw; (try dsimp only at hSw); go_simp; try with_reducible rfl)
              simp only [List.getElem_toArray, List.getElem_cons_succ, List.getElem_cons_zero, Act.put, List.setIfInBounds_toArray, List.set_cons_succ, List.set_cons_zero]
              refine wpAnyH_take (i := 6) (v := ?_) rfl (by kernel_rfl) (by kernel_rfl) (by decide +kernel) (fun _ _ _ h => h) (Or.inl ⟨by rfl, ?hy⟩) (by assumption) ?_
              case hy => (intro w hSw; (try dsimp only at hSw); go_simp; try with_reducible rfl)
              simp only [List.getElem_toArray, List.getElem_cons_succ, List.getElem_cons_zero, Act.put, List.setIfInBounds_toArray, List.set_cons_succ, List.set_cons_zero]
              refine wpAnyH_take (i := 7) (v := ?_) rfl (by kernel_rfl) (by kernel_rfl) (by decide +kernel) (fun _ _ _ h => h) (Or.inl ⟨by rfl, ?hy⟩) (by assumption) ?_
              case hy => (intro w hSw; (try dsimp only at hSw); go_simp; try with_reducible rfl)
              simp only [List.getElem_toArray, List.getElem_cons_succ, List.getElem_cons_zero, Act.put, List.setIfInBounds_toArray, List.set_cons_succ, List.set_cons_zero]
              refine wpAnyH_take (i := 8) (v := ?_) rfl (by kernel_rfl) (by kernel_rfl) (by decide +kernel) (fun _ _ _ h => h) (Or.inl ⟨by rfl, ?hy⟩) (by assumption) ?_
              case hy => (intro w hSw; (try dsimp only at hSw); go_simp; try with_reducible rfl)
              simp only [List.getElem_toArray, List.getElem_cons_succ, List.getElem_cons_zero, Act.put, List.setIfInBounds_toArray, List.set_cons_succ, List.set_cons_zero]
              refine wpAnyH_take (i := 9) (v := undef) rfl (by kernel_rfl) (by kernel_rfl) (by decide +kernel) (fun _ _ _ h => h) (Or.inr ⟨by rfl, rfl⟩) (by assumption) ?_
              simp only [List.getElem_toArray, List.getElem_cons_succ, List.getElem_cons_zero, Act.put, List.setIfInBounds_toArray, List.set_cons_succ, List.set_cons_zero]
              refine wpAnyH_take (i := 10) (v := undef) rfl (by kernel_rfl) (by kernel_rfl) (by decide +kernel) (fun _ _ _ h => h) (Or.inr ⟨by rfl, rfl⟩) (by assumption) ?_
              simp only [List.getElem_toArray, List.getElem_cons_succ, List.getElem_cons_zero, Act.put, List.setIfInBounds_toArray, List.set_cons_succ, List.set_cons_zero]
              refine wpAnyH_take (i := 11) (v := undef) rfl (by kernel_rfl) (by kernel_rfl) (by decide +kernel) (fun _ _ _ h => h) (Or.inr ⟨by rfl, rfl⟩) (by assumption) ?_
              simp only [List.getElem_toArray, List.getElem_cons_succ, List.getElem_cons_zero, Act.put, List.setIfInBounds_toArray, List.set_cons_succ, List.set_cons_zero]
              refine wpAnyH_take (i := 12) (v := undef) rfl (by kernel_rfl) (by kernel_rfl) (by decide +kernel) (fun _ _ _ h => h) (Or.inr ⟨by rfl, rfl⟩) (by assumption) ?_
              simp only [List.getElem_toArray, List.getElem_cons_succ, List.getElem_cons_zero, Act.put, List.setIfInBounds_toArray, List.set_cons_succ, List.set_cons_zero]
              refine wpAnyH_take (i := 13) (v := undef) rfl (by kernel_rfl) (by kernel_rfl) (by decide +kernel) (fun _ _ _ h => h) (Or.inr ⟨by rfl, rfl⟩) (by assumption) ?_
              simp only [List.getElem_toArray, List.getElem_cons_succ, List.getElem_cons_zero, Act.put, List.setIfInBounds_toArray, List.set_cons_succ, List.set_cons_zero]
              refine wpAnyH_take (i := 14) (v := undef) rfl (by kernel_rfl) (by kernel_rfl) (by decide +kernel) (fun _ _ _ h => h) (Or.inr ⟨by rfl, rfl⟩) (by assumption) ?_
              simp only [List.getElem_toArray, List.getElem_cons_succ, List.getElem_cons_zero, Act.put, List.setIfInBounds_toArray, List.set_cons_succ, List.set_cons_zero]
              refine wpAnyH_take (i := 15) (v := ?_) rfl (by kernel_rfl) (by kernel_rfl) (by decide +kernel) (fun _ _ _ h => h) (Or.inl ⟨by rfl, ?hy⟩) (by assumption) ?_
              case hy => (intro w hSw; (try dsimp only at hSw); go_simp; try with_reducible rfl)
              simp only [List.getElem_toArray, List.getElem_cons_succ, List.getElem_cons_zero, Act.put, List.setIfInBounds_toArray, List.set_cons_succ, List.set_cons_zero]
              refine wpAnyH_take (i := 16) (v := ?_) rfl (by kernel_rfl) (by kernel_rfl) (by decide +kernel) (fun _ _ _ h => h) (Or.inl ⟨by rfl, ?hy⟩) (by assumption) ?_
              case hy => (intro w hSw; (try dsimp only at hSw); go_simp; try with_reducible rfl)
              simp only [List.getElem_toArray, List.getElem_cons_succ, List.getElem_cons_zero, Act.put, List.setIfInBounds_toArray, List.set_cons_succ, List.set_cons_zero]
              refine wpAnyH_ready (rs := [17]) (by kernel_rfl) (by simp) ?_
              refine AllReadyH.cons rfl (fun K hK => ?_) AllReadyH.nil
              go_simp
              refine hK.out _ _ (by exact ⟨ka0 _, ka2 _, ka3 _⟩) (fun hHeld => ?_)
              clear hK K
              -- MARK7
              refine wpAnyH_ready (rs := [18]) (by kernel_rfl) (by simp) ?_
              refine AllReadyH.cons rfl (fun K hK => ?_) AllReadyH.nil
              go_simp
              refine hK.out _ _ (by first | trivial | exact ⟨ka0 _, ka2 _, ka3 _⟩) (fun hHeld => ?_)
              clear hK K
              refine wpAnyH_done (by kernel_rfl) ?_ _
              all_goals (go_wp2_with fail; go_meet; exact ⟨rfl, rfl⟩)
          obtain ⟨rfl, hw8⟩ := hcut
          -- MARK6
          obtain ⟨sb, hsb⟩ : ∃ sb, (zb || bf) = sb := ⟨_, rfl⟩
          have HSb : Hid ((zb || decide (i = zf)) = sb) := Lib.hid (by rw [HBf.out, hsb])
          obtain ⟨bs, hbs⟩ : ∃ bs, wr.heap.size = bs := ⟨_, rfl⟩
          have hgeW : ge < bs := by rw [← hbs]; omega
          have hnCb : ¬ C bs := fun h => by have := HCs.out _ _ _ hJr bs h; omega
          have h8g : wr.grownBy wc none := by rw [hw8]; exact grown_noneH ((below_b1 _ _).drew)
          have HW8 : Hid (SpW B gs (j + 1) cs ge bs P₀ C W w2 J pre zd sb ((zf, ze, zd, zb) :: r) wc) := Lib.hid (by
            refine ⟨HO2.out.kept h8g (.inr (by simp [Value.ownBlock])), ?_, HJ.out _ _ _ _ none hJr h8g (fun r e => by cases e), (h8g.block ge (by omega) (fun e => by cases e)).trans HG.out, fun b hb => (h8g.block b (by have := HPW.out b hb; omega) (fun e => by cases e)).trans (HPr.out b hb), by have := h8g.size; omega, by have := h8g.size; omega⟩
            rw [hw8, ← hbs, hsb]; exact World.alloc_heap_new wr _)
          have hgsb : gs ≠ bs := by omega
          have hgse : gs ≠ ge := by omega
          have hbse : bs ≠ ge := by omega
          have hbsW : W.heap.size ≤ bs := by omega
          have hgsW : W.heap.size ≤ gs := by omega
          rw [hbs]
          clear hw8 h8g ka0 ka2 ka3 k0 k1 k2 k3 hsb cp
          obtain ⟨x, hx⟩ : ∃ x, p[i]? = some x := ⟨_, List.getElem?_eq_getElem (by rw [← HN.out]; exact hlt)⟩
          have HX := Lib.hid hx
          have HDx : Hid (dotAt p i = dotsX x) := Lib.hid (dotAt_of hx)
          have HLx : Hid (lstAt p i = decide (x.k = 4)) := Lib.hid (lstAt_of hx)
          have CEl := Lib.hid (fun W' => isEll_any x W')
          obtain ⟨dx, hdx⟩ : ∃ dx, dotsX x = dx := ⟨_, rfl⟩
          rw [hdx] at CEl HDx
          have HNd : Hid (∀ wx, SpW B gs (j + 1) cs ge bs P₀ C W w2 J pre zd sb ((zf, ze, zd, zb) :: r) wx → wx.cell? ⟨Bp, 0, none⟩ = some (.slice (some ⟨g, off, none⟩) n c) ∧ wx.cell? ⟨g, off + i * 8, none⟩ = some (.int .i64 x.k) ∧ wx.cell? ⟨g, off + i * 8 + 1, none⟩ = some (.int .i64 x.c) ∧ wx.cell? ⟨g, off + i * 8 + 2, none⟩ = some (.int .i64 x.n) ∧ wx.cell? ⟨g, off + i * 8 + 3, none⟩ = some (.string (str x.s)) ∧
              wx.cell? ⟨g, off + i * 8 + 4, none⟩ = some (.string (str x.p)) ∧ wx.cell? ⟨g, off + i * 8 + 5, none⟩ = some (.int .i64 x.f) ∧ wx.cell? ⟨g, off + i * 8 + 6, none⟩ = some (.int .i64 x.t) ∧ wx.cell? ⟨g, off + i * 8 + 7, none⟩ = some (.int .i64 x.o)) := Lib.hid fun wx h => by
            obtain ⟨q1, q2⟩ := HF.out wx h.pz h.sz
            obtain ⟨g', o', e', _, q3⟩ := q2.node HX.out
            cases e'
            exact ⟨q1, q3⟩
          have CEx : Hid (∀ W', Calls Tryz.prog 23 #[.agg #[.int .i64 x.k, .int .i64 x.c, .int .i64 x.n, .string (str x.s), .string (str x.p), .int .i64 x.f, .int .i64 x.t, .int .i64 x.o]] W' fun e w' => e = .returned (.bool dx) ∧ Below W'.heap.size W' w') := Lib.hid fun W' => CEl.out W'
          obtain ⟨S1, hS1⟩ : ∃ S, str x.s = S := ⟨_, rfl⟩
          obtain ⟨S2, hS2⟩ : ∃ S, str x.p = S := ⟨_, rfl⟩
          rw [hS1, hS2] at CEx HNd
          clear hx hdx CEl hS1 hS2
          obtain ⟨t1, t3, t3f, b0, b1, b0f⟩ := HW8.out.top HJn.out
          obtain ⟨cp8, y0, y1, y2, y3, y4, y5, y6, y7⟩ := HNd.out wc HW8.out
          gi_upto_region 9 with fail
          -- MARK7
          gi_cut [] from 59 (fun w9 => Hid (SpW B gs (j + 1) cs ge bs P₀ C W w2 J pre zd sb ((zf, ze, zd, zb || dx) :: r) w9))
          case first =>
            cases zb
            · gi_wp2
              refine ⟨trivial, (callsIn_wide.2 (CEx.out _)).mono ?_⟩
              rintro e w9 ⟨rfl, hb9⟩
              have H9 := HW8.out.below HJ.out HPW.out hb9
              obtain ⟨_, t3, t3f, _, _, _⟩ := H9.top HJn.out
              gi_wp2
              gi_meet
              exact Lib.hid (H9.dots HJ.out HPW.out HJn.out hgsW hnCs hgsb hgse)
            · gi_wp2
              refine ⟨trivial, ?_⟩
              gi_wp2
              gi_meet
              exact Lib.hid (HW8.out.dots HJ.out HPW.out HJn.out hgsW hnCs hgsb hgse)
          -- MARK8
          have H9 := Lib.hid hcut.out
          obtain ⟨t1, _, _, b0, b1, b0f⟩ := H9.out.top HJn.out
          have HNe : Hid (∀ wx {dd st'}, SpW B gs (j + 1) cs ge bs P₀ C W w2 J pre dd sb st' wx → wx.cell? ⟨Bp, 0, none⟩ = some (.slice (some ⟨g, off, none⟩) n c) ∧ XsAt wx (.slice (some ⟨g, off, none⟩) n c) p ∧ wx.cell? ⟨ge, oe + i, none⟩ = some (.int .i64 (endX p i : Int))) := Lib.hid fun wx dd st' h => by
            obtain ⟨q1, q2⟩ := HF.out wx h.pz h.sz
            exact ⟨q1, q2, HG2.out wx h.g i hlt⟩
          obtain ⟨cp9, hX9, he9⟩ := HNe.out wc H9.out
          obtain ⟨hnx1, hnx2⟩ := HT.out.toPatOk.end_bd (i := i) (by rw [← HN.out]; exact hlt)
          rw [← HN.out] at hnx2
          obtain ⟨nx, hnx⟩ : ∃ nx, endX p i = nx := ⟨_, rfl⟩
          rw [hnx] at he9 hnx1 hnx2
          have HNx := Lib.hid hnx
          have hzb := HSt.out
          have hze9 : ze ≤ n := by
            have h1 := HS2.out.bd (zf, ze, zd, zb) (by simp)
            exact h1.2.1
          have hzd9 : zd ≤ i := by
            have h1 := HS2.out.bd (zf, ze, zd, zb) (by simp)
            exact h1.2.2
          have HX9 := Lib.hid hX9
          clear hcut hnx hzb hX9 t3 t3f y0 y1 y2 y3 y4 y5 y6 y7 cp8
          have hnx0 : (0 : Int) ≤ (nx : Int) := Int.natCast_nonneg _
          -- the depth
          obtain ⟨D, hD⟩ : ∃ D, dpt p i ze zd = D := ⟨_, rfl⟩
          have hDb : D ≤ i + 1 := by rw [← hD]; unfold dpt; split <;> omega
          obtain ⟨q, hq⟩ : ∃ q, (decide (nx < ze) && dotAt p nx) = q := ⟨_, rfl⟩
          have HDq : Hid (D = if q = true then zd + 1 else zd) := Lib.hid (by
            rw [← hD, ← hq]; unfold dpt; rw [HNx.out]; simp)
          have HDD := Lib.hid hD
          clear hD
          gi_upto_region 11 with fail
          -- MARK8a
          gi_cut [89] from 77 (fun x89 w9 => x89 = .bool q ∧ Hid (SpW B gs (j + 1) cs ge bs P₀ C W w2 J pre zd sb ((zf, ze, zd, zb || dx) :: r) w9))
          case first =>
            by_cases hlt9 : nx < ze
            · have hd9 : decide ((nx : Int) < (ze : Int)) = true := decide_eq_true (by omega)
              obtain ⟨y, hy⟩ : ∃ y, p[nx]? = some y := ⟨_, List.getElem?_eq_getElem (by rw [← HN.out]; omega)⟩
              obtain ⟨g', o', e', _, z0, z1, z2, z3, z4, z5, z6, z7⟩ := HX9.out.node hy
              cases e'
              have hnx3 : (nx : Int) < (n : Int) := by omega
              have CEy : Hid (∀ W', Calls Tryz.prog 23 #[.agg #[.int .i64 y.k, .int .i64 y.c, .int .i64 y.n, .string (str y.s), .string (str y.p), .int .i64 y.f, .int .i64 y.t, .int .i64 y.o]] W' fun e w' => e = .returned (.bool q) ∧ Below W'.heap.size W' w') := Lib.hid fun W' => by
                have h1 := isEll_any y W'
                have h2 : dotsX y = q := by rw [← hq, dotAt_of hy, decide_eq_true hlt9, Bool.true_and]
                rw [h2] at h1; exact h1
              obtain ⟨S3, hS3⟩ : ∃ S, str y.s = S := ⟨_, rfl⟩
              obtain ⟨S4, hS4⟩ : ∃ S, str y.p = S := ⟨_, rfl⟩
              rw [hS3] at z3 CEy
              rw [hS4] at z4 CEy
              clear hy hS3 hS4 hq
              gi_wp2
              refine ⟨trivial, (callsIn_wide.2 (CEy.out _)).mono ?_⟩
              rintro e w9 ⟨rfl, hb9⟩
              have H10 := Lib.hid (H9.out.below HJ.out HPW.out hb9)
              gi_wp2
              gi_meet
              exact ⟨rfl, H10⟩
            · have hd9 : decide ((nx : Int) < (ze : Int)) = false := decide_eq_false (by omega)
              have hnl9 : ¬ nx < ze := hlt9
              have hqf : q = false := by rw [← hq, decide_eq_false hlt9, Bool.false_and]
              subst hqf
              clear hlt9 hq
              gi_wp2
              refine ⟨trivial, ?_⟩
              gi_wp2
              gi_meet
              exact ⟨rfl, H9⟩
          obtain ⟨rfl, H11⟩ := hcut
          clear t1 b0 b1 b0f cp9 he9 hq
          obtain ⟨_, _, _, b0, b1, b0f⟩ := H11.out.top HJn.out
          gi_upto_if 89 with fail
          gi_cut [] from 90 (fun w9 => Hid (SpW B gs (j + 1) cs ge bs P₀ C W w2 J pre D sb ((zf, ze, zd, zb || dx) :: r) w9))
          case first =>
            have hwz : IntKind.i64.wrap ((zd : Int) + 1) = (zd : Int) + 1 := by rw [IntKind.wrap_i64]; omega
            have hwz2 : wrap64 ((zd : Int) + 1) = (zd : Int) + 1 := by unfold wrap64; omega
            cases q
            · have HR : Hid (SpW B gs (j + 1) cs ge bs P₀ C W w2 J pre D sb ((zf, ze, zd, zb || dx) :: r) wc) := Lib.hid (by rw [HDq.out, if_neg (by simp)]; exact H11.out)
              gi_wp2
              gi_meet
              exact HR
            · have HR : Hid (SpW B gs (j + 1) cs ge bs P₀ C W w2 J pre D sb ((zf, ze, zd, zb || dx) :: r) (wc.setCell ⟨bs, 0, none⟩ (.int .i64 ((zd : Int) + 1)))) := Lib.hid (by
                have h1 := H11.out.deep (d' := zd + 1) HJ.out HPW.out hbsW hnCb (Ne.symm hgsb) hbse
                rw [HDq.out, if_pos rfl]; rw [Int.natCast_add] at h1; exact h1)
              gi_wp2
              gi_meet
              exact HR
          -- MARK8b
          have H12 := Lib.hid hcut.out
          obtain ⟨_, _, _, b0, b1, b0f⟩ := H12.out.top HJn.out
          obtain ⟨cp12, hX12, he12⟩ := HNe.out wc H12.out
          have HLe : Hid (L = (pre ++ [(i, D, sb)]) ++ spM p (n - (i + 1)) (i + 1) (nxS p i ((zf, ze, zd, zb) :: r))) := Lib.hid (by
            rw [HLs.out, spM_top hlt HTop.out]
            simp only
            rw [HDD.out, HSb.out, List.append_assoc]; rfl)
          have hG : pre ++ [(i, D, sb)] <+: L := ⟨_, HLe.out.symm⟩
          have hszc : bs < wc.heap.size := (Array.getElem?_eq_some_iff.1 H12.out.box).1
          have hw4c : w4.heap.size ≤ wc.heap.size := by omega
          obtain ⟨fn, tmps, assign, body, hy, hR⟩ := HY.out pre (i, D, sb) C wc H12.out.j H12.out.sz hG
          have hcg := H12.out.ge
          dsimp only [encS] at hy
          clear hcut hG hX12 he12
          gi_wp2
          -- MARK8c
          refine hR.mono ?_
          rintro e W3 ⟨C', ⟨rfl, hJ3, hk3⟩ | ⟨rfl, hJx3⟩⟩
          · obtain ⟨k1, k2, k3⟩ := hk3
            have hgszc : gs < wc.heap.size := (H12.out.own.lt gs rfl).2
            have HO3w : Hid (W3.ownsRow B 74 4 (.slice (some ⟨gs, 0, none⟩) (j + 1) cs) (j + 1) (frS ((zf, ze, zd, zb || dx) :: r))) := Lib.hid (by
              have h1 := H12.out.own
              obtain ⟨q1, q2⟩ := h1
              refine ⟨q1, ?_⟩
              rcases q2 with q2 | ⟨g', cap, cur, e1, q3, q4, q5⟩
              · exact .inl q2
              · refine .inr ⟨g', cap, cur, e1, q3, ?_, q5⟩
                obtain ⟨e2, _⟩ := Value.slice.inj e1
                cases e2
                exact (k2 gs (.inr ⟨hgsW, hgszc, hnCs⟩)).trans q4)
            have HB3 : Hid (W3.heap[bs]? = some (.cells #[.int .i64 (D : Int), .bool sb] 59 (0, 0))) := Lib.hid ((k2 bs (.inr ⟨hbsW, hszc, hnCb⟩)).trans H12.out.box)
            have HG3w : Hid (W3.heap[ge]? = w2.heap[ge]?) := Lib.hid ((k2 ge (.inr ⟨hgW, hcg, hnCe⟩)).trans H12.out.g)
            have HP3w : Hid (∀ b, P₀ b → W3.heap[b]? = W.heap[b]?) := Lib.hid fun b hb => (k2 b (.inl hb)).trans (H12.out.pz b hb)
            have hnCe3 := k3 ge hcg hnCe
            have hnCs3 := k3 gs hgszc hnCs
            have hszW3 := Nat.le_trans H12.out.sz k1
            have hsz43 := Nat.le_trans hw4c k1
            obtain ⟨cp3, hX3⟩ := HF.out W3 HP3w.out hszW3
            have he3 := HG2.out W3 HG3w.out i hlt
            rw [HNx.out] at he3
            obtain ⟨g', o', e', _, y0, _⟩ := hX3.node HX.out
            cases e'
            obtain ⟨b0, _, _, _⟩ := box2F HB3.out
            have hwi : IntKind.i64.wrap ((i : Int) + 1) = (i : Int) + 1 := by rw [IntKind.wrap_i64]; omega
            have hStN := HS2.out.next (p := p) (z := (zf, ze, zd, zb)) (r := r) (by rw [HNx.out]; exact hnx2) hlt
            have HStN := Lib.hid hStN
            have HLst : Hid (nxS p i ((zf, ze, zd, zb) :: r) = (if lstAt p i = true then [(i + 1, nx, D, false)] else []) ++ (zf, ze, zd, zb || dx) :: r) := Lib.hid (by
              unfold nxS; simp only; rw [HNx.out, HDD.out, HDx.out])
            have hrl := HJn.out
            clear k1 k2 k3 hX3 hStN b1 b0f cp12
            by_cases hk4 : x.k = 4
            · have hkb : (x.k == 4) = true := by rw [hk4]; rfl
              have HNX : Hid (nxS p i ((zf, ze, zd, zb) :: r) = (i + 1, nx, D, false) :: (zf, ze, zd, zb || dx) :: r) := Lib.hid (by rw [HLst.out, HLx.out, decide_eq_true hk4, if_pos rfl]; rfl)
              dsimp only
              gi_upto_region 15 with fail
              -- MARK8e
              have hlenN := HStN.out.len
              rw [HNX.out] at hlenN
              simp only [List.length_cons, hrl] at hlenN
              have hO5 : ((W3.alloc (.cells #[.int .i64 ((i : Int) + 1), .int .i64 (nx : Int), .int .i64 (D : Int), .bool false] 74)).drew).ownsRow B 74 4 (.slice (some ⟨gs, 0, none⟩) (j + 1) cs) (j + 1) (frS ((zf, ze, zd, zb || dx) :: r)) := World.ownsRow.alloc (w := W3) HO3w.out _
              have hone : ∀ u ∈ [Value.int .i64 ((i : Int) + 1), .int .i64 (nx : Int), .int .i64 (D : Int), .bool false], u.oneCell' = true := by intro u hu; simp at hu; rcases hu with rfl | rfl | rfl | rfl <;> rfl
              have HFS : Hid (frS ((zf, ze, zd, zb || dx) :: r) ++ [Value.int .i64 ((i : Int) + 1), .int .i64 (nx : Int), .int .i64 (D : Int), .bool false] = frS ((i + 1, nx, D, false) :: (zf, ze, zd, zb || dx) :: r)) := Lib.hid (by rw [frS_cons (i + 1, nx, D, false)]; unfold frC; simp)
              have hBW3 : B ≤ W3.heap.size := by omega
              have hbnd : (j + 1 + 1) * 32 ≤ 140737488355328 := by omega
              have hgb : W3.grownBy ((W3.alloc (.cells #[.int .i64 ((i : Int) + 1), .int .i64 (nx : Int), .int .i64 (D : Int), .bool false] 74)).drew) none := grown_noneH ((below_b1 W3 _).drew)
              have HKP : Hid (∀ w5, ((W3.alloc (.cells #[.int .i64 ((i : Int) + 1), .int .i64 (nx : Int), .int .i64 (D : Int), .bool false] 74)).drew).grownBy w5 (Value.slice (some ⟨gs, 0, none⟩) (j + 1) cs).ownBlock → ∀ b, b < W3.heap.size → b ≠ gs → w5.heap[b]? = W3.heap[b]?) := Lib.hid fun w5 h b hb hne => (h.block b (Nat.lt_of_lt_of_le hb hgb.size) (fun e => hne (Option.some.inj e))).trans (hgb.block b hb (fun e => by cases e))
              have HKs : Hid (∀ w5, ((W3.alloc (.cells #[.int .i64 ((i : Int) + 1), .int .i64 (nx : Int), .int .i64 (D : Int), .bool false] 74)).drew).grownBy w5 (Value.slice (some ⟨gs, 0, none⟩) (j + 1) cs).ownBlock → W3.heap.size ≤ w5.heap.size) := Lib.hid fun w5 h => Nat.le_trans hgb.size h.size
              have HKJ : Hid (∀ w5, ((W3.alloc (.cells #[.int .i64 ((i : Int) + 1), .int .i64 (nx : Int), .int .i64 (D : Int), .bool false] 74)).drew).grownBy w5 (Value.slice (some ⟨gs, 0, none⟩) (j + 1) cs).ownBlock → J (pre ++ [(i, D, sb)]) C' w5) := Lib.hid fun w5 h => HJ.out _ _ _ _ _ (HJ.out _ _ _ _ none hJ3 hgb (fun r e => by cases e)) h (fun r e => by cases e; exact ⟨hgsW, hnCs3⟩)
              have HNn : Hid (¬ C' (W3.heap.size + 1)) := Lib.hid fun h => by have := HCs.out _ _ _ hJ3 _ h; omega
              have hsz5 : ((W3.alloc (.cells #[.int .i64 ((i : Int) + 1), .int .i64 (nx : Int), .int .i64 (D : Int), .bool false] 74)).drew).heap.size = W3.heap.size + 1 := World.size_alloc W3 _
              have HBs := Lib.hid (Array.getElem?_eq_some_iff.1 HB3.out).1
              have hgsW3 : gs < W3.heap.size := (HO3w.out.lt gs rfl).2
              have hcg3 : ge < W3.heap.size := by omega
              refine wpIn_wide.2 ?_
              clear hgb
              have hbsz : B ≤ ((W3.alloc (.cells #[.int .i64 ((i : Int) + 1), .int .i64 (nx : Int), .int .i64 (D : Int), .bool false] 74)).drew).heap.size := by rw [hsz5]; omega
              go_region_held3 (fun w => w.cell? ⟨ge, oe + i, none⟩ = some (.int .i64 (nx : Int)) ∧ w.cell? ⟨bs, 0, none⟩ = some (.int .i64 (D : Int))) (go_keep) (first
                | (refine step_append_lies _ rfl _ _ 75 rfl B 74 i0 (.agg #[.int .i64 0, .int .i64 0, .int .i64 0, .bool false]) 4 32 Tryz.underlying75 hi hz0 hz1 hz2 rfl (by decide) _ _ _ rfl hO5 ⟨W3.heap.size, 0, none⟩ 1 1 [Value.int .i64 ((i : Int) + 1), .int .i64 (nx : Int), .int .i64 (D : Int), .bool false] rfl rfl (new_cells4 W3 _ _ _ _ _ _ rfl) hone (by omega) (by unfold maxLen; omega) hbnd hbsz (W3.heap.size + 1) hsz5 ?_; intro g5 c5 w5 hown5 hgrow5 hat5 hlt5; rw [HFS.out] at hown5; have HO5 := Lib.hid hown5; clear hown5; have hs51 : w5.cell? ⟨ge, oe + i, none⟩ = some (.int .i64 (nx : Int)) := (World.cell?_of_block (a := ⟨ge, oe + i, none⟩) (HKP.out w5 hgrow5 ge hcg3 hgse.symm)).trans he3; have hs52 : w5.cell? ⟨bs, 0, none⟩ = some (.int .i64 (D : Int)) := (World.cell?_of_block (a := ⟨bs, 0, none⟩) (HKP.out w5 hgrow5 bs HBs.out hgsb.symm)).trans b0))
              -- MARK8g
              all_goals gi_wp2
              -- MARK8h
              have hnC5 : ¬ C' g5 := by
                rcases hat5 with e | e
                · rw [← Option.some.inj e]; exact hnCs3
                · rw [e]; exact HNn.out
              exact ⟨⟨i + 1, j + 1 + 1, (i + 1, nx, D, false) :: (zf, ze, zd, zb || dx) :: r, pre ++ [(i, D, sb)], g5, c5, C', rfl, by go_num, by omega, by omega, Lib.hid (by rw [List.length_cons, List.length_cons, HJn.out]), by omega, (HO5.out.lt g5 rfl).1, HO5, Lib.hid (by rw [← HNX.out]; exact HStN.out), Lib.hid (by rw [← HNX.out]; exact HLe.out), HKJ.out _ hgrow5, hnCe3, hnC5, Lib.hid ((HKP.out w5 hgrow5 ge hcg3 hgse.symm).trans HG3w.out), Lib.hid (fun b hb => (HKP.out w5 hgrow5 b (by have := HPW.out b hb; omega) (by have := HPW.out b hb; omega)).trans (HP3w.out b hb)), Nat.le_trans hsz43 (HKs.out w5 hgrow5)⟩, by simp [intOf]; omega⟩
            · have hkb : (x.k == 4) = false := beq_eq_false_iff_ne.2 hk4
              have HNX : Hid (nxS p i ((zf, ze, zd, zb) :: r) = (zf, ze, zd, zb || dx) :: r) := Lib.hid (by rw [HLst.out, HLx.out, decide_eq_false hk4, if_neg (by simp)]; rfl)
              gi_wp2
              -- MARK8f
              exact ⟨⟨i + 1, j + 1, (zf, ze, zd, zb || dx) :: r, pre ++ [(i, D, sb)], gs, cs, C', rfl, by go_num, by omega, by omega, Lib.hid (by rw [List.length_cons, HJn.out]), by omega, hBg, HO3w, Lib.hid (by rw [← HNX.out]; exact HStN.out), Lib.hid (by rw [← HNX.out]; exact HLe.out), hJ3, hnCe3, hnCs3, HG3w, HP3w, hsz43⟩, by simp [intOf]; omega⟩
          · gi_wp2
            refine bodyPost_ret (results_none rfl _ _ _) rfl ?_
            exact ⟨⟨_, rfl⟩, .inr ⟨_, _, ⟨_, HLe.out.symm⟩, hJx3⟩⟩
    · obtain rfl : i = n := by omega
      have hd3 : decide ((i : Int) < (i : Int)) = false := decide_eq_false (by omega)
      have hnl : ¬ i < i := Nat.lt_irrefl _
      have HLp : Hid (L = pre) := Lib.hid (by rw [HLs.out, Nat.sub_self]; show pre ++ [] = pre; rw [List.append_nil])
      gi_wp2
      -- MARKe
      go_end0
      exact ⟨⟨_, rfl⟩, .inl ⟨pre, C, HLp.out.symm, hJr⟩⟩
-- MARKZ9
end Go.Proofs.YtdiinlmeoifgjaaGreatDoor
