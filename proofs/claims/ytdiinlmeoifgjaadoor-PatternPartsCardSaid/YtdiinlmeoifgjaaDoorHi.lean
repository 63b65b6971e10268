/- Patterns: the iterator over the elements of a list. -/
import Derived.RangeFuncNested
import Derived.RangeFuncBound
import Derived.RangeFuncCalls
import Derived.RangeFuncLeaves
import Derived.Shelf.Abstract
import Derived.Shelf.RegionOpen
import Derived.WalkKit
import Derived.WalkMore
import Derived.BigGuardPart
import Derived.OwnWalkIn
import Derived.TacticsInMore
import Derived.LoopNIn
import Derived.LoopIn
import Derived.BigGuardPartIn
import Derived.Test.YtdiinlmeoifgjaaDoorHr
import Derived.Test.YtdiinlmeoifgjaaDoorHh
namespace Go.Proofs.YtdiinlmeoifgjaaDoor
open Go.RowKit Go.Shelf Go.PlainAid

attribute [local go_sem] Oper.semAt_some

theorem grown_noneH {W W' : World} (h : Below W.heap.size W W') : W.grownBy W' none := ⟨h.os, h.tape, h.output, h.size, fun k hk _ => h.block k hk⟩
theorem take_snocH {l : List Nat} {k x : Nat} (h : l[k]? = some x) : l.take k ++ [x] = l.take (k + 1) := by
  rw [List.take_add_one, h]; rfl
/-- The ends in a row of the iterator's. -/
theorem ends_cells {w : World} {r : Value} {p : List Sx} {n : Nat} (hn : p.length = n) (h0 : 0 < n) (h : IntRow w r ((endsL (kidsX p)).map fun q : Nat => (q : Int))) :
    ∃ g off c, r = .slice (some ⟨g, off, none⟩) n c ∧ g < w.heap.size ∧ ∀ j, j < n → w.cell? ⟨g, off + j, none⟩ = some (.int .i64 (endX p j : Int)) := by
  obtain ⟨a, c, e, h⟩ := h
  have hl : ((endsL (kidsX p)).map fun q : Nat => (q : Int)).length = n := by rw [List.length_map, endsL_len, kidsX_len, hn]
  rw [hl] at e
  rcases h with h | ⟨g, off, rfl, hg, hc⟩
  · rw [h] at hl; simp at hl; omega
  · refine ⟨g, off, c, e, hg, fun j hj => hc j _ ?_⟩
    rw [List.getElem?_map, endsL_at (by rw [kidsX_len, hn]; exact hj)]; rfl
/-- What the list's elements are. -/
structure ElOk (p : List Sx) (q : Nat) (S : List Nat) (f e : Nat) : Prop where
  first : S = [] ∧ f = e ∨ S[0]? = some f
  step : ∀ (k x : Nat), S[k]? = some x → x < p.length ∧ x < e ∧ (endX p x ≤ e ∧ x < endX p x) ∧ (S[k + 1]? = some (endX p x) ∨ endX p x = e ∧ S.length = k + 1)
theorem elX_ok {p : List Sx} (h : PatOk p) {q : Nat} (hq : q < p.length) (hs : skp q ≤ cnt (kidsX p) q) : ElOk p q (elX p q) (posK (kidsX p) q (skp q)) (endX p q) := by
  have hk : q < (kidsX p).length := by rw [kidsX_len]; exact hq
  have hat : ∀ k, (elX p q)[k]? = if skp q + k < cnt (kidsX p) q then some (posK (kidsX p) q (skp q + k)) else none := fun k => by
    unfold elX
    rw [List.getElem?_drop]
    split
    · rename_i h1; exact kidsN_at h1
    · rename_i h1; exact List.getElem?_eq_none (by rw [kidsN_len]; omega)
  have hlen : (elX p q).length = cnt (kidsX p) q - skp q := by unfold elX; rw [List.length_drop, kidsN_len]
  refine ⟨?_, fun k x hx => ?_⟩
  · by_cases h0 : skp q < cnt (kidsX p) q
    · right; rw [hat, if_pos (by omega)]; rfl
    · left
      refine ⟨List.length_eq_zero_iff.1 (by rw [hlen]; omega), ?_⟩
      rw [show skp q = cnt (kidsX p) q by omega]; exact h.tr.pos_end hk
  · rw [hat] at hx
    split at hx
    · rename_i h1
      cases hx
      obtain ⟨s1, s2, s3⟩ := h.tr.pos_step hk h1
      have s4 := h.tr.pos_next hk h1
      have s5 := h.tr.pos_le hk (k := skp q + k + 1) (m := cnt (kidsX p) q) (by omega) (Nat.le_refl _)
      rw [h.tr.pos_end hk] at s5
      rw [kidsX_len] at s2
      unfold endX at *
      rw [s3]
      refine ⟨s2, by omega, ⟨s5, s4⟩, ?_⟩
      by_cases h2 : skp q + (k + 1) < cnt (kidsX p) q
      · left; rw [hat, if_pos h2]; rfl
      · right
        refine ⟨?_, by rw [hlen]; omega⟩
        rw [show skp q + k + 1 = cnt (kidsX p) q by omega]; exact h.tr.pos_end hk
    · cases hx
set_option maxRecDepth 100000 in
set_option maxHeartbeats 4000000 in
/-- The iterator's contract. -/
theorem elements_seq (Bp Bq q f : Nat) (v : Value) (p : List Sx) (S : List Nat) (P₀ : Nat → Prop) (N : Nat) (hN : 1 ≤ N) (w : World) (hP : P₀ Bp ∧ P₀ Bq) (hn₀ : ∀ k, P₀ k → k < w.heap.size)
    (hb : w.heap[Bp]? = some (.cells #[v] 22 (0, 0))) (hq : w.heap[Bq]? = some (.cells #[.int .i64 (q : Int)] 3 (0, 0)))
    (hX : XsAt w v p) (hT : PatOk p) (hc : ∀ x ∈ p, 0 ≤ x.c) (hl : p.length ≤ 2000) (hql : q < p.length) (hf : f = if q = 0 then 2 else q + 1) (hE : ElOk p q S f (endX p q)) :
    SeqC N Tryd.prog 48 #[.pointer (some ⟨Bp, 0, none⟩), .pointer (some ⟨Bq, 0, none⟩)] (fun x : Nat => #[.int .i64 (x : Int)]) P₀ (fun ys => ys = S) (fun pre => pre <+: S) (fun pre x => pre ++ [x] <+: S) w := by
  intro l J Jx W C0 hW hJ hJx hC hY h0
  obtain ⟨n, hn⟩ : ∃ n, p.length = n := ⟨_, rfl⟩
  have hn0 : 0 < n := by omega
  rw [hn] at hl hql
  have hXW := hX.below hW (Nat.le_refl _)
  have HF : Hid (∀ wr : World, (∀ k, P₀ k → wr.heap[k]? = W.heap[k]?) → wr.cell? ⟨Bp, 0, none⟩ = some v ∧ wr.cell? ⟨Bq, 0, none⟩ = some (.int .i64 (q : Int))) := Lib.hid fun wr hwr => by
    have h1 := (hwr _ hP.1).trans ((hW.block _ (hn₀ _ hP.1)).trans hb)
    have h2 := (hwr _ hP.2).trans ((hW.block _ (hn₀ _ hP.2)).trans hq)
    exact ⟨(box1F h1).1, (box1F h2).1⟩
  have CE := Lib.hid (ends_any v p W hXW hT.tr hc (by omega))
  have HEn := Lib.hid (fun (wr : World) (r : Value) (h : IntRow wr r ((endsL (kidsX p)).map fun q : Nat => (q : Int))) => ends_cells hn hn0 h)
  have HE := Lib.hid hE
  have hen : endX p q ≤ n := by have := (hT.end_bd (i := q) (by omega)).2; omega
  have CF := Lib.hid (fun W' => first_any q W' (by omega))
  have HFv : Hid ((if q = 0 then (2 : Int) else (q : Int) + 1) = (f : Int)) := Lib.hid (by rw [hf]; split <;> simp)
  have HEq : Hid (f ≤ endX p q) := Lib.hid (by
    rcases hE.first with ⟨_, h⟩ | h
    · omega
    · have := (hE.step 0 f h).2.1; omega)
  have HCs := Lib.hid hC
  have HJ := Lib.hid hJ
  have HY := Lib.hid hY
  have hPW : ∀ k, P₀ k → k < W.heap.size := fun k hk => Nat.lt_of_lt_of_le (hn₀ k hk) hW.size
  have HP0 := Lib.hid hPW
  obtain ⟨c0, c1⟩ := HF.out W (fun _ _ => rfl)
  obtain ⟨E, hEE⟩ : ∃ E, endX p q = E := ⟨_, rfl⟩
  rw [hEE] at hen HEq HE
  have HEE := Lib.hid hEE
  have HN := Lib.hid hn
  clear hE hb hq hX hT hc hf hn hJ hY hC hPW hn₀ hP hEE hXW hJx
  refine callsIn_of_wp Tryd.func48 rfl trivial ?_ rfl
  simp only [Tryd.ntmps48, List.size_toArray, List.length_cons, List.length_nil, Nat.reduceAdd, Nat.reduceSub, Array.replicate_succ, Array.replicate_zero, List.push_toArray, List.append_toArray, List.nil_append, List.cons_append]
  gi_wp2
  -- MARK1
  refine ⟨trivial, (callsIn_wide.2 CE.out).mono ?_⟩
  rintro e w2 ⟨r, rfl, hr1, hb2, hg2⟩
  obtain ⟨g, off, c, rfl, hgl, hgc⟩ := HEn.out w2 r hr1
  have hgW : W.heap.size ≤ g := hg2 g rfl
  have HGC := Lib.hid hgc
  have hJ2 : J [] C0 w2 := HJ.out _ _ _ _ none h0 (grown_noneH hb2) (fun r e => by cases e)
  have hnC : ¬ C0 g := fun h => by have := HCs.out _ _ _ h0 g h; omega
  have HPs : Hid (∀ b, P₀ b → w2.heap[b]? = W.heap[b]?) := Lib.hid fun b hb => hb2.block b (HP0.out b hb)
  obtain ⟨_, c1⟩ := HF.out w2 HPs.out
  have hsz2 := hb2.size
  clear hr1 hg2 hgc hb2 h0 c0
  gi_wp2
  refine ⟨trivial, (callsIn_wide.2 (CF.out _)).mono ?_⟩
  rintro e w3 ⟨rfl, rfl⟩
  rw [HFv.out]
  gi_wp2
  -- MARK2
  gi_loopw [5] (fun x5 wr => ∃ (k x : Nat) (C : Nat → Prop), x5 = .int .i64 (x : Int) ∧ x ≤ E ∧ Hid (S[k]? = some x ∨ x = E ∧ S.length ≤ k) ∧ J (S.take k) C wr ∧ ¬ C g ∧ Hid (wr.heap[g]? = w3.heap[g]?) ∧ Hid (∀ b, P₀ b → wr.heap[b]? = W.heap[b]?) ∧ w3.heap.size ≤ wr.heap.size) (fun x5 _ => n - (intOf x5).toNat)
  case atStart =>
    refine ⟨0, f, C0, rfl, HEq.out, Lib.hid ?_, hJ2, hnC, Lib.hid rfl, HPs, Nat.le_refl _⟩
    rcases HE.out.first with ⟨h1, h2⟩ | h
    · right; exact ⟨h2, by rw [h1]; exact Nat.le_refl _⟩
    · left; exact h
  case round =>
    obtain ⟨k, x, C, rfl, hxE, HS, hJr, hnCr, HG, HPr, hzr⟩ := hrel
    obtain ⟨_, c1r⟩ := HF.out wr HPr.out
    have hce := fun j (hj : j < n) => (World.cell?_of_block (a := ⟨g, off + j, none⟩) HG.out).trans (HGC.out j hj)
    have hcq := hce q hql
    rw [HEE.out] at hcq
    have hq0 : (0 : Int) ≤ (q : Int) := Int.natCast_nonneg _
    have hq1 : (q : Int) < (n : Int) := by omega
    have hx0 : (0 : Int) ≤ (x : Int) := Int.natCast_nonneg _
    by_cases hlt : x < E
    · have hSx : S[k]? = some x := by
        rcases HS.out with h | ⟨h, _⟩
        · exact h
        · omega
      obtain ⟨s1, s2, ⟨s3, s3'⟩, s4⟩ := HE.out.step k x hSx
      rw [HN.out] at s1
      have hcx := hce x s1
      obtain ⟨x2, hx2⟩ : ∃ x2, endX p x = x2 := ⟨_, rfl⟩
      rw [hx2] at s3 s3' s4 hcx
      have HS4 := Lib.hid s4
      have hd : decide ((x : Int) < (E : Int)) = true := decide_eq_true (by omega)
      have hxn1 : (x : Int) < (n : Int) := by omega
      have hpre := take_snocH hSx
      have HPre := Lib.hid hpre
      have hG : S.take k ++ [x] <+: S := by rw [hpre]; exact List.take_prefix _ _
      have hY' := HY.out (S.take k) x C wr hJr (by omega) hG
      have hgr : g < wr.heap.size := by omega
      clear s4 hpre hG hSx hce hx2
      obtain ⟨fn, tmps, assign, body, hy, hR⟩ := hY'
      gi_wp2
      -- MARK3
      refine hR.mono ?_
      rintro e W3 ⟨C', ⟨rfl, hJ3, hk3⟩ | ⟨rfl, hJx3⟩⟩
      · have HB3 := Lib.hid (fun b (hb : P₀ b) => (hk3.2.1 b (.inl hb)).trans (HPr.out b hb))
        have HG3 : Hid (W3.heap[g]? = w3.heap[g]?) := Lib.hid ((hk3.2.1 g (.inr ⟨hgW, hgr, hnCr⟩)).trans HG.out)
        have hnC3 := hk3.2.2 g hgr hnCr
        rw [HPre.out] at hJ3
        have hz3 := Nat.le_trans hzr hk3.1
        have hcx3 : W3.cell? ⟨g, off + x, none⟩ = some (.int .i64 (x2 : Int)) := by
          have := hcx
          rw [← this]; exact World.cell?_of_block (a := ⟨g, off + x, none⟩) (HG3.out.trans HG.out.symm)
        have HS3 : Hid (S[k + 1]? = some x2 ∨ x2 = E ∧ S.length ≤ k + 1) := Lib.hid (HS4.out.imp id fun ⟨h1, h2⟩ => ⟨h1, by omega⟩)
        clear hk3
        gi_wp2
        -- MARK4
        go_roundw
        case rel => exact ⟨k + 1, x2, C', rfl, s3, HS3, hJ3, hnC3, HG3, HB3, hz3⟩
        case measure => simp [intOf]; omega
      · rw [HPre.out] at hJx3
        gi_wp2
        -- MARK5
        refine bodyPost_ret (results_none rfl _ _ _) rfl ?_
        exact ⟨⟨_, rfl⟩, .inr ⟨_, _, List.take_prefix _ _, hJx3⟩⟩
    · obtain rfl : x = E := by omega
      have hd : decide ((x : Int) < (x : Int)) = false := decide_eq_false (by omega)
      have hlen : S.length ≤ k := by
        rcases HS.out with h | ⟨_, h⟩
        · have := (HE.out.step k x h).2.1; omega
        · exact h
      rw [List.take_of_length_le hlen] at hJr
      have hnl : ¬ x < x := Nat.lt_irrefl _
      clear hlen hce
      gi_wp2
      -- MARK6
      go_end0
      exact ⟨⟨_, rfl⟩, .inl ⟨_, hJr⟩⟩
-- MARK9
end Go.Proofs.YtdiinlmeoifgjaaDoor
