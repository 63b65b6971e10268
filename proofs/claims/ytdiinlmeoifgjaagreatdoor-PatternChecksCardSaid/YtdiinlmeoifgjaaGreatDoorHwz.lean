import Derived.Test.YtdiinlmeoifgjaaGreatDoorHea
import Derived.OneCell
import Derived.Deep.RegionHeld3
/- The reference's walk through a pattern (mathematics). -/
namespace Go.Proofs.YtdiinlmeoifgjaaGreatDoor

/-- The spots of one node with a depth, and of all below it. -/
def spN (p : List Sx) (i d : Nat) : List Spt := (i, d, false) :: (if lstAt p i = true then spE p (i + 1) (i + 1) (endX p i) d false else [])
theorem rdF_flag {p : List Sx} {L : List Pid} {vs : List (Pid × Nat)} {i d : Nat} {s : Bool} {t : List Spt} (h : dotAt p i = false) : rdF p L vs ((i, d, s) :: t) = rdF p L vs ((i, d, false) :: t) := by
  rw [rdF, rdF]
  cases hx : p[i]? with
  | none => rfl
  | some x =>
    rw [dotAt_of hx] at h
    simp only [h]
    simp
theorem spN_in {p : List Sx} (h : PatOk p) {i d : Nat} (hi : i < p.length) : SpIn p (spN p i d) := by
  intro z hz
  unfold spN at hz
  rcases List.mem_cons.1 hz with rfl | hz
  · exact hi
  · split at hz
    · exact spE_in h _ _ _ _ _ _ (InL.first h hi) rfl z hz
    · cases hz
theorem rdF_zero {p : List Sx} {L : List Pid} : ∀ (l : List Spt) (vs : List (Pid × Nat)), (rdF p L vs l).2.2 = 0 → (rdF p L vs l).2.1 = 0 := by
  intro l
  induction l with
  | nil => intro vs _; rfl
  | cons z l ih =>
    intro vs h
    rw [rdF] at h ⊢
    cases hx : p[z.1]? with
    | none => rfl
    | some x =>
      rw [hx] at h
      simp only at h ⊢
      split at h
      · cases h
      · rename_i h1
        rw [if_neg h1]
        split at h
        · rename_i h2; rw [if_pos h2]; exact ih _ h
        · rename_i h2
          rw [if_neg h2]
          split at h
          · cases h
          · rename_i h3
            rw [if_neg h3]
            split at h
            · cases h
            · rename_i h4
              rw [if_neg h4]; exact ih _ h
/-- An element that is no ellipsis. -/
theorem rd_el {p : List Sx} {L : List Pid} (h : PatOk p) {vs : List (Pid × Nat)} {i f e d : Nat} {b : Bool} (hin : InL p i e) (hlt : i < e) (hd : dotAt p i = false) :
    rdF p L vs (spE p i f e d b) = if (rdF p L vs (spN p i (dpt p i e d))).2.2 ≠ 0 then rdF p L vs (spN p i (dpt p i e d)) else rdF p L (rdF p L vs (spN p i (dpt p i e d))).1 (spE p (endX p i) f e d b) := by
  have hb := hin.bd h
  rw [spE_step h hin hlt, hd, Bool.or_false, List.cons_append, rdF_flag hd]
  have := rdF_app (L := L) (spN p i (dpt p i e d)) (spE p (endX p i) f e d b) vs (spN_in h (by omega))
  rw [← this]; rfl
/-- An ellipsis. -/
theorem rd_dot {p : List Sx} {L : List Pid} (h : PatOk p) {vs : List (Pid × Nat)} {i f e d : Nat} {b : Bool} (hin : InL p i e) (hlt : i < e) (hd : dotAt p i = true) :
    rdF p L vs (spE p i f e d b) = if b = true ∨ i = f then (vs, i, 6) else rdF p L vs (spE p (endX p i) f e d true) := by
  have hb := hin.bd h
  rw [spE_step h hin hlt, hd, Bool.or_true, dot_lst hd]
  simp only [Bool.false_eq_true, if_false]
  rw [List.cons_append, rdF]
  obtain ⟨x, hx⟩ : ∃ x, p[i]? = some x := ⟨_, List.getElem?_eq_getElem (by omega)⟩
  rw [dotAt_of hx] at hd
  simp only [hx, hd, true_and]
  by_cases hs : b = true ∨ i = f
  · rw [if_pos hs, if_pos (by simpa using hs)]
  · rw [if_neg hs, if_neg (by simpa using hs), if_pos (.inr (.inl trivial))]; rfl
theorem rd_lst {p : List Sx} {L : List Pid} {vs : List (Pid × Nat)} {i d : Nat} {x : Sx} (hx : p[i]? = some x) (hk : x.k = 4) : rdF p L vs (spN p i d) = rdF p L vs (spE p (i + 1) (i + 1) (endX p i) d false) := by
  unfold spN
  rw [lstAt_of hx, hk]
  simp only [decide_true, if_true]
  rw [rdF, hx]
  have hd : dotsX x = false := by unfold dotsX; rw [hk]; rfl
  simp only [hd, hk]
  simp
theorem rd_leaf {p : List Sx} {L : List Pid} {vs : List (Pid × Nat)} {i d : Nat} {x : Sx} (hx : p[i]? = some x) (hk : x.k ≠ 4) (hd : dotAt p i = false) :
    rdF p L vs (spN p i d) = if x.k ≠ 3 ∨ blkX x = true ∨ idX x ∈ L then (vs, 0, 0) else if 3 < d then (vs, i, 3) else if idX x ∈ vs.map (·.1) then (vs, i, 8) else (vs ++ [(idX x, d)], 0, 0) := by
  unfold spN
  rw [lstAt_of hx, decide_eq_false hk]
  simp only [Bool.false_eq_true, if_false]
  rw [dotAt_of hx] at hd
  rw [rdF, hx]
  simp only [hd, Bool.false_eq_true, false_and, if_false, false_or]
  split
  · rfl
  · split
    · rfl
    · split
      · rfl
      · rfl
section
variable {p : List Sx} {q j : Nat}
theorem el_in (hq : q < p.length) (hj : j ≤ cnt (kidsX p) q) : InL p (posK (kidsX p) q j) (endX p q) := ⟨q, j, hq, hj, rfl, rfl⟩
theorem el_next (h : PatOk p) (hq : q < p.length) (hj : j < cnt (kidsX p) q) : endX p (posK (kidsX p) q j) = posK (kidsX p) q (j + 1) := (h.tr.pos_step (by rw [kidsX_len]; exact hq) hj).2.2
theorem el_end (h : PatOk p) (hq : q < p.length) : posK (kidsX p) q (cnt (kidsX p) q) = endX p q := h.tr.pos_end (by rw [kidsX_len]; exact hq)
theorem el_lt (h : PatOk p) (hq : q < p.length) (hj : j < cnt (kidsX p) q) : posK (kidsX p) q j < endX p q ∧ posK (kidsX p) q j < p.length := by
  have h1 := h.tr.pos_lt (by rw [kidsX_len]; exact hq) hj (Nat.le_refl _)
  rw [el_end h hq] at h1
  have := (h.end_bd hq).2
  exact ⟨h1, by omega⟩
theorem el_gt (h : PatOk p) (hq : q < p.length) {k : Nat} (hj : j < k) (hk : k ≤ cnt (kidsX p) q) : posK (kidsX p) q j < posK (kidsX p) q k := h.tr.pos_lt (by rw [kidsX_len]; exact hq) hj hk
theorem el_dpt (h : PatOk p) (hq : q < p.length) (hj : j < cnt (kidsX p) q) (d : Nat) : dpt p (posK (kidsX p) q j) (endX p q) d = if j + 1 < cnt (kidsX p) q ∧ dotAt p (posK (kidsX p) q (j + 1)) = true then d + 1 else d := by
  unfold dpt
  rw [el_next h hq hj]
  by_cases hlt : j + 1 < cnt (kidsX p) q
  · have := (el_lt h hq hlt).1
    simp [this, hlt]
  · have e : j + 1 = cnt (kidsX p) q := by omega
    have e2 : posK (kidsX p) q (j + 1) = endX p q := by rw [e]; exact el_end h hq
    simp [e2, hlt]
/-- An element's subtree is smaller. -/
theorem el_small (h : PatOk p) (hq : q < p.length) (hj : j < cnt (kidsX p) q) : q < posK (kidsX p) q j ∧ endX p (posK (kidsX p) q j) ≤ endX p q := by
  have hk : q < (kidsX p).length := by rw [kidsX_len]; exact hq
  refine ⟨?_, ?_⟩
  · have := h.tr.pos_le hk (Nat.zero_le j) (Nat.le_of_lt hj)
    rw [posK_start hk] at this; omega
  · rw [el_next h hq hj, ← el_end h hq]
    exact h.tr.pos_le hk hj (Nat.le_refl _)
end
-- MARK9
end Go.Proofs.YtdiinlmeoifgjaaGreatDoor

/- The reference's walk through a pattern: its state in memory; wrong. -/
namespace Go.Proofs.YtdiinlmeoifgjaaGreatDoor
open Go.RowKit Go.PlainAid

theorem set5c2 {W : World} {n : Nat} {x0 x1 x2 x3 x4 : Value} {t : TypeId} {fr : Nat × Nat} (v : Value) (h : W.heap[n]? = some (.cells #[x0, x1, x2, x3, x4] t fr)) : (W.setCell ⟨n, 2, none⟩ v).heap[n]? = some (.cells #[x0, x1, v, x3, x4] t fr) := by
  simp [World.setCell, Array.getElem?_modify, h]
theorem set5c3 {W : World} {n : Nat} {x0 x1 x2 x3 x4 : Value} {t : TypeId} {fr : Nat × Nat} (v : Value) (h : W.heap[n]? = some (.cells #[x0, x1, x2, x3, x4] t fr)) : (W.setCell ⟨n, 3, none⟩ v).heap[n]? = some (.cells #[x0, x1, x2, v, x4] t fr) := by
  simp [World.setCell, Array.getElem?_modify, h]
theorem set5c4 {W : World} {n : Nat} {x0 x1 x2 x3 x4 : Value} {t : TypeId} {fr : Nat × Nat} (v : Value) (h : W.heap[n]? = some (.cells #[x0, x1, x2, x3, x4] t fr)) : (W.setCell ⟨n, 4, none⟩ v).heap[n]? = some (.cells #[x0, x1, x2, x3, v] t fr) := by
  simp [World.setCell, Array.getElem?_modify, h]
theorem box5W {W : World} {n : Nat} {x0 x1 x2 x3 x4 : Value} {t : TypeId} (h : W.heap[n]? = some (.cells #[x0, x1, x2, x3, x4] t (0, 0))) :
    W.cell? ⟨n, 0, none⟩ = some x0 ∧ W.cell? ⟨n, 1, none⟩ = some x1 ∧ W.cell? ⟨n, 2, none⟩ = some x2 ∧ W.cell? ⟨n, 3, none⟩ = some x3 ∧ W.cell? ⟨n, 4, none⟩ = some x4 ∧ W.frozen? ⟨n, 2, none⟩ = false ∧ W.frozen? ⟨n, 3, none⟩ = false ∧ W.frozen? ⟨n, 4, none⟩ = false := by
  refine ⟨?_, ?_, ?_, ?_, ?_, ?_, ?_, ?_⟩ <;> simp [World.cell?, World.frozen?, h]
/-- The walk's block and its variables; what was there before the walk is as it was. -/
structure WkS (w0 : World) (g : Nat) (pv lv : Value) (vs : List Pv) (nd e : Int) (b : Option Addr) (m c : Nat) (W : World) : Prop where
  box : W.heap[g]? = some (.cells #[pv, lv, .slice b m c, .int .i64 nd, .int .i64 e] 54 (0, 0))
  row : W.ownsRow w0.heap.size 45 3 (.slice b m c) m (vcs vs)
  len : vs.length = m
  ge : w0.heap.size ≤ g
  bel : Below w0.heap.size w0 W
/-- Only the walk's block and its row of variables have changed. -/
structure WkF (g : Nat) (ro ro' : Option Nat) (W W' : World) : Prop where
  size : W.heap.size ≤ W'.heap.size
  block : ∀ k, k < W.heap.size → k ≠ g → ro ≠ some k → W'.heap[k]? = W.heap[k]?
  own : ∀ r, ro' = some r → ro = some r ∨ W.heap.size ≤ r
theorem WkF.refl (g : Nat) (ro : Option Nat) (W : World) : WkF g ro ro W W := ⟨Nat.le_refl _, fun _ _ _ _ => rfl, fun _ h => .inl h⟩
theorem WkF.trans {g : Nat} {r0 r1 r2 : Option Nat} {W W1 W2 : World} (h : WkF g r0 r1 W W1) (h2 : WkF g r1 r2 W1 W2) : WkF g r0 r2 W W2 := by
  refine ⟨Nat.le_trans h.size h2.size, fun k hk hg hr => ?_, fun r hr => ?_⟩
  · have h1 : r1 ≠ some k := fun e => by
      rcases h.own k e with e2 | e2
      · exact hr e2
      · omega
    exact (h2.block k (Nat.lt_of_lt_of_le hk h.size) hg h1).trans (h.block k hk hg hr)
  · rcases h2.own r hr with e | e
    · exact h.own r e
    · exact .inr (Nat.le_trans h.size e)
theorem WkF.of_below {g : Nat} {ro : Option Nat} {W W' : World} (h : Below W.heap.size W W') : WkF g ro ro W W' := ⟨h.size, fun k hk _ _ => h.block k hk, fun _ h => .inl h⟩
section
variable {w0 : World} {g : Nat} {pv lv : Value} {vs : List Pv} {nd e : Int} {b : Option Addr} {m c : Nat} {W W' : World}
theorem WkS.on (h : WkS w0 g pv lv vs nd e b m c W) (hb : Below W.heap.size W W') : WkS w0 g pv lv vs nd e b m c W' :=
  ⟨(hb.block g (Array.getElem?_eq_some_iff.1 h.box).1).trans h.box, own_below h.row hb, h.len, h.ge, below_step h.bel hb⟩
theorem WkS.lt (h : WkS w0 g pv lv vs nd e b m c W) : g < W.heap.size := (Array.getElem?_eq_some_iff.1 h.box).1
theorem WkS.apart (h : WkS w0 g pv lv vs nd e b m c W) : (Value.slice b m c).ownBlock ≠ some g := fun e => own_ne h.box h.row (by decide) g e rfl
theorem WkS.wrong (h : WkS w0 g pv lv vs nd 0 b m c W) (i er : Int) : WkS w0 g pv lv vs i er b m c ((W.setCell ⟨g, 3, none⟩ (.int .i64 i)).setCell ⟨g, 4, none⟩ (.int .i64 er)) :=
  ⟨set5c4 _ (set5c3 _ h.box), ownsRow_setCell_other (ownsRow_setCell_other h.row h.apart _) h.apart _, h.len, h.ge, (h.bel.setCell h.ge _).setCell h.ge _⟩
theorem WkF.set (g i : Nat) (ro : Option Nat) (W : World) (v : Value) : WkF g ro ro W (W.setCell ⟨g, i, none⟩ v) := ⟨(KeepsWalks.setCell W _ v).size, fun k _ hg _ => Below.heap_setCell _ _ _ k hg, fun _ h => .inl h⟩
end
/-- What a call of the walk gives: a state, in which nothing else has changed. -/
def WkR (w0 : World) (g : Nat) (pv lv : Value) (R : RdR) (ro : Option Nat) (W : World) (e : Ending) (W' : World) : Prop :=
  e = .returned (.tuple #[]) ∧ ∃ b m c, WkS w0 g pv lv R.1 (R.2.1 : Int) R.2.2 b m c W' ∧ WkF g ro (Value.slice b m c).ownBlock W W'
set_option maxRecDepth 50000 in
theorem wrong_any (w0 : World) (g : Nat) (pv lv : Value) (vs : List Pv) (b : Option Addr) (m c : Nat) (i : Nat) (er : Int) (W : World) (h : WkS w0 g pv lv vs 0 0 b m c W) :
    Calls Tryz.prog 29 #[.pointer (some ⟨g, 0, none⟩), .int .i64 (i : Int), .int .i64 er] W (WkR w0 g pv lv (vs, i, er) (Value.slice b m c).ownBlock W) := by
  have HS := Lib.hid h
  obtain ⟨c0, c1, c2, c3, c4, f2, f3, f4⟩ := box5W h.box
  have HB := Lib.hid (box5W (set5c3 (.int .i64 (i : Int)) h.box))
  obtain ⟨_, _, _, _, d4, _, _, e4⟩ := HB.out
  have HR : Hid (WkR w0 g pv lv (vs, i, er) (Value.slice b m c).ownBlock W (.returned (.tuple #[])) ((W.setCell ⟨g, 3, none⟩ (.int .i64 (i : Int))).setCell ⟨g, 4, none⟩ (.int .i64 er))) :=
    Lib.hid ⟨rfl, b, m, c, h.wrong _ _, (WkF.set g 3 _ W _).trans (WkF.set g 4 _ _ _)⟩
  generalize hRV : WkR w0 g pv lv (vs, i, er) (Value.slice b m c).ownBlock W = RV at *
  clear h hRV
  go_enter Tryz.func29, Tryz.ntmps29
  go_wp2_with fail
  -- MARK1
  go_end0
  exact HR.out
-- MARK9
end Go.Proofs.YtdiinlmeoifgjaaGreatDoor

/- The reference's walk through a pattern: the elements of a list. (Written by tools/gen_hwl.py.) -/
namespace Go.Proofs.YtdiinlmeoifgjaaGreatDoor
open Go.RowKit Go.PlainAid

theorem spE_len {p : List Sx} (h : PatOk p) : ∀ (m i f e d : Nat) (b : Bool), InL p i e → e - i = m → (spE p i f e d b).length = e - i := by
  intro m
  induction m using Nat.strongRecOn with
  | _ m ih =>
    intro i f e d b hin hm
    have hb := hin.bd h
    by_cases hlt : i < e
    · obtain ⟨hn, hn1, hn2⟩ := hin.next h hlt
      rw [spE_step h hin hlt, List.cons_append, List.length_cons, List.length_append, ih _ (by omega) (endX p i) f e d _ hn rfl]
      cases hl : lstAt p i with
      | false => have := h.end_leaf (i := i) (by omega) hl; simp; omega
      | true => simp only [if_true]; rw [ih _ (by omega) (i + 1) (i + 1) (endX p i) _ _ (InL.first h (by omega)) rfl]; omega
    · rw [spE_end p (by omega)]; simp; omega
theorem spN_len {p : List Sx} (h : PatOk p) {i d : Nat} (hi : i < p.length) : (spN p i d).length = endX p i - i := by
  unfold spN
  rw [List.length_cons]
  have hb := h.end_bd hi
  cases hl : lstAt p i with
  | false => have := h.end_leaf hi hl; simp; omega
  | true => simp only [if_true]; rw [spE_len h _ (i + 1) (i + 1) (endX p i) _ _ (InL.first h hi) rfl]; omega
/-- The walk of one node, called with any state. -/
def OneOk (w0 : World) (g : Nat) (pv lv : Value) (p : List Sx) (L : List Pid) (i : Nat) : Prop :=
  ∀ (d : Nat) (vs : List Pv) (b : Option Addr) (m c : Nat) (W : World), d ≤ i → vs.length ≤ i → WkS w0 g pv lv vs 0 0 b m c W → dotAt p i = false →
    Calls Tryz.prog 39 #[.pointer (some ⟨g, 0, none⟩), .int .i64 (i : Int), .int .i64 (d : Int)] W (WkR w0 g pv lv (rdF p L vs (spN p i d)) (Value.slice b m c).ownBlock W)
/-- The cells of the elements' numbers. -/
def ElC (gx : Nat) (ks : List Nat) (W : World) : Prop := ∀ j q : Nat, ks[j]? = some q → W.cell? ⟨gx, j, none⟩ = some (.int .i64 (q : Int))
theorem ElC.kept {g gx : Nat} {r0 r1 : Option Nat} {ks : List Nat} {W W' : World} (h : ElC gx ks W) (hF : WkF g r0 r1 W W') (h1 : gx < W.heap.size) (h2 : gx ≠ g) (h3 : r0 ≠ some gx) : ElC gx ks W' := fun j q hj => by
  have h4 := hF.block gx h1 h2 h3
  have := h j q hj
  rw [← this]; simp [World.cell?, h4]
/-- How far the walk of a list has come. -/
def LsR (p : List Sx) (L : List Pid) (R : RdR) (vs : List Pv) (nd e : Int) (i f E d : Nat) (db : Bool) : Prop :=
  (e = 0 ∧ nd = 0 ∧ R = rdF p L vs (spE p i f E d db)) ∨ (e ≠ 0 ∧ ∃ k : Nat, nd = (k : Int) ∧ R = (vs, k, e))
set_option maxRecDepth 100000 in
set_option maxHeartbeats 12800000 in
theorem list_go (w0 : World) (g g0 o0 n c0 : Nat) (lv : Value) (p : List Sx) (L : List Pid) (hp : PatOk p) (hn : p.length = n) (hl : n ≤ 2000)
    (HV : ∀ W, Below w0.heap.size w0 W → XsAt W (.slice (some ⟨g0, o0, none⟩) n c0) p) (q fr d : Nat) (hq : q < n) (hfr : fr ≤ cnt (kidsX p) q) (hd : d ≤ q)
    (H1 : ∀ j, fr ≤ j → j < cnt (kidsX p) q → OneOk w0 g (.slice (some ⟨g0, o0, none⟩) n c0) lv p L (posK (kidsX p) q j)) (xa : Option Addr) (xc : Nat) (vs : List Pv) (b : Option Addr) (m c : Nat) (W : World)
    (hS : WkS w0 g (.slice (some ⟨g0, o0, none⟩) n c0) lv vs 0 0 b m c W) (hvs : vs.length ≤ posK (kidsX p) q fr)
    (hx : 0 < cnt (kidsX p) q → ∃ gx, xa = some ⟨gx, 0, none⟩ ∧ gx < W.heap.size ∧ gx ≠ g ∧ (Value.slice b m c).ownBlock ≠ some gx ∧ ElC gx (kidsN (kidsX p) q) W) :
    Calls Tryz.prog 30 #[.pointer (some ⟨g, 0, none⟩), .slice xa (cnt (kidsX p) q) xc, .int .i64 (fr : Int), .int .i64 (d : Int)] W
      (WkR w0 g (.slice (some ⟨g0, o0, none⟩) n c0) lv (rdF p L vs (spE p (posK (kidsX p) q fr) (posK (kidsX p) q fr) (endX p q) d false)) (Value.slice b m c).ownBlock W) := by
  have hql : q < p.length := by rw [hn]; exact hq
  have HPv : Hid (∀ W', Below w0.heap.size w0 W' → XsAt W' (.slice (some ⟨g0, o0, none⟩) n c0) p) := Lib.hid HV
  have HEn := Lib.hid (el_end hp hql)
  have HNx := Lib.hid (fun j (hj : j < cnt (kidsX p) q) => el_next hp hql hj)
  have HLt := Lib.hid (fun j (hj : j < cnt (kidsX p) q) => el_lt hp hql hj)
  have HSm := Lib.hid (fun j (hj : j < cnt (kidsX p) q) => el_small hp hql hj)
  have HDp := Lib.hid (fun j (hj : j < cnt (kidsX p) q) => el_dpt hp hql hj d)
  have HIn := Lib.hid (fun j (hj : j ≤ cnt (kidsX p) q) => el_in hql hj)
  have HGt := Lib.hid (fun j k (hj : j < k) (hk : k ≤ cnt (kidsX p) q) => el_gt hp hql hj hk)
  have HKat := Lib.hid (fun j (hj : j < cnt (kidsX p) q) => kidsN_at hj)
  have HP := Lib.hid hp
  have HN := Lib.hid hn
  have HO := Lib.hid H1
  have HS0 := Lib.hid hS
  have HX := Lib.hid hx
  have hKn : cnt (kidsX p) q ≤ n := by
    have h1 := hp.tr.pos_mono (by rw [kidsX_len]; exact hql) (d := cnt (kidsX p) q) (k := 0) (by omega)
    rw [Nat.zero_add, el_end hp hql] at h1
    have := (hp.end_bd hql).2
    omega
  obtain ⟨f, hf⟩ : ∃ f, posK (kidsX p) q fr = f := ⟨_, rfl⟩
  obtain ⟨E, hE⟩ : ∃ E, endX p q = E := ⟨_, rfl⟩
  obtain ⟨R, hR⟩ : ∃ R, rdF p L vs (spE p f f E d false) = R := ⟨_, rfl⟩
  have HF := Lib.hid hf
  have HR0 : Hid (LsR p L R vs 0 0 (posK (kidsX p) q fr) f E d false) := Lib.hid (.inl ⟨rfl, rfl, by rw [hf, hR]⟩)
  have HV0 : Hid (vs.length ≤ posK (kidsX p) q fr) := Lib.hid hvs
  rw [hf, hE, hR]
  rw [hE] at HEn HLt HSm HDp HIn
  obtain ⟨K, hK⟩ : ∃ K, cnt (kidsX p) q = K := ⟨_, rfl⟩
  rw [hK] at HEn HNx HLt HSm HDp HIn HGt HKat HO HX hKn hfr ⊢
  obtain ⟨ro, hro⟩ : ∃ r, (Value.slice b m c).ownBlock = r := ⟨_, rfl⟩
  have HF0 : Hid (WkF g ro (Value.slice b m c).ownBlock W W) := Lib.hid (by rw [hro]; exact WkF.refl _ _ _)
  rw [hro] at HX ⊢
  have HRV : Hid (∀ vs' nd e' b' m' c' W' (k : Nat), nd = (k : Int) → WkS w0 g (.slice (some ⟨g0, o0, none⟩) n c0) lv vs' nd e' b' m' c' W' → WkF g ro (Value.slice b' m' c').ownBlock W W' → R = (vs', k, e') → WkR w0 g (.slice (some ⟨g0, o0, none⟩) n c0) lv R ro W (.returned (.tuple #[])) W') := Lib.hid fun vs' nd e' b' m' c' W' k h0 h1 h2 h3 => by
    subst h0 h3; exact ⟨rfl, b', m', c', h1, h2⟩
  generalize hRV : WkR w0 g (.slice (some ⟨g0, o0, none⟩) n c0) lv R ro W = RV at *
  clear hS hx H1 HV hp hn hql hf hE hR hK hro hRV hvs
  go_enter Tryz.func30, Tryz.ntmps30
  go_wp2_with fail
  -- MARK1
  go_loopw [8, 9] (fun x8 x9 wr => ∃ (j : Nat) (db : Bool) (vs' : List Pv) (nd e' : Int) (b' : Option Addr) (m' c' : Nat), x8 = .bool db ∧ x9 = .int .i64 (j : Int) ∧ fr ≤ j ∧ j ≤ K ∧ Hid (WkS w0 g (.slice (some ⟨g0, o0, none⟩) n c0) lv vs' nd e' b' m' c' wr) ∧ Hid (WkF g ro (Value.slice b' m' c').ownBlock W wr) ∧ Hid (vs'.length ≤ posK (kidsX p) q j) ∧ Hid (LsR p L R vs' nd e' (posK (kidsX p) q j) f E d db)) (fun _ x9 _ => K - (intOf x9).toNat)
  case atStart => exact ⟨fr, false, vs, 0, 0, b, m, c, rfl, rfl, Nat.le_refl _, hfr, HS0, HF0, HV0, HR0⟩
  case round =>
    obtain ⟨j, db, vs', nd, e', b', m', c', rfl, rfl, hfj, hj, HS, HFr, HVs, HL⟩ := hrel
    have hj0 : (0 : Int) ≤ (j : Int) := Int.natCast_nonneg _
    by_cases hlt : j < K
    case neg =>
      obtain rfl : j = K := by omega
      have hd1 : decide ((j : Int) < (j : Int)) = false := decide_eq_false (by omega)
      have hnl : ¬ j < j := Nat.lt_irrefl _
      have HRt : Hid (RV (.returned (.tuple #[])) wr) := Lib.hid (by
        rcases HL.out with ⟨e1, e2, e3⟩ | ⟨e1, k, e2, e3⟩
        · refine HRV.out _ _ _ _ _ _ _ 0 e2 HS.out HFr.out ?_
          rw [e3, e1, HEn.out, spE_end p (Nat.le_refl _)]; rfl
        · exact HRV.out _ _ _ _ _ _ _ k e2 HS.out HFr.out e3)
      go_wp2_with fail
      go_end0
      exact HRt.out
    have hd1 : decide ((j : Int) < (K : Int)) = true := decide_eq_true (by omega)
    have hj1 : (j : Int) < (K : Int) := by omega
    obtain ⟨k0, k1, k2, k3, k4, _⟩ := box5W HS.out.box
    by_cases he : e' = 0
    case neg =>
      have hee : (e' == 0) = false := beq_eq_false_iff_ne.2 he
      have HRt : Hid (RV (.returned (.tuple #[])) wr) := Lib.hid (by
        rcases HL.out with ⟨e1, e2, e3⟩ | ⟨e1, k, e2, e3⟩
        · exact absurd e1 he
        · exact HRV.out _ _ _ _ _ _ _ k e2 HS.out HFr.out e3)
      clear he
      go_wp2_with fail
      -- MARK2
      go_end0
      exact HRt.out
    subst he
    obtain ⟨rfl, HLq⟩ : nd = 0 ∧ Hid (R = rdF p L vs' (spE p (posK (kidsX p) q j) f E d db)) := by
      rcases HL.out with ⟨e1, e2, e3⟩ | ⟨e1, k, e2, e3⟩
      · exact ⟨e2, Lib.hid e3⟩
      · exact absurd rfl e1
    clear HL
    obtain ⟨gx, rfl, hx1, hx2, hx3, hx4⟩ := HX.out (by omega)
    have HEl := Lib.hid (hx4.kept HFr.out hx1 hx2 hx3)
    have hxro : Hid (gx < wr.heap.size ∧ gx ≠ g ∧ (Value.slice b' m' c').ownBlock ≠ some gx) := Lib.hid ⟨Nat.lt_of_lt_of_le hx1 HFr.out.size, hx2, fun e => by rcases HFr.out.own gx e with h | h; exact hx3 h; omega⟩
    have HEp := Lib.hid (fun W' (hW : Below wr.heap.size wr W') => (HEl.out.kept (WkF.of_below (ro := (Value.slice b' m' c').ownBlock) hW) hxro.out.1 hxro.out.2.1 hxro.out.2.2))
    have HIj := Lib.hid (HIn.out j (by omega))
    have HLj := Lib.hid (HLt.out j hlt)
    have HNj := Lib.hid (HNx.out j hlt)
    have HSj := Lib.hid (HSm.out j hlt)
    have HDj := Lib.hid (HDp.out j hlt)
    have HKj := Lib.hid (HKat.out j hlt)
    have HOj := Lib.hid (HO.out j hfj hlt)
    obtain ⟨j2, hj2⟩ : ∃ j2, j + 1 = j2 := ⟨_, rfl⟩
    have HJ2 := Lib.hid hj2
    have hjj : (j : Int) + 1 = (j2 : Int) := by omega
    have hj20 : (0 : Int) ≤ (j2 : Int) := Int.natCast_nonneg _
    have hwj : IntKind.i64.wrap (j2 : Int) = (j2 : Int) := by rw [IntKind.wrap_i64] <;> omega
    rw [hj2] at HNj HDj
    obtain ⟨i, hi⟩ : ∃ i, posK (kidsX p) q j = i := ⟨_, rfl⟩
    rw [hi] at HVs HLq HIj HLj HNj HSj HDj HKj HOj
    have hin : i < n := by rw [← HN.out]; exact HLj.out.2
    have hin1 : (i : Int) < (n : Int) := by omega
    have hi0 : (0 : Int) ≤ (i : Int) := Int.natCast_nonneg _
    have hqi : q < i := HSj.out.1
    obtain ⟨x, hx⟩ : ∃ x, p[i]? = some x := ⟨_, List.getElem?_eq_getElem (by rw [HN.out]; exact hin)⟩
    have HNd : Hid (∀ W', Below wr.heap.size wr W' → W'.cell? ⟨g, 0, none⟩ = some (.slice (some ⟨g0, o0, none⟩) n c0) ∧ W'.cell? ⟨gx, j, none⟩ = some (.int .i64 (i : Int)) ∧ W'.cell? ⟨g0, o0 + i * 8, none⟩ = some (.int .i64 x.k) ∧ W'.cell? ⟨g0, o0 + i * 8 + 1, none⟩ = some (.int .i64 x.c) ∧ W'.cell? ⟨g0, o0 + i * 8 + 2, none⟩ = some (.int .i64 x.n) ∧ W'.cell? ⟨g0, o0 + i * 8 + 3, none⟩ = some (.string (str x.s)) ∧ W'.cell? ⟨g0, o0 + i * 8 + 4, none⟩ = some (.string (str x.p)) ∧ W'.cell? ⟨g0, o0 + i * 8 + 5, none⟩ = some (.int .i64 x.f) ∧ W'.cell? ⟨g0, o0 + i * 8 + 6, none⟩ = some (.int .i64 x.t) ∧ W'.cell? ⟨g0, o0 + i * 8 + 7, none⟩ = some (.int .i64 x.o)) := Lib.hid fun W' hW => by
      refine ⟨(box5W (HS.out.on hW).box).1, HEp.out W' hW j i HKj.out, ?_⟩
      obtain ⟨g1, o1, e1, _, f⟩ := (HPv.out W' (below_step HS.out.bel hW)).node hx
      cases e1; exact f
    have HDt : Hid (dotAt p i = dotsX x) := Lib.hid (dotAt_of hx)
    have CD := Lib.hid (fun W => Dots_any x W)
    obtain ⟨x0, x1, x2, x3, x4, x5, x6, x7⟩ := x
    simp only [sxA_open] at CD HNd
    obtain ⟨bd, hbd⟩ : ∃ b, dotsX ⟨x0, x1, x2, x3, x4, x5, x6, x7⟩ = b := ⟨_, rfl⟩
    rw [hbd] at CD HDt
    obtain ⟨X, hX⟩ : ∃ S, str x3 = S := ⟨_, rfl⟩
    obtain ⟨Y, hY⟩ : ∃ S, str x4 = S := ⟨_, rfl⟩
    rw [hX, hY] at CD HNd
    have HFj : Hid (j = fr ↔ i = f) := Lib.hid (by
      constructor
      · rintro rfl; rw [← hi, HF.out]
      · intro e
        by_cases h1 : j = fr
        · exact h1
        · have := HGt.out fr j (by omega) (by omega)
          rw [HF.out, hi] at this; omega)
    have HId := Lib.hid hi
    clear hi hj2 hbd hX hY hx hx1 hx2 hx3 hx4
    obtain ⟨z0, z1, y0, y1, y2, y3, y4, y5, y6, y7⟩ := HNd.out wr (Below.refl _ _)
    go_wp2_with fail
    -- MARK3
    go_region_held3 (fun w' => w'.cell? ⟨g, 0, none⟩ = some (.slice (some ⟨g0, o0, none⟩) n c0) ∧ w'.cell? ⟨gx, j, none⟩ = some (.int .i64 (i : Int)) ∧ w'.cell? ⟨g0, o0 + i * 8, none⟩ = some (.int .i64 x0) ∧ w'.cell? ⟨g0, o0 + i * 8 + 1, none⟩ = some (.int .i64 x1) ∧ w'.cell? ⟨g0, o0 + i * 8 + 2, none⟩ = some (.int .i64 x2) ∧ w'.cell? ⟨g0, o0 + i * 8 + 3, none⟩ = some (.string X) ∧ w'.cell? ⟨g0, o0 + i * 8 + 4, none⟩ = some (.string Y) ∧ w'.cell? ⟨g0, o0 + i * 8 + 5, none⟩ = some (.int .i64 x5) ∧ w'.cell? ⟨g0, o0 + i * 8 + 6, none⟩ = some (.int .i64 x6) ∧ w'.cell? ⟨g0, o0 + i * 8 + 7, none⟩ = some (.int .i64 x7)) (first | exact HNd.out _ (by assumption) | go_keep) ((go_at_call 38; refine (CD.out _).mono ?_; rintro e w1 ⟨rfl, hb1⟩; have hb2 : Below wr.heap.size wr w1 := below_step (Below.refl _ wr).drew hb1))
    -- MARK4
    have HS1 := Lib.hid (HS.out.on hb2)
    have HF1 := Lib.hid (HFr.out.trans (WkF.of_below hb2))
    have HNd1 := Lib.hid (fun W' (hW : Below w1.heap.size w1 W') => HNd.out W' (below_step hb2 hW))
    have HEp1 := Lib.hid (fun W' (hW : Below w1.heap.size w1 W') => HEp.out W' (below_step hb2 hW))
    clear z0 z1 y0 y1 y2 y3 y4 y5 y6 y7 k0 k1 k2 k3 k4 hb1 hb2 HNd HEp HS HFr HEl hxro
    cases bd
    case true =>
      by_cases hst : j = fr ∨ db = true
      · have hor : ((j : Int) == (fr : Int)) = true ∨ db = true := hst.imp (fun e => by rw [e]; exact beq_self_eq_true _) id
        have CW := Lib.hid (wrong_any w0 g _ lv vs' b' m' c' i 6 w1 HS1.out)
        have HRn : Hid (LsR p L R vs' (i : Int) 6 (posK (kidsX p) q j2) f E d true) := Lib.hid (.inr ⟨by decide, i, rfl, by
          rw [HLq.out, rd_dot HP.out HIj.out HLj.out.1 HDt.out, if_pos]
          rcases hst with h | h
          · exact .inr (HFj.out.1 h)
          · exact .inl h⟩)
        have HVn : Hid (vs'.length ≤ posK (kidsX p) q j2) := Lib.hid (by
          have h1 := HSj.out; have h2 := HNj.out; have h3 := HVs.out; have h4 := (HP.out.end_bd (i := i) (by rw [HN.out]; exact hin)).1; omega)
        obtain ⟨bj, hbj⟩ : ∃ b, ((j : Int) == (fr : Int)) = b := ⟨_, rfl⟩
        rw [hbj] at hor
        clear hst
        obtain ⟨_, z1, _⟩ := HNd1.out w1 (Below.refl _ _)
        cases bj <;> cases db <;> first
          | (exfalso; rcases hor with h | h <;> cases h; done)
          | skip
        all_goals
          go_wp2_with fail
          -- MARK5
          refine CW.out.mono ?_
          rintro e w2 ⟨rfl, b2, m2, c2, hS2, hF2⟩
          have HS2 := Lib.hid hS2
          have HF2 := Lib.hid (HF1.out.trans hF2)
          clear hS2 hF2
          go_wp2_with fail
          exact ⟨⟨j2, true, vs', (i : Int), 6, b2, m2, c2, rfl, rfl, by have := HJ2.out; omega, by have := HJ2.out; omega, HS2, HF2, HVn, HRn⟩, by have := HJ2.out; simp [intOf]; omega⟩
      · have hjf : ((j : Int) == (fr : Int)) = false := beq_eq_false_iff_ne.2 (fun e => hst (.inl (by omega)))
        have hdb : db = false := by cases db; rfl; exact absurd (.inr rfl) hst
        subst hdb
        have HRn : Hid (LsR p L R vs' 0 0 (posK (kidsX p) q j2) f E d true) := Lib.hid (.inl ⟨rfl, rfl, by
          rw [HLq.out, rd_dot HP.out HIj.out HLj.out.1 HDt.out, if_neg, HNj.out]
          rintro (h | h)
          · cases h
          · exact hst (.inl (HFj.out.2 h))⟩)
        have HVn : Hid (vs'.length ≤ posK (kidsX p) q j2) := Lib.hid (by
          have h1 := HSj.out; have h2 := HNj.out; have h3 := HVs.out; have h4 := (HP.out.end_bd (i := i) (by rw [HN.out]; exact hin)).1; omega)
        clear hst
        go_wp2_with fail
        -- MARK6
        exact ⟨⟨j2, true, vs', 0, 0, b', m', c', rfl, rfl, by have := HJ2.out; omega, by have := HJ2.out; omega, HS1, HF1, HVn, HRn⟩, by have := HJ2.out; simp [intOf]; omega⟩
    obtain ⟨d2, hd2⟩ : ∃ d2, d + 1 = d2 := ⟨_, rfl⟩
    have hdd : (d : Int) + 1 = (d2 : Int) := by omega
    have HD2 := Lib.hid hd2
    clear hd2
    rw [HD2.out] at HDj
    -- the next element
    by_cases hl2 : j2 < K
    case neg =>
      have hd3 : decide ((j2 : Int) < (K : Int)) = false := decide_eq_false (by omega)
      have hrf := Below.refl w1.heap.size w1
      go_wp2_with fail
      go_quiet (fail)
      -- MARK7
      have hwd : Below w1.heap.size w1 (w1.drewN nq) := ⟨hrf.os, hrf.tape, hrf.output, hrf.size, hrf.block⟩
      generalize w1.drewN nq = wd at *
      have HDe : Hid (dpt p i E d = d) := Lib.hid (HDj.out.trans (if_neg (fun h => hl2 h.1)))
      have CO := Lib.hid (HOj.out d vs' b' m' c' wd (by have := HD2.out; omega) HVs.out (HS1.out.on hwd) HDt.out)
      have HFd := Lib.hid (HF1.out.trans (WkF.of_below hwd))
      obtain ⟨_, z1, _⟩ := HNd1.out wd hwd
      have HEq := Lib.hid (HLq.out.trans (rd_el HP.out HIj.out HLj.out.1 HDt.out))
      rw [HDe.out] at HEq
      have HLn := Lib.hid (rdF_len p L (spN p i d) vs')
      rw [spN_len HP.out (by rw [HN.out]; exact hin)] at HLn
      obtain ⟨⟨v1, n1, e1⟩, hr1⟩ : ∃ r, rdF p L vs' (spN p i d) = r := ⟨_, rfl⟩
      have HZ := Lib.hid (rdF_zero (p := p) (L := L) (spN p i d) vs')
      rw [hr1] at CO HEq HLn HZ
      clear hr1
      have HVn : Hid (v1.length ≤ posK (kidsX p) q j2) := Lib.hid (by
        have h1 := HLn.out; have h2 := HNj.out; have h3 := HVs.out; have h4 := (HP.out.end_bd (i := i) (by rw [HN.out]; exact hin)).1
        simp only at h1; omega)
      have HRn : Hid (LsR p L R v1 (n1 : Int) e1 (posK (kidsX p) q j2) f E d db) := Lib.hid (by
        by_cases h0 : e1 = 0
        · refine .inl ⟨h0, ?_, ?_⟩
          · have := HZ.out h0; simp only at this; rw [this]; rfl
          · have := HEq.out; simp only at this; rw [if_neg (by simpa using h0), HNj.out] at this; exact this
        · refine .inr ⟨h0, n1, rfl, ?_⟩
          have := HEq.out; simp only at this; rw [if_pos h0] at this; exact this)
      go_wp2_with fail
      -- MARKO
      refine CO.out.mono ?_
      rintro e w2 ⟨rfl, b2, m2, c2, hS2, hF2⟩
      have HS2 := Lib.hid hS2
      have HF2 := Lib.hid (HFd.out.trans hF2)
      clear hS2 hF2 CO HEq HLn HZ
      go_wp2_with fail
      exact ⟨⟨j2, db, v1, (n1 : Int), e1, b2, m2, c2, rfl, rfl, by have := HJ2.out; omega, by have := HJ2.out; omega, HS2, HF2, HVn, HRn⟩, by have := HJ2.out; simp [intOf]; omega⟩
    have hl3 : (j2 : Int) < (K : Int) := by omega
    have hd3 : decide ((j2 : Int) < (K : Int)) = true := decide_eq_true hl3
    obtain ⟨i2, hi2⟩ : ∃ i, posK (kidsX p) q j2 = i := ⟨_, rfl⟩
    have HK2 := Lib.hid (HKat.out j2 hl2)
    have HL2 := Lib.hid (HLt.out j2 hl2)
    rw [hi2] at HK2 HL2 HDj
    have HI2 := Lib.hid hi2
    have hi2n : i2 < n := by rw [← HN.out]; exact HL2.out.2
    have hi21 : (i2 : Int) < (n : Int) := by omega
    have hi20 : (0 : Int) ≤ (i2 : Int) := Int.natCast_nonneg _
    obtain ⟨x, hx⟩ : ∃ x, p[i2]? = some x := ⟨_, List.getElem?_eq_getElem (by rw [HN.out]; exact hi2n)⟩
    have HNd2 : Hid (∀ W', Below w1.heap.size w1 W' → W'.cell? ⟨g, 0, none⟩ = some (.slice (some ⟨g0, o0, none⟩) n c0) ∧ W'.cell? ⟨gx, j2, none⟩ = some (.int .i64 (i2 : Int)) ∧ W'.cell? ⟨g0, o0 + i2 * 8, none⟩ = some (.int .i64 x.k) ∧ W'.cell? ⟨g0, o0 + i2 * 8 + 1, none⟩ = some (.int .i64 x.c) ∧ W'.cell? ⟨g0, o0 + i2 * 8 + 2, none⟩ = some (.int .i64 x.n) ∧ W'.cell? ⟨g0, o0 + i2 * 8 + 3, none⟩ = some (.string (str x.s)) ∧ W'.cell? ⟨g0, o0 + i2 * 8 + 4, none⟩ = some (.string (str x.p)) ∧ W'.cell? ⟨g0, o0 + i2 * 8 + 5, none⟩ = some (.int .i64 x.f) ∧ W'.cell? ⟨g0, o0 + i2 * 8 + 6, none⟩ = some (.int .i64 x.t) ∧ W'.cell? ⟨g0, o0 + i2 * 8 + 7, none⟩ = some (.int .i64 x.o)) := Lib.hid fun W' hW => by
      refine ⟨(box5W (HS1.out.on hW).box).1, HEp1.out W' hW j2 i2 HK2.out, ?_⟩
      obtain ⟨g1, o1, e1, _, f⟩ := (HPv.out W' (below_step HS1.out.bel hW)).node hx
      cases e1; exact f
    have HDt2 : Hid (dotAt p i2 = dotsX x) := Lib.hid (dotAt_of hx)
    clear CD
    have CD := Lib.hid (fun W => Dots_any x W)
    obtain ⟨x0, x1, x2, x3, x4, x5, x6, x7⟩ := x
    simp only [sxA_open] at CD HNd2
    obtain ⟨bd2, hbd⟩ : ∃ b, dotsX ⟨x0, x1, x2, x3, x4, x5, x6, x7⟩ = b := ⟨_, rfl⟩
    rw [hbd] at CD HDt2
    obtain ⟨X2, hX⟩ : ∃ S, str x3 = S := ⟨_, rfl⟩
    obtain ⟨Y2, hY⟩ : ∃ S, str x4 = S := ⟨_, rfl⟩
    rw [hX, hY] at CD HNd2
    clear hbd hX hY hx hi2
    obtain ⟨z0, z1, y0, y1, y2, y3, y4, y5, y6, y7⟩ := HNd2.out w1 (Below.refl _ _)
    go_wp2_with fail
    -- MARK8
    go_region_held3 (fun w' => w'.cell? ⟨g, 0, none⟩ = some (.slice (some ⟨g0, o0, none⟩) n c0) ∧ w'.cell? ⟨gx, j2, none⟩ = some (.int .i64 (i2 : Int)) ∧ w'.cell? ⟨g0, o0 + i2 * 8, none⟩ = some (.int .i64 x0) ∧ w'.cell? ⟨g0, o0 + i2 * 8 + 1, none⟩ = some (.int .i64 x1) ∧ w'.cell? ⟨g0, o0 + i2 * 8 + 2, none⟩ = some (.int .i64 x2) ∧ w'.cell? ⟨g0, o0 + i2 * 8 + 3, none⟩ = some (.string X2) ∧ w'.cell? ⟨g0, o0 + i2 * 8 + 4, none⟩ = some (.string Y2) ∧ w'.cell? ⟨g0, o0 + i2 * 8 + 5, none⟩ = some (.int .i64 x5) ∧ w'.cell? ⟨g0, o0 + i2 * 8 + 6, none⟩ = some (.int .i64 x6) ∧ w'.cell? ⟨g0, o0 + i2 * 8 + 7, none⟩ = some (.int .i64 x7)) (first | exact HNd2.out _ (by assumption) | go_keep) ((go_at_call 38; refine (CD.out _).mono ?_; rintro e wd ⟨rfl, hb1⟩; have hwd : Below w1.heap.size w1 wd := below_step (Below.refl _ w1).drew hb1))
    -- MARK9A
    clear z0 z1 y0 y1 y2 y3 y4 y5 y6 y7 hb1 HNd2 CD
    cases bd2
    case false =>
      have HDe : Hid (dpt p i E d = d) := Lib.hid (HDj.out.trans (if_neg (fun h => by have := h.2; rw [HDt2.out] at this; cases this)))
      have CO := Lib.hid (HOj.out d vs' b' m' c' wd (by have := HD2.out; omega) HVs.out (HS1.out.on hwd) HDt.out)
      have HFd := Lib.hid (HF1.out.trans (WkF.of_below hwd))
      obtain ⟨_, z1, _⟩ := HNd1.out wd hwd
      have HEq := Lib.hid (HLq.out.trans (rd_el HP.out HIj.out HLj.out.1 HDt.out))
      rw [HDe.out] at HEq
      have HLn := Lib.hid (rdF_len p L (spN p i d) vs')
      rw [spN_len HP.out (by rw [HN.out]; exact hin)] at HLn
      obtain ⟨⟨v1, n1, e1⟩, hr1⟩ : ∃ r, rdF p L vs' (spN p i d) = r := ⟨_, rfl⟩
      have HZ := Lib.hid (rdF_zero (p := p) (L := L) (spN p i d) vs')
      rw [hr1] at CO HEq HLn HZ
      clear hr1
      have HVn : Hid (v1.length ≤ posK (kidsX p) q j2) := Lib.hid (by
        have h1 := HLn.out; have h2 := HNj.out; have h3 := HVs.out; have h4 := (HP.out.end_bd (i := i) (by rw [HN.out]; exact hin)).1
        simp only at h1; omega)
      have HRn : Hid (LsR p L R v1 (n1 : Int) e1 (posK (kidsX p) q j2) f E d db) := Lib.hid (by
        by_cases h0 : e1 = 0
        · refine .inl ⟨h0, ?_, ?_⟩
          · have := HZ.out h0; simp only at this; rw [this]; rfl
          · have := HEq.out; simp only at this; rw [if_neg (by simpa using h0), HNj.out] at this; exact this
        · refine .inr ⟨h0, n1, rfl, ?_⟩
          have := HEq.out; simp only at this; rw [if_pos h0] at this; exact this)
      go_wp2_with fail
      -- MARKO
      refine CO.out.mono ?_
      rintro e w2 ⟨rfl, b2, m2, c2, hS2, hF2⟩
      have HS2 := Lib.hid hS2
      have HF2 := Lib.hid (HFd.out.trans hF2)
      clear hS2 hF2 CO HEq HLn HZ
      go_wp2_with fail
      exact ⟨⟨j2, db, v1, (n1 : Int), e1, b2, m2, c2, rfl, rfl, by have := HJ2.out; omega, by have := HJ2.out; omega, HS2, HF2, HVn, HRn⟩, by have := HJ2.out; simp [intOf]; omega⟩
    have HDe : Hid (dpt p i E d = d2) := Lib.hid (HDj.out.trans (if_pos ⟨hl2, HDt2.out⟩))
    have CO := Lib.hid (HOj.out d2 vs' b' m' c' wd (by have := HD2.out; omega) HVs.out (HS1.out.on hwd) HDt.out)
    have HFd := Lib.hid (HF1.out.trans (WkF.of_below hwd))
    obtain ⟨_, z1, _⟩ := HNd1.out wd hwd
    have HEq := Lib.hid (HLq.out.trans (rd_el HP.out HIj.out HLj.out.1 HDt.out))
    rw [HDe.out] at HEq
    have HLn := Lib.hid (rdF_len p L (spN p i d2) vs')
    rw [spN_len HP.out (by rw [HN.out]; exact hin)] at HLn
    obtain ⟨⟨v1, n1, e1⟩, hr1⟩ : ∃ r, rdF p L vs' (spN p i d2) = r := ⟨_, rfl⟩
    have HZ := Lib.hid (rdF_zero (p := p) (L := L) (spN p i d2) vs')
    rw [hr1] at CO HEq HLn HZ
    clear hr1
    have HVn : Hid (v1.length ≤ posK (kidsX p) q j2) := Lib.hid (by
      have h1 := HLn.out; have h2 := HNj.out; have h3 := HVs.out; have h4 := (HP.out.end_bd (i := i) (by rw [HN.out]; exact hin)).1
      simp only at h1; omega)
    have HRn : Hid (LsR p L R v1 (n1 : Int) e1 (posK (kidsX p) q j2) f E d db) := Lib.hid (by
      by_cases h0 : e1 = 0
      · refine .inl ⟨h0, ?_, ?_⟩
        · have := HZ.out h0; simp only at this; rw [this]; rfl
        · have := HEq.out; simp only at this; rw [if_neg (by simpa using h0), HNj.out] at this; exact this
      · refine .inr ⟨h0, n1, rfl, ?_⟩
        have := HEq.out; simp only at this; rw [if_pos h0] at this; exact this)
    go_wp2_with fail
    -- MARKO
    refine CO.out.mono ?_
    rintro e w2 ⟨rfl, b2, m2, c2, hS2, hF2⟩
    have HS2 := Lib.hid hS2
    have HF2 := Lib.hid (HFd.out.trans hF2)
    clear hS2 hF2 CO HEq HLn HZ
    go_wp2_with fail
    exact ⟨⟨j2, db, v1, (n1 : Int), e1, b2, m2, c2, rfl, rfl, by have := HJ2.out; omega, by have := HJ2.out; omega, HS2, HF2, HVn, HRn⟩, by have := HJ2.out; simp [intOf]; omega⟩
-- MARK9
end Go.Proofs.YtdiinlmeoifgjaaGreatDoor

/- The reference's walk through a pattern: one node. (Written by tools/gen_hwo.py.) -/
namespace Go.Proofs.YtdiinlmeoifgjaaGreatDoor
open Go.RowKit Go.PlainAid

theorem natC_atW {l : List Nat} {j q : Nat} (h : l[j]? = some q) : (natC l)[j]? = some (.int .i64 (q : Int)) := by unfold natC; rw [List.getElem?_map, h]; rfl
theorem elc_own {w : World} {B n : Nat} {a : Option Addr} {c : Nat} {l : List Nat} (h : w.ownsRow B 3 1 (.slice a n c) n (natC l)) (hn : 0 < n) : ∃ gx, a = some ⟨gx, 0, none⟩ ∧ B ≤ gx ∧ gx < w.heap.size ∧ ElC gx l w := by
  rcases own_form h with ⟨e, h0⟩ | ⟨g, c', e, h1, h2⟩
  · omega
  · obtain ⟨rfl, -, rfl⟩ := Value.slice.inj e
    exact ⟨g, rfl, h1, h2, fun j q hj => own_cell h (natC_atW hj)⟩
theorem WkS.rlt {w0 : World} {g : Nat} {pv lv : Value} {vs : List Pv} {nd e : Int} {b : Option Addr} {m c : Nat} {W : World} (h : WkS w0 g pv lv vs nd e b m c W) : ∀ r, (Value.slice b m c).ownBlock = some r → r < W.heap.size := fun r hr => (h.row.lt r hr).2
theorem WkS.push {w0 : World} {g : Nat} {pv lv : Value} {vs : List Pv} {b : Option Addr} {m c : Nat} {W1 W2 : World} (h : WkS w0 g pv lv vs 0 0 b m c W1) {gr cap : Nat} {qd : Pv} (ho : W2.ownsRow w0.heap.size 45 3 (.slice (some ⟨gr, 0, none⟩) (m + 1) cap) (m + 1) (vcs vs ++ pvC qd)) (hg : W1.grownBy W2 (Value.slice b m c).ownBlock) (hat : (Value.slice b m c).ownBlock = some gr ∨ gr = W1.heap.size) :
    WkS w0 g pv lv (vs ++ [qd]) 0 0 (some ⟨gr, 0, none⟩) (m + 1) cap (W2.setCell ⟨g, 2, none⟩ (.slice (some ⟨gr, 0, none⟩) (m + 1) cap)) ∧ WkF g (Value.slice b m c).ownBlock (Value.slice (some ⟨gr, 0, none⟩) (m + 1) cap).ownBlock W1 (W2.setCell ⟨g, 2, none⟩ (.slice (some ⟨gr, 0, none⟩) (m + 1) cap)) ∧ W2.cell? ⟨g, 2, none⟩ = some (.slice b m c) ∧ W2.frozen? ⟨g, 2, none⟩ = false := by
  have hbox : W2.heap[g]? = some (.cells #[pv, lv, .slice b m c, .int .i64 0, .int .i64 0] 54 (0, 0)) := (hg.block g h.lt (fun e => h.apart e.symm)).trans h.box
  have hne : (Value.slice (some ⟨gr, 0, none⟩) (m + 1) cap).ownBlock ≠ some g := fun e => own_ne hbox ho (by decide) g e rfl
  have hv : vcs (vs ++ [qd]) = vcs vs ++ pvC qd := by rw [vcs_app, vcs_one]
  obtain ⟨_, _, k2, _, _, f2, _⟩ := box5W hbox
  refine ⟨⟨set5c2 _ hbox, by rw [hv]; exact ownsRow_setCell_other ho hne _, by rw [List.length_append, h.len]; rfl, h.ge, (h.bel.grown hg h.bel.size (fun k hk => (h.row.lt k hk).1)).setCell h.ge _⟩, ⟨Nat.le_trans hg.size (KeepsWalks.setCell W2 _ _).size, fun k hk hkg hr => (Below.heap_setCell _ _ _ k hkg).trans (hg.block k hk (fun e => hr e.symm)), fun r hr => ?_⟩, k2, f2⟩
  have e : gr = r := Option.some.inj hr
  subst e
  rcases hat with h1 | h1
  · exact .inl h1
  · exact .inr (by omega)
theorem cells_eq {W W' : World} {A : Nat} {v0 v1 v2 v3 v4 v5 v6 v7 : Value} (h : ∀ j, W'.cell? ⟨A, j, none⟩ = W.cell? ⟨A, j, none⟩) (hc : W.cell? ⟨A, 0, none⟩ = some v0 ∧ W.cell? ⟨A, 1, none⟩ = some v1 ∧ W.cell? ⟨A, 2, none⟩ = some v2 ∧ W.cell? ⟨A, 3, none⟩ = some v3 ∧ W.cell? ⟨A, 4, none⟩ = some v4 ∧ W.cell? ⟨A, 5, none⟩ = some v5 ∧ W.cell? ⟨A, 6, none⟩ = some v6 ∧ W.cell? ⟨A, 7, none⟩ = some v7) :
    W'.cell? ⟨A, 0, none⟩ = some v0 ∧ W'.cell? ⟨A, 1, none⟩ = some v1 ∧ W'.cell? ⟨A, 2, none⟩ = some v2 ∧ W'.cell? ⟨A, 3, none⟩ = some v3 ∧ W'.cell? ⟨A, 4, none⟩ = some v4 ∧ W'.cell? ⟨A, 5, none⟩ = some v5 ∧ W'.cell? ⟨A, 6, none⟩ = some v6 ∧ W'.cell? ⟨A, 7, none⟩ = some v7 := by
  simp only [h]; exact hc
theorem wkR_of {w0 : World} {g : Nat} {pv lv : Value} {R : RdR} {ro : Option Nat} {W W1 W' : World} {e : Ending} (h : WkR w0 g pv lv R ro W1 e W') (hF : WkF g ro ro W W1) : WkR w0 g pv lv R ro W e W' := by
  obtain ⟨h1, b, m, c, h2, h3⟩ := h
  exact ⟨h1, b, m, c, h2, hF.trans h3⟩
theorem wkR_ret {ro : Option Nat} {w0 : World} {g : Nat} {pv lv : Value} {vs : List Pv} {b : Option Addr} {m c : Nat} {W W' : World} (h : WkS w0 g pv lv vs 0 0 b m c W') (hF : WkF g ro (Value.slice b m c).ownBlock W W') : WkR w0 g pv lv (vs, 0, 0) ro W (.returned (.tuple #[])) W' := ⟨rfl, b, m, c, h, hF⟩
set_option maxRecDepth 100000 in
set_option maxHeartbeats 12800000 in
theorem one_list (w0 : World) (g g0 o0 n c0 : Nat) (lv : Value) (p : List Sx) (L : List Pid) (hc : (chkX p).2 = 0) (hn : p.length = n)
    (HV : ∀ W, Below w0.heap.size w0 W → XsAt W (.slice (some ⟨g0, o0, none⟩) n c0) p) (i : Nat) (hi : i < n) (x : Sx) (hx : p[i]? = some x) (hk : x.k = 4)
    (IH : ∀ i', i' < n → i < i' → endX p i' ≤ endX p i → OneOk w0 g (.slice (some ⟨g0, o0, none⟩) n c0) lv p L i') : OneOk w0 g (.slice (some ⟨g0, o0, none⟩) n c0) lv p L i := by
  intro d vs b m c W hd hvs hS hdot
  have hp := chkX_pat hc
  have hl : n ≤ 2000 := by rw [← hn]; exact (chkX_tree hc).2.2
  have hil : i < p.length := by rw [hn]; exact hi
  have hp0 : posK (kidsX p) i 0 = i + 1 := posK_start (by rw [kidsX_len]; exact hil)
  rw [rd_lst hx hk]
  obtain ⟨g1, o1, e1, _, y0, y1, y2, y3, y4, y5, y6, y7⟩ := (HV W hS.bel).node hx
  obtain ⟨rfl, rfl⟩ : g0 = g1 ∧ o0 = o1 := by cases e1; exact ⟨rfl, rfl⟩
  obtain ⟨k0, k1, k2, _⟩ := box5W hS.box
  obtain ⟨x0, x1, x2, x3, x4, x5, x6, x7⟩ := x
  simp only at y0 y1 y2 y3 y4 y5 y6 y7 hk
  subst hk
  obtain ⟨X, hX⟩ : ∃ S, str x3 = S := ⟨_, rfl⟩
  obtain ⟨Y, hY⟩ : ∃ S, str x4 = S := ⟨_, rfl⟩
  rw [hX] at y3
  rw [hY] at y4
  have hb1 : Below W.heap.size W (W.alloc (.cells #[.int .i64 4, .int .i64 x1, .int .i64 x2, .string X, .string Y, .int .i64 x5, .int .i64 x6, .int .i64 x7] 38)) := below_b1 W _
  obtain ⟨W1, hW1⟩ : ∃ W1, W.alloc (.cells #[.int .i64 4, .int .i64 x1, .int .i64 x2, .string X, .string Y, .int .i64 x5, .int .i64 x6, .int .i64 x7] 38) = W1 := ⟨_, rfl⟩
  have hq1 : W1.cell? ⟨W.heap.size, 0, none⟩ = some (.int .i64 4) := by
    have := World.alloc_heap_new W (.cells #[.int .i64 4, .int .i64 x1, .int .i64 x2, .string X, .string Y, .int .i64 x5, .int .i64 x6, .int .i64 x7] 38)
    rw [hW1] at this
    exact (box8F this).1
  rw [hW1] at hb1
  have hS1 := hS.on hb1
  obtain ⟨m0, m1, m2, _⟩ := box5W hS1.box
  have CE := Lib.hid (rElements_any _ p i W1 (HV W1 hS1.bel) hc hil)
  have hKc : 0 ≤ cnt (kidsX p) i := Nat.zero_le _
  have CL : Hid (∀ xa xc w2, Below W1.heap.size W1 w2 → w2.ownsRow W1.heap.size 3 1 (.slice xa (cnt (kidsX p) i) xc) (cnt (kidsX p) i) (natC (kidsN (kidsX p) i)) →
      Calls Tryz.prog 30 #[.pointer (some ⟨g, 0, none⟩), .slice xa (cnt (kidsX p) i) xc, .int .i64 (0 : Int), .int .i64 (d : Int)] w2
        (WkR w0 g (.slice (some ⟨g0, o0, none⟩) n c0) lv (rdF p L vs (spE p (i + 1) (i + 1) (endX p i) d false)) (Value.slice b m c).ownBlock W)) := Lib.hid fun xa xc w2 hb2 ho => by
    have hS2 := hS1.on hb2
    have h1 := list_go w0 g g0 o0 n c0 lv p L hp hn hl HV i 0 d hi (Nat.zero_le _) hd (fun j _ hj => IH _ (by rw [← hn]; exact (el_lt hp hil hj).2) (el_small hp hil hj).1 (el_small hp hil hj).2) xa xc vs b m c w2 hS2 (by rw [hp0]; omega) (fun h0 => by
      obtain ⟨gx, e1, e2, e3, e4⟩ := elc_own ho h0
      refine ⟨gx, e1, e3, ?_, fun e => ?_, e4⟩
      · have := hS1.lt; omega
      · have := hS1.rlt gx e; omega)
    rw [hp0] at h1
    exact h1.mono fun e w' h => wkR_of h ((WkF.of_below hb1).trans (WkF.of_below hb2))
  obtain ⟨K, hK⟩ : ∃ K, cnt (kidsX p) i = K := ⟨_, rfl⟩
  rw [hK] at CE CL
  generalize hRV : WkR w0 g (.slice (some ⟨g0, o0, none⟩) n c0) lv (rdF p L vs (spE p (i + 1) (i + 1) (endX p i) d false)) (Value.slice b m c).ownBlock W = RV at *
  have hRW := Lib.hid hRV
  have hi0 : (0 : Int) ≤ (i : Int) := Int.natCast_nonneg _
  have hi1 : (i : Int) < (n : Int) := by omega
  clear hS hS1 IH HV hX hY hx hdot hRV hc hn hp hp0 hil hK hKc
  go_enter Tryz.func39, Tryz.ntmps39
  go_wp2_with fail
  -- MARK1
  refine CE.out.mono ?_
  rintro e w2 ⟨xa, xc, rfl, ho, hb2⟩
  have CL := Lib.hid (CL.out xa xc w2 hb2 ho)
  clear hW1
  go_wp2_with fail
  -- MARK2
  refine CL.out.mono ?_
  intro e w3 h3
  have H3 := Lib.hid h3
  clear h3
  -- MARK3
  obtain ⟨rfl, _⟩ : e = .returned (.tuple #[]) ∧ True := ⟨by have := H3.out; rw [← hRW.out] at this; exact this.1, trivial⟩
  go_wp2_with fail
  go_end0
  exact H3.out
set_option maxRecDepth 100000 in
set_option maxHeartbeats 25600000 in
theorem one_leaf (w0 : World) (g g0 o0 n c0 : Nat) (lv : Value) (p : List Sx) (L : List Pid) (hn : p.length = n) (hl : n ≤ 2000)
    (HV : ∀ W, Below w0.heap.size w0 W → XsAt W (.slice (some ⟨g0, o0, none⟩) n c0) p) (HU : ∀ W, Below w0.heap.size w0 W → PsAt W lv L) (hll : L.length ≤ 100000) (i : Nat) (hi : i < n) (x : Sx) (hx : p[i]? = some x) (hk : x.k ≠ 4) : OneOk w0 g (.slice (some ⟨g0, o0, none⟩) n c0) lv p L i := by
  intro d vs b m c W hd hvs hS hdot
  rw [rd_leaf hx hk hdot]
  obtain ⟨g1, o1, e1, _, y0, y1, y2, y3, y4, y5, y6, y7⟩ := (HV W hS.bel).node hx
  obtain ⟨rfl, rfl⟩ : g0 = g1 ∧ o0 = o1 := by cases e1; exact ⟨rfl, rfl⟩
  obtain ⟨k0, k1, k2, _⟩ := box5W hS.box
  obtain ⟨ua, uc, rfl, _⟩ := (HU W hS.bel).slice
  obtain ⟨um, hum⟩ : ∃ um, L.length = um := ⟨_, rfl⟩
  rw [hum] at hll k1
  have CB := Lib.hid (fun W => Blank_any x W)
  have CI := Lib.hid (fun W => Id_any x W)
  have CH := Lib.hid (fun W' (hW : Below w0.heap.size w0 W') => rHas_any _ L x.s x.p W' (HU W' hW) (by rw [hum]; exact hll))
  rw [hum] at CH HU hS ⊢
  obtain ⟨x0, x1, x2, x3, x4, x5, x6, x7⟩ := x
  unfold idX keyV at CI
  simp only [sxA_open] at y0 y1 y2 y3 y4 y5 y6 y7 hk CB CI CH
  have hk4 : (x0 == 4) = false := beq_eq_false_iff_ne.2 hk
  have HIdx : Hid (idX ⟨x0, x1, x2, x3, x4, x5, x6, x7⟩ = (x3, x4)) := Lib.hid rfl
  obtain ⟨bk, hbk⟩ : ∃ b, blkX ⟨x0, x1, x2, x3, x4, x5, x6, x7⟩ = b := ⟨_, rfl⟩
  obtain ⟨bt, hbt⟩ : ∃ b, (x0 != 3) = b := ⟨_, rfl⟩
  obtain ⟨bm, hbm⟩ : ∃ b, decide (((x3, x4) : Pid) ∈ L) = b := ⟨_, rfl⟩
  rw [hbk] at CB
  rw [hbm] at CH
  obtain ⟨R, hR⟩ : ∃ R : RdR, (if (⟨x0, x1, x2, x3, x4, x5, x6, x7⟩ : Sx).k ≠ 3 ∨ blkX ⟨x0, x1, x2, x3, x4, x5, x6, x7⟩ = true ∨ idX ⟨x0, x1, x2, x3, x4, x5, x6, x7⟩ ∈ L then (vs, 0, 0) else if 3 < d then (vs, i, 3) else if idX ⟨x0, x1, x2, x3, x4, x5, x6, x7⟩ ∈ vs.map (·.1) then (vs, i, 8) else (vs ++ [(idX ⟨x0, x1, x2, x3, x4, x5, x6, x7⟩, d)], 0, 0)) = R := ⟨_, rfl⟩
  have H1 : Hid (bt = true ∨ bk = true ∨ bm = true → R = (vs, 0, 0)) := Lib.hid fun e => by
    rw [← hR, if_pos]
    rcases e with e | e | e
    · left; rw [← hbt] at e; exact bne_iff_ne.1 e
    · right; left; rw [hbk]; exact e
    · right; right; rw [← hbm] at e; rw [HIdx.out]; exact of_decide_eq_true e
  have H2 : Hid (bt = false → bk = false → bm = false → R = if 3 < d then (vs, i, 3) else if (x3, x4) ∈ vs.map (·.1) then (vs, i, 8) else (vs ++ [((x3, x4), d)], 0, 0)) := Lib.hid fun e1 e2 e3 => by
    rw [← hR, if_neg, HIdx.out]
    rintro (h | h | h)
    · rw [← hbt] at e1; exact h (by simpa using e1)
    · rw [hbk, e2] at h; cases h
    · rw [← hbm] at e3; rw [HIdx.out] at h; exact of_decide_eq_false e3 h
  rw [hR]
  obtain ⟨X, hX⟩ : ∃ S, str x3 = S := ⟨_, rfl⟩
  obtain ⟨Y, hY⟩ : ∃ S, str x4 = S := ⟨_, rfl⟩
  have HXs := Lib.hid hX
  have HYs := Lib.hid hY
  rw [hX] at y3 CB CI CH
  rw [hY] at y4 CB CI CH
  have hb1 : Below W.heap.size W (W.alloc (.cells #[.int .i64 x0, .int .i64 x1, .int .i64 x2, .string X, .string Y, .int .i64 x5, .int .i64 x6, .int .i64 x7] 38)) := below_b1 W _
  have hx8 := World.alloc_heap_new W (.cells #[.int .i64 x0, .int .i64 x1, .int .i64 x2, .string X, .string Y, .int .i64 x5, .int .i64 x6, .int .i64 x7] 38)
  have hz8 : W.heap.size < (W.alloc (.cells #[.int .i64 x0, .int .i64 x1, .int .i64 x2, .string X, .string Y, .int .i64 x5, .int .i64 x6, .int .i64 x7] 38)).heap.size := by rw [World.size_alloc]; exact Nat.lt_succ_self _
  obtain ⟨W1, hW1⟩ : ∃ W1, W.alloc (.cells #[.int .i64 x0, .int .i64 x1, .int .i64 x2, .string X, .string Y, .int .i64 x5, .int .i64 x6, .int .i64 x7] 38) = W1 := ⟨_, rfl⟩
  rw [hW1] at hb1 hx8 hz8
  have HS1 := Lib.hid (hS.on hb1)
  have HSl := Lib.hid hS.lt
  have HSr := Lib.hid hS.rlt
  have HF1 : Hid (WkF g (Value.slice b m c).ownBlock (Value.slice b m c).ownBlock W W1) := Lib.hid (WkF.of_below hb1)
  have HB8 := Lib.hid (fun W' (hW : Below W1.heap.size W1 W') => box8F ((hW.block W.heap.size hz8).trans hx8))
  obtain ⟨q0, q1, q2, q3, q4, q5, q6, q7⟩ := HB8.out _ (Below.refl _ _)
  have HK : Hid (∀ W', Below W1.heap.size W1 W' → W'.cell? ⟨W.heap.size, 0, none⟩ = some (.int .i64 x0) ∧ W'.cell? ⟨W.heap.size, 1, none⟩ = some (.int .i64 x1) ∧ W'.cell? ⟨W.heap.size, 2, none⟩ = some (.int .i64 x2) ∧ W'.cell? ⟨W.heap.size, 3, none⟩ = some (.string X) ∧ W'.cell? ⟨W.heap.size, 4, none⟩ = some (.string Y) ∧ W'.cell? ⟨W.heap.size, 5, none⟩ = some (.int .i64 x5) ∧ W'.cell? ⟨W.heap.size, 6, none⟩ = some (.int .i64 x6) ∧ W'.cell? ⟨W.heap.size, 7, none⟩ = some (.int .i64 x7) ∧ W'.cell? ⟨g, 1, none⟩ = some (.slice ua um uc)) := Lib.hid fun W' hW => by
    obtain ⟨a0, a1, a2, a3, a4, a5, a6, a7⟩ := HB8.out W' hW
    exact ⟨a0, a1, a2, a3, a4, a5, a6, a7, (box5W (HS1.out.on hW).box).2.1⟩
  have CHx := Lib.hid (fun W' (hW : Below W1.heap.size W1 W') => CH.out W' (below_step HS1.out.bel hW))
  have HN := Lib.hid hn
  have HRV : Hid (∀ e W' r, R = r → WkR w0 g (.slice (some ⟨g0, o0, none⟩) n c0) (.slice ua um uc) r (Value.slice b m c).ownBlock W e W' → WkR w0 g (.slice (some ⟨g0, o0, none⟩) n c0) (.slice ua um uc) R (Value.slice b m c).ownBlock W e W') := Lib.hid fun e W' r h1 h2 => by rw [h1]; exact h2
  generalize hRV : WkR w0 g (.slice (some ⟨g0, o0, none⟩) n c0) (.slice ua um uc) R (Value.slice b m c).ownBlock W = RV at *
  have hi0 : (0 : Int) ≤ (i : Int) := Int.natCast_nonneg _
  have hi1 : (i : Int) < (n : Int) := by omega
  have hd0 : (0 : Int) ≤ (d : Int) := Int.natCast_nonneg _
  clear hS HV HU hX hY hx hdot hRV hn hR hbk hbm hx8 CH hum hk
  go_enter Tryz.func39, Tryz.ntmps39
  go_wp2_with fail
  -- MARK4
  clear y0 y1 y2 y3 y4 y5 y6 y7 k0 k1 k2 hW1
  generalize W.heap.size = A8 at *
  have hbD : Below W1.heap.size W1 W1.drew := (Below.refl _ W1).drew
  have hb0 : Below W1.heap.size W1 W1 := Below.refl _ _
  cases bt
  case true =>
    have HRt := Lib.hid (HRV.out _ W1.drew _ (H1.out (.inl rfl)) (wkR_ret (HS1.out.on hbD) (HF1.out.trans (WkF.of_below hbD))))
    go_wp2_with fail
    -- MARK5
    · skip
      refine wp_region_held_drew (S := (fun W' => W'.cell? ⟨A8, 0, none⟩ = some (.int .i64 x0) ∧ W'.cell? ⟨A8, 1, none⟩ = some (.int .i64 x1) ∧ W'.cell? ⟨A8, 2, none⟩ = some (.int .i64 x2) ∧ W'.cell? ⟨A8, 3, none⟩ = some (.string X) ∧ W'.cell? ⟨A8, 4, none⟩ = some (.string Y) ∧ W'.cell? ⟨A8, 5, none⟩ = some (.int .i64 x5) ∧ W'.cell? ⟨A8, 6, none⟩ = some (.int .i64 x6) ∧ W'.cell? ⟨A8, 7, none⟩ = some (.int .i64 x7) ∧ W'.cell? ⟨g, 1, none⟩ = some (.slice ua um uc))) (by kernel_rfl) (by first | exact HK.out _ (by assumption)) (fun hHeld => ?_)
      refine wpAnyH_take (i := 0) (v := ?_) rfl (by kernel_rfl) (by kernel_rfl) (by decide +kernel) (fun _ _ _ h => h) (Or.inl ⟨by rfl, ?hy⟩) (by assumption) ?_
      case hy => (intro w hSw; (try dsimp only at hSw); go_simp; try with_reducible rfl)
      simp only [List.getElem_toArray, List.getElem_cons_zero, Act.put, List.setIfInBounds_toArray, List.set_cons_succ, List.set_cons_zero]
      refine wpAnyH_take (i := 1) (v := ?_) rfl (by kernel_rfl) (by kernel_rfl) (by decide +kernel) (fun _ _ _ h => h) (Or.inl ⟨by rfl, ?hy⟩) (by assumption) ?_
      case hy => (intro w hSw; (try dsimp only at hSw); go_simp; try with_reducible rfl)
      simp only [List.getElem_toArray, List.getElem_cons_succ, List.getElem_cons_zero, Act.put, List.setIfInBounds_toArray, List.set_cons_succ, List.set_cons_zero]
      refine wpAnyH_take (i := 2) (v := ?_) rfl (by kernel_rfl) (by kernel_rfl) (by decide +kernel) (fun _ _ _ h => h) (Or.inl ⟨by rfl, ?hy⟩) (by assumption) ?_
      case hy => (intro w hSw; (try dsimp only at hSw); go_simp; try with_reducible rfl)
      simp only [List.getElem_toArray, List.getElem_cons_succ, List.getElem_cons_zero, Act.put, List.setIfInBounds_toArray, List.set_cons_succ, List.set_cons_zero]
      refine wpAnyH_take (i := 3) (v := ?_) rfl (by kernel_rfl) (by kernel_rfl) (by decide +kernel) (fun _ _ _ h => h) (Or.inl ⟨by rfl, ?hy⟩) (by assumption) ?_
      case hy => (intro w hSw; (try dsimp only at hSw); go_simp; try with_reducible rfl)
      simp only [List.getElem_toArray, List.getElem_cons_succ, List.getElem_cons_zero, Act.put, List.setIfInBounds_toArray, List.set_cons_succ, List.set_cons_zero]
      refine wpAnyH_take (i := 4) (v := undef) rfl (by kernel_rfl) (by kernel_rfl) (by decide +kernel) (fun _ _ _ h => h) (Or.inr ⟨by rfl, rfl⟩) (by assumption) ?_
      simp only [List.getElem_toArray, List.getElem_cons_succ, List.getElem_cons_zero, Act.put, List.setIfInBounds_toArray, List.set_cons_succ, List.set_cons_zero]
      refine wpAnyH_take (i := 5) (v := undef) rfl (by kernel_rfl) (by kernel_rfl) (by decide +kernel) (fun _ _ _ h => h) (Or.inr ⟨by rfl, rfl⟩) (by assumption) ?_
      simp only [List.getElem_toArray, List.getElem_cons_succ, List.getElem_cons_zero, Act.put, List.setIfInBounds_toArray, List.set_cons_succ, List.set_cons_zero]
      refine wpAnyH_take (i := 6) (v := ?_) rfl (by kernel_rfl) (by kernel_rfl) (by decide +kernel) (fun _ _ _ h => h) (Or.inl ⟨by rfl, ?hy⟩) (by assumption) ?_
      case hy => (intro w hSw; (try dsimp only at hSw); go_simp; try with_reducible rfl)
      simp only [List.getElem_toArray, List.getElem_cons_succ, List.getElem_cons_zero, Act.put, List.setIfInBounds_toArray, List.set_cons_succ, List.set_cons_zero]
      refine wpAnyH_take (i := 7) (v := ?_) rfl (by kernel_rfl) (by kernel_rfl) (by decide +kernel) (fun _ _ _ h => h) (Or.inl ⟨by rfl, ?hy⟩) (by assumption) ?_
      case hy => (intro w hSw; (try dsimp only at hSw); go_simp; try with_reducible rfl)
      simp only [List.getElem_toArray, List.getElem_cons_succ, List.getElem_cons_zero, Act.put, List.setIfInBounds_toArray, List.set_cons_succ, List.set_cons_zero]
      refine wpAnyH_take (i := 8) (v := undef) rfl (by kernel_rfl) (by kernel_rfl) (by decide +kernel) (fun _ _ _ h => h) (Or.inr ⟨by rfl, rfl⟩) (by assumption) ?_
      simp only [List.getElem_toArray, List.getElem_cons_succ, List.getElem_cons_zero, Act.put, List.setIfInBounds_toArray, List.set_cons_succ, List.set_cons_zero]
      refine wpAnyH_take (i := 9) (v := undef) rfl (by kernel_rfl) (by kernel_rfl) (by decide +kernel) (fun _ _ _ h => h) (Or.inr ⟨by rfl, rfl⟩) (by assumption) ?_
      simp only [List.getElem_toArray, List.getElem_cons_succ, List.getElem_cons_zero, Act.put, List.setIfInBounds_toArray, List.set_cons_succ, List.set_cons_zero]
      refine wpAnyH_take (i := 10) (v := undef) rfl (by kernel_rfl) (by kernel_rfl) (by decide +kernel) (fun _ _ _ h => h) (Or.inr ⟨by rfl, rfl⟩) (by assumption) ?_
      simp only [List.getElem_toArray, List.getElem_cons_succ, List.getElem_cons_zero, Act.put, List.setIfInBounds_toArray, List.set_cons_succ, List.set_cons_zero]
      refine wpAnyH_take (i := 11) (v := undef) rfl (by kernel_rfl) (by kernel_rfl) (by decide +kernel) (fun _ _ _ h => h) (Or.inr ⟨by rfl, rfl⟩) (by assumption) ?_
      simp only [List.getElem_toArray, List.getElem_cons_succ, List.getElem_cons_zero, Act.put, List.setIfInBounds_toArray, List.set_cons_succ, List.set_cons_zero]
      refine wpAnyH_take (i := 12) (v := undef) rfl (by kernel_rfl) (by kernel_rfl) (by decide +kernel) (fun _ _ _ h => h) (Or.inr ⟨by rfl, rfl⟩) (by assumption) ?_
      simp only [List.getElem_toArray, List.getElem_cons_succ, List.getElem_cons_zero, Act.put, List.setIfInBounds_toArray, List.set_cons_succ, List.set_cons_zero]
      refine wpAnyH_take (i := 13) (v := undef) rfl (by kernel_rfl) (by kernel_rfl) (by decide +kernel) (fun _ _ _ h => h) (Or.inr ⟨by rfl, rfl⟩) (by assumption) ?_
      simp only [List.getElem_toArray, List.getElem_cons_succ, List.getElem_cons_zero, Act.put, List.setIfInBounds_toArray, List.set_cons_succ, List.set_cons_zero]
      refine wpAnyH_take (i := 14) (v := undef) rfl (by kernel_rfl) (by kernel_rfl) (by decide +kernel) (fun _ _ _ h => h) (Or.inr ⟨by rfl, rfl⟩) (by assumption) ?_
      simp only [List.getElem_toArray, List.getElem_cons_succ, List.getElem_cons_zero, Act.put, List.setIfInBounds_toArray, List.set_cons_succ, List.set_cons_zero]
      refine wpAnyH_take (i := 15) (v := ?_) rfl (by kernel_rfl) (by kernel_rfl) (by decide +kernel) (fun _ _ _ h => h) (Or.inl ⟨by rfl, ?hy⟩) (by assumption) ?_
      case hy => (intro w hSw; (try dsimp only at hSw); go_simp; try with_reducible rfl)
      simp only [List.getElem_toArray, List.getElem_cons_succ, List.getElem_cons_zero, Act.put, List.setIfInBounds_toArray, List.set_cons_succ, List.set_cons_zero]
      refine wpAnyH_done (by kernel_rfl) ?_ _
      go_wp2_with fail
      -- MARK6
      go_end0
      exact HRt.out
  cases bk
  case true =>
    have HRt := Lib.hid (fun W' (hW : Below W1.heap.size W1 W') => HRV.out _ W' _ (H1.out (.inr (.inl rfl))) (wkR_ret (HS1.out.on hW) (HF1.out.trans (WkF.of_below hW))))
    go_wp2_with fail
    · skip
      refine wp_region_held_drew (S := (fun W' => W'.cell? ⟨A8, 0, none⟩ = some (.int .i64 x0) ∧ W'.cell? ⟨A8, 1, none⟩ = some (.int .i64 x1) ∧ W'.cell? ⟨A8, 2, none⟩ = some (.int .i64 x2) ∧ W'.cell? ⟨A8, 3, none⟩ = some (.string X) ∧ W'.cell? ⟨A8, 4, none⟩ = some (.string Y) ∧ W'.cell? ⟨A8, 5, none⟩ = some (.int .i64 x5) ∧ W'.cell? ⟨A8, 6, none⟩ = some (.int .i64 x6) ∧ W'.cell? ⟨A8, 7, none⟩ = some (.int .i64 x7) ∧ W'.cell? ⟨g, 1, none⟩ = some (.slice ua um uc))) (by kernel_rfl) (by first | exact HK.out _ (by assumption)) (fun hHeld => ?_)
      refine wpAnyH_take (i := 0) (v := ?_) rfl (by kernel_rfl) (by kernel_rfl) (by decide +kernel) (fun _ _ _ h => h) (Or.inl ⟨by rfl, ?hy⟩) (by assumption) ?_
      case hy => (intro w hSw; (try dsimp only at hSw); go_simp; try with_reducible rfl)
      simp only [List.getElem_toArray, List.getElem_cons_zero, Act.put, List.setIfInBounds_toArray, List.set_cons_succ, List.set_cons_zero]
      refine wpAnyH_take (i := 1) (v := ?_) rfl (by kernel_rfl) (by kernel_rfl) (by decide +kernel) (fun _ _ _ h => h) (Or.inl ⟨by rfl, ?hy⟩) (by assumption) ?_
      case hy => (intro w hSw; (try dsimp only at hSw); go_simp; try with_reducible rfl)
      simp only [List.getElem_toArray, List.getElem_cons_succ, List.getElem_cons_zero, Act.put, List.setIfInBounds_toArray, List.set_cons_succ, List.set_cons_zero]
      refine wpAnyH_take (i := 2) (v := ?_) rfl (by kernel_rfl) (by kernel_rfl) (by decide +kernel) (fun _ _ _ h => h) (Or.inl ⟨by rfl, ?hy⟩) (by assumption) ?_
      case hy => (intro w hSw; (try dsimp only at hSw); go_simp; try with_reducible rfl)
      simp only [List.getElem_toArray, List.getElem_cons_succ, List.getElem_cons_zero, Act.put, List.setIfInBounds_toArray, List.set_cons_succ, List.set_cons_zero]
      refine wpAnyH_take (i := 3) (v := ?_) rfl (by kernel_rfl) (by kernel_rfl) (by decide +kernel) (fun _ _ _ h => h) (Or.inl ⟨by rfl, ?hy⟩) (by assumption) ?_
      case hy => (intro w hSw; (try dsimp only at hSw); go_simp; try with_reducible rfl)
      simp only [List.getElem_toArray, List.getElem_cons_succ, List.getElem_cons_zero, Act.put, List.setIfInBounds_toArray, List.set_cons_succ, List.set_cons_zero]
      refine wpAnyH_take (i := 4) (v := ?_) rfl (by kernel_rfl) (by kernel_rfl) (by decide +kernel) (fun _ _ _ h => h) (Or.inl ⟨by rfl, ?hy⟩) (by assumption) ?_
      case hy => (intro w hSw; (try dsimp only at hSw); go_simp; try with_reducible rfl)
      simp only [List.getElem_toArray, List.getElem_cons_succ, List.getElem_cons_zero, Act.put, List.setIfInBounds_toArray, List.set_cons_succ, List.set_cons_zero]
      refine wpAnyH_ready (rs := [5]) (by kernel_rfl) (by simp) ?_
      refine AllReadyH.cons rfl (fun K hK => ?_) AllReadyH.nil
      go_simp
      (go_at_call 45; with_reducible refine (CB.out _).mono ?_; rintro e w6 ⟨rfl, hhw6⟩; have hBw6 := below_step hbD hhw6)
      try go_wp2_with fail
      refine hK.out _ _ (HK.out _ (by assumption)) (fun hHeld => ?_)
      clear hK K
      refine wpAnyH_take (i := 6) (v := ?_) rfl (by kernel_rfl) (by kernel_rfl) (by decide +kernel) (fun _ _ _ h => h) (Or.inl ⟨by rfl, ?hy⟩) (by assumption) ?_
      case hy => (intro w hSw; (try dsimp only at hSw); go_simp; try with_reducible rfl)
      simp only [List.getElem_toArray, List.getElem_cons_succ, List.getElem_cons_zero, Act.put, List.setIfInBounds_toArray, List.set_cons_succ, List.set_cons_zero]
      refine wpAnyH_take (i := 7) (v := ?_) rfl (by kernel_rfl) (by kernel_rfl) (by decide +kernel) (fun _ _ _ h => h) (Or.inl ⟨by rfl, ?hy⟩) (by assumption) ?_
      case hy => (intro w hSw; (try dsimp only at hSw); go_simp; try with_reducible rfl)
      simp only [List.getElem_toArray, List.getElem_cons_succ, List.getElem_cons_zero, Act.put, List.setIfInBounds_toArray, List.set_cons_succ, List.set_cons_zero]
      refine wpAnyH_take (i := 8) (v := undef) rfl (by kernel_rfl) (by kernel_rfl) (by decide +kernel) (fun _ _ _ h => h) (Or.inr ⟨by rfl, rfl⟩) (by assumption) ?_
      simp only [List.getElem_toArray, List.getElem_cons_succ, List.getElem_cons_zero, Act.put, List.setIfInBounds_toArray, List.set_cons_succ, List.set_cons_zero]
      refine wpAnyH_take (i := 9) (v := undef) rfl (by kernel_rfl) (by kernel_rfl) (by decide +kernel) (fun _ _ _ h => h) (Or.inr ⟨by rfl, rfl⟩) (by assumption) ?_
      simp only [List.getElem_toArray, List.getElem_cons_succ, List.getElem_cons_zero, Act.put, List.setIfInBounds_toArray, List.set_cons_succ, List.set_cons_zero]
      refine wpAnyH_take (i := 10) (v := undef) rfl (by kernel_rfl) (by kernel_rfl) (by decide +kernel) (fun _ _ _ h => h) (Or.inr ⟨by rfl, rfl⟩) (by assumption) ?_
      simp only [List.getElem_toArray, List.getElem_cons_succ, List.getElem_cons_zero, Act.put, List.setIfInBounds_toArray, List.set_cons_succ, List.set_cons_zero]
      refine wpAnyH_take (i := 11) (v := undef) rfl (by kernel_rfl) (by kernel_rfl) (by decide +kernel) (fun _ _ _ h => h) (Or.inr ⟨by rfl, rfl⟩) (by assumption) ?_
      simp only [List.getElem_toArray, List.getElem_cons_succ, List.getElem_cons_zero, Act.put, List.setIfInBounds_toArray, List.set_cons_succ, List.set_cons_zero]
      refine wpAnyH_take (i := 12) (v := undef) rfl (by kernel_rfl) (by kernel_rfl) (by decide +kernel) (fun _ _ _ h => h) (Or.inr ⟨by rfl, rfl⟩) (by assumption) ?_
      simp only [List.getElem_toArray, List.getElem_cons_succ, List.getElem_cons_zero, Act.put, List.setIfInBounds_toArray, List.set_cons_succ, List.set_cons_zero]
      refine wpAnyH_take (i := 13) (v := undef) rfl (by kernel_rfl) (by kernel_rfl) (by decide +kernel) (fun _ _ _ h => h) (Or.inr ⟨by rfl, rfl⟩) (by assumption) ?_
      simp only [List.getElem_toArray, List.getElem_cons_succ, List.getElem_cons_zero, Act.put, List.setIfInBounds_toArray, List.set_cons_succ, List.set_cons_zero]
      refine wpAnyH_take (i := 14) (v := undef) rfl (by kernel_rfl) (by kernel_rfl) (by decide +kernel) (fun _ _ _ h => h) (Or.inr ⟨by rfl, rfl⟩) (by assumption) ?_
      simp only [List.getElem_toArray, List.getElem_cons_succ, List.getElem_cons_zero, Act.put, List.setIfInBounds_toArray, List.set_cons_succ, List.set_cons_zero]
      refine wpAnyH_take (i := 15) (v := ?_) rfl (by kernel_rfl) (by kernel_rfl) (by decide +kernel) (fun _ _ _ h => h) (Or.inl ⟨by rfl, ?hy⟩) (by assumption) ?_
      case hy => (intro w hSw; (try dsimp only at hSw); go_simp; try with_reducible rfl)
      simp only [List.getElem_toArray, List.getElem_cons_succ, List.getElem_cons_zero, Act.put, List.setIfInBounds_toArray, List.set_cons_succ, List.set_cons_zero]
      refine wpAnyH_done (by kernel_rfl) ?_ _
      go_wp2_with fail
      -- MARK7
      go_end0
      exact HRt.out w6 hBw6
  have HRq := Lib.hid (fun (e : bm = true) W' (hW : Below W1.heap.size W1 W') => HRV.out _ W' _ (H1.out (.inr (.inr e))) (wkR_ret (HS1.out.on hW) (HF1.out.trans (WkF.of_below hW))))
  have H2a := Lib.hid (H2.out rfl rfl)
  clear H2
  go_wp2_with fail
  · skip
    refine wp_region_held_drew (S := (fun W' => W'.cell? ⟨A8, 0, none⟩ = some (.int .i64 x0) ∧ W'.cell? ⟨A8, 1, none⟩ = some (.int .i64 x1) ∧ W'.cell? ⟨A8, 2, none⟩ = some (.int .i64 x2) ∧ W'.cell? ⟨A8, 3, none⟩ = some (.string X) ∧ W'.cell? ⟨A8, 4, none⟩ = some (.string Y) ∧ W'.cell? ⟨A8, 5, none⟩ = some (.int .i64 x5) ∧ W'.cell? ⟨A8, 6, none⟩ = some (.int .i64 x6) ∧ W'.cell? ⟨A8, 7, none⟩ = some (.int .i64 x7) ∧ W'.cell? ⟨g, 1, none⟩ = some (.slice ua um uc))) (by kernel_rfl) (by first | exact HK.out _ (by assumption)) (fun hHeld => ?_)
    refine wpAnyH_take (i := 0) (v := ?_) rfl (by kernel_rfl) (by kernel_rfl) (by decide +kernel) (fun _ _ _ h => h) (Or.inl ⟨by rfl, ?hy⟩) (by assumption) ?_
    case hy => (intro w hSw; (try dsimp only at hSw); go_simp; try with_reducible rfl)
    simp only [List.getElem_toArray, List.getElem_cons_zero, Act.put, List.setIfInBounds_toArray, List.set_cons_succ, List.set_cons_zero]
    refine wpAnyH_take (i := 1) (v := ?_) rfl (by kernel_rfl) (by kernel_rfl) (by decide +kernel) (fun _ _ _ h => h) (Or.inl ⟨by rfl, ?hy⟩) (by assumption) ?_
    case hy => (intro w hSw; (try dsimp only at hSw); go_simp; try with_reducible rfl)
    simp only [List.getElem_toArray, List.getElem_cons_succ, List.getElem_cons_zero, Act.put, List.setIfInBounds_toArray, List.set_cons_succ, List.set_cons_zero]
    refine wpAnyH_take (i := 2) (v := ?_) rfl (by kernel_rfl) (by kernel_rfl) (by decide +kernel) (fun _ _ _ h => h) (Or.inl ⟨by rfl, ?hy⟩) (by assumption) ?_
    case hy => (intro w hSw; (try dsimp only at hSw); go_simp; try with_reducible rfl)
    simp only [List.getElem_toArray, List.getElem_cons_succ, List.getElem_cons_zero, Act.put, List.setIfInBounds_toArray, List.set_cons_succ, List.set_cons_zero]
    refine wpAnyH_take (i := 3) (v := ?_) rfl (by kernel_rfl) (by kernel_rfl) (by decide +kernel) (fun _ _ _ h => h) (Or.inl ⟨by rfl, ?hy⟩) (by assumption) ?_
    case hy => (intro w hSw; (try dsimp only at hSw); go_simp; try with_reducible rfl)
    simp only [List.getElem_toArray, List.getElem_cons_succ, List.getElem_cons_zero, Act.put, List.setIfInBounds_toArray, List.set_cons_succ, List.set_cons_zero]
    refine wpAnyH_take (i := 4) (v := ?_) rfl (by kernel_rfl) (by kernel_rfl) (by decide +kernel) (fun _ _ _ h => h) (Or.inl ⟨by rfl, ?hy⟩) (by assumption) ?_
    case hy => (intro w hSw; (try dsimp only at hSw); go_simp; try with_reducible rfl)
    simp only [List.getElem_toArray, List.getElem_cons_succ, List.getElem_cons_zero, Act.put, List.setIfInBounds_toArray, List.set_cons_succ, List.set_cons_zero]
    refine wpAnyH_ready (rs := [5]) (by kernel_rfl) (by simp) ?_
    refine AllReadyH.cons rfl (fun K hK => ?_) AllReadyH.nil
    go_simp
    (go_at_call 45; with_reducible refine (CB.out _).mono ?_; rintro e w6 ⟨rfl, hhw6⟩; have hBw6 := below_step hbD hhw6)
    try go_wp2_with fail
    refine hK.out _ _ (HK.out _ (by assumption)) (fun hHeld => ?_)
    clear hK K
    refine wpAnyH_take (i := 6) (v := ?_) rfl (by kernel_rfl) (by kernel_rfl) (by decide +kernel) (fun _ _ _ h => h) (Or.inl ⟨by rfl, ?hy⟩) (by assumption) ?_
    case hy => (intro w hSw; (try dsimp only at hSw); go_simp; try with_reducible rfl)
    simp only [List.getElem_toArray, List.getElem_cons_succ, List.getElem_cons_zero, Act.put, List.setIfInBounds_toArray, List.set_cons_succ, List.set_cons_zero]
    refine wpAnyH_take (i := 7) (v := ?_) rfl (by kernel_rfl) (by kernel_rfl) (by decide +kernel) (fun _ _ _ h => h) (Or.inl ⟨by rfl, ?hy⟩) (by assumption) ?_
    case hy => (intro w hSw; (try dsimp only at hSw); go_simp; try with_reducible rfl)
    simp only [List.getElem_toArray, List.getElem_cons_succ, List.getElem_cons_zero, Act.put, List.setIfInBounds_toArray, List.set_cons_succ, List.set_cons_zero]
    refine wpAnyH_take (i := 8) (v := ?_) rfl (by kernel_rfl) (by kernel_rfl) (by decide +kernel) (fun _ _ _ h => h) (Or.inl ⟨by rfl, ?hy⟩) (by assumption) ?_
    case hy => (intro w hSw; (try dsimp only at hSw); go_simp; try with_reducible rfl)
    simp only [List.getElem_toArray, List.getElem_cons_succ, List.getElem_cons_zero, Act.put, List.setIfInBounds_toArray, List.set_cons_succ, List.set_cons_zero]
    refine wpAnyH_take (i := 9) (v := ?_) rfl (by kernel_rfl) (by kernel_rfl) (by decide +kernel) (fun _ _ _ h => h) (Or.inl ⟨by rfl, ?hy⟩) (by assumption) ?_
    case hy => (intro w hSw; (try dsimp only at hSw); go_simp; try with_reducible rfl)
    simp only [List.getElem_toArray, List.getElem_cons_succ, List.getElem_cons_zero, Act.put, List.setIfInBounds_toArray, List.set_cons_succ, List.set_cons_zero]
    refine wpAnyH_take (i := 10) (v := ?_) rfl (by kernel_rfl) (by kernel_rfl) (by decide +kernel) (fun _ _ _ h => h) (Or.inl ⟨by rfl, ?hy⟩) (by assumption) ?_
    case hy => (intro w hSw; (try dsimp only at hSw); go_simp; try with_reducible rfl)
    simp only [List.getElem_toArray, List.getElem_cons_succ, List.getElem_cons_zero, Act.put, List.setIfInBounds_toArray, List.set_cons_succ, List.set_cons_zero]
    refine wpAnyH_take (i := 11) (v := ?_) rfl (by kernel_rfl) (by kernel_rfl) (by decide +kernel) (fun _ _ _ h => h) (Or.inl ⟨by rfl, ?hy⟩) (by assumption) ?_
    case hy => (intro w hSw; (try dsimp only at hSw); go_simp; try with_reducible rfl)
    simp only [List.getElem_toArray, List.getElem_cons_succ, List.getElem_cons_zero, Act.put, List.setIfInBounds_toArray, List.set_cons_succ, List.set_cons_zero]
    refine wpAnyH_take (i := 12) (v := ?_) rfl (by kernel_rfl) (by kernel_rfl) (by decide +kernel) (fun _ _ _ h => h) (Or.inl ⟨by rfl, ?hy⟩) (by assumption) ?_
    case hy => (intro w hSw; (try dsimp only at hSw); go_simp; try with_reducible rfl)
    simp only [List.getElem_toArray, List.getElem_cons_succ, List.getElem_cons_zero, Act.put, List.setIfInBounds_toArray, List.set_cons_succ, List.set_cons_zero]
    refine wpAnyH_ready (rs := [13]) (by kernel_rfl) (by simp) ?_
    refine AllReadyH.cons rfl (fun K hK => ?_) AllReadyH.nil
    go_simp
    (go_at_call 47; with_reducible refine (CI.out _).mono ?_; rintro e w7 ⟨rfl, hhw7⟩; have hBw7 := below_step hBw6 hhw7)
    try go_wp2_with fail
    refine hK.out _ _ (HK.out _ (by assumption)) (fun hHeld => ?_)
    clear hK K
    refine wpAnyH_ready (rs := [14]) (by kernel_rfl) (by simp) ?_
    refine AllReadyH.cons rfl (fun K hK => ?_) AllReadyH.nil
    go_simp
    (go_at_call 46; with_reducible refine (CHx.out _ (by assumption)).mono ?_; rintro e w8 ⟨rfl, hhw8⟩; have hBw8 := below_step hBw7 hhw8)
    try go_wp2_with fail
    refine hK.out _ _ (HK.out _ (by assumption)) (fun hHeld => ?_)
    clear hK K
    refine wpAnyH_take (i := 15) (v := ?_) rfl (by kernel_rfl) (by kernel_rfl) (by decide +kernel) (fun _ _ _ h => h) (Or.inl ⟨by rfl, ?hy⟩) (by assumption) ?_
    case hy => (intro w hSw; (try dsimp only at hSw); go_simp; try with_reducible rfl)
    simp only [List.getElem_toArray, List.getElem_cons_succ, List.getElem_cons_zero, Act.put, List.setIfInBounds_toArray, List.set_cons_succ, List.set_cons_zero]
    refine wpAnyH_done (by kernel_rfl) ?_ _
    -- MARK8
    cases bm
    case true =>
      have HRt := Lib.hid (HRq.out (by simp) w8 hBw8)
      go_wp2_with fail
      go_end0
      exact HRt.out
    have H2b := Lib.hid (H2a.out (by simp))
    clear H2a
    have HS8 := Lib.hid (HS1.out.on hBw8)
    have HF8 : Hid (WkF g (Value.slice b m c).ownBlock (Value.slice b m c).ownBlock W w8) := Lib.hid (HF1.out.trans (WkF.of_below hBw8))
    have HB8 := Lib.hid (fun W' (hW : Below w8.heap.size w8 W') => HB8.out W' (below_step hBw8 hW))
    have HF18 : Hid (W1.heap.size ≤ w8.heap.size) := Lib.hid hBw8.size
    clear HRq H1 CHx CB HK hhw6 hhw7 hhw8 hBw6 hBw7 hBw8 hbD hb0 HS1 HF1
    by_cases h3 : 3 < d
    · have hd3 : decide ((3 : Int) < (d : Int)) = true := decide_eq_true (by omega)
      have CW := Lib.hid (wrong_any w0 g _ (.slice ua um uc) vs b m c i 3 w8 HS8.out)
      have HRt := Lib.hid (fun e W' h => HRV.out e W' _ (H2b.out.trans (if_pos h3)) (wkR_of h HF8.out))
      clear h3 H2b
      go_wp2_with fail
      refine CW.out.mono ?_
      intro e w9 h9
      have H9 := Lib.hid (HRt.out e w9 h9)
      obtain ⟨rfl, _⟩ := h9
      go_wp2_with fail
      go_end0
      exact H9.out
    have hd3 : decide ((3 : Int) < (d : Int)) = false := decide_eq_false (by omega)
    have H2 := Lib.hid (H2b.out.trans (if_neg h3))
    clear h3 H2b
    obtain ⟨_, _, k2, _⟩ := box5W HS8.out.box
    go_wp2_with fail
    -- MARKA
    obtain ⟨iv, hiv, hv0, hv1, hv2⟩ := info_parts2 infoPv
    have HVc := Lib.hid (fun W' (hW : Below w8.heap.size w8 W') => ws_own (HS8.out.on hW).row HS8.out.len)
    have hmi : m ≤ i := by rw [← HS8.out.len]; exact hvs
    have HMl := Lib.hid HS8.out.len
    clear k2 hvs
    go_loopw [7] (fun x7 wr => ∃ k : Nat, x7 = .int .i64 (k : Int) ∧ k ≤ m ∧ Hid (∀ i' < k, ∀ y, vs[i']? = some y → y.1 ≠ (x3, x4)) ∧ Below w8.heap.size w8 wr) (fun x7 _ => m - (intOf x7).toNat)
    case atStart => exact ⟨0, rfl, Nat.zero_le _, Lib.hid (fun i' hi' => absurd hi' (Nat.not_lt_zero _)), Below.refl _ _⟩
    case round =>
      obtain ⟨k, rfl, hk, HE, hb⟩ := hrel
      have hk0 : (0 : Int) ≤ (k : Int) := Int.natCast_nonneg _
      obtain ⟨n0, n1, n2, n3, n4, nf2, _⟩ := box5W (HS8.out.on hb).box
      obtain ⟨q0, q1, q2, q3, q4, q5, q6, q7⟩ := HB8.out wr hb
      by_cases hlt : k < m
      · have hd1 : decide ((k : Int) < (m : Int)) = true := decide_eq_true (by omega)
        have hk1 : (k : Int) < (m : Int) := by omega
        obtain ⟨y, hy⟩ : ∃ y, vs[k]? = some y := ⟨_, List.getElem?_eq_getElem (by rw [HMl.out]; exact hlt)⟩
        have hy' : (toW vs)[k]? = some (y.1, (y.2 : Int)) := by unfold toW; rw [List.getElem?_map, hy]; rfl
        obtain ⟨g2, o2, rfl, _, d0, d1, _⟩ := (HVc.out wr hb).node hy'
        have HKc : Hid (∀ W', Below w8.heap.size w8 W' → W'.cell? ⟨g2, o2 + k * 3, none⟩ = some (.string (str y.1.1)) ∧ W'.cell? ⟨g2, o2 + k * 3 + 1, none⟩ = some (.string (str y.1.2))) := Lib.hid fun W' hW => by
          obtain ⟨g3, o3, e3, _, f0, f1, _⟩ := (HVc.out W' hW).node hy'
          cases e3; exact ⟨f0, f1⟩
        have HY := Lib.hid hy
        obtain ⟨⟨y1, y2⟩, yd⟩ := y
        simp only at d0 d1 HKc
        have hq := pid_eq y1 y2 x3 x4
        obtain ⟨bq, hbq⟩ : ∃ bq, decide (((y1, y2) : Pid) = (x3, x4)) = bq := ⟨_, rfl⟩
        have HQ : Hid (((y1, y2) : Pid) = (x3, x4) ↔ bq = true) := Lib.hid (by rw [← hbq, decide_eq_true_iff])
        obtain ⟨Y0, hY0⟩ : ∃ S, str y1 = S := ⟨_, rfl⟩
        obtain ⟨Y1, hY1⟩ : ∃ S, str y2 = S := ⟨_, rfl⟩
        rw [hbq, HXs.out, HYs.out, hY0, hY1] at hq
        rw [hY0] at d0 HKc
        rw [hY1] at d1 HKc
        have HKs := Lib.hid (fun W' (hW : Below wr.heap.size wr W') => have hw := below_step hb hW; (⟨(box5W (HS8.out.on hw).box).2.2.1, (HKc.out W' hw).1, (HKc.out W' hw).2, HB8.out W' hw⟩ : _ ∧ _ ∧ _ ∧ _))
        clear hy hy' hbq hY0 hY1
        go_wp2_with fail
        -- MARKB
        go_region_held3 (fun W' => W'.cell? ⟨g, 2, none⟩ = some (.slice (some ⟨g2, o2, none⟩) m c) ∧ W'.cell? ⟨g2, o2 + k * 3, none⟩ = some (.string Y0) ∧ W'.cell? ⟨g2, o2 + k * 3 + 1, none⟩ = some (.string Y1) ∧ W'.cell? ⟨A8, 0, none⟩ = some (.int .i64 x0) ∧ W'.cell? ⟨A8, 1, none⟩ = some (.int .i64 x1) ∧ W'.cell? ⟨A8, 2, none⟩ = some (.int .i64 x2) ∧ W'.cell? ⟨A8, 3, none⟩ = some (.string X) ∧ W'.cell? ⟨A8, 4, none⟩ = some (.string Y) ∧ W'.cell? ⟨A8, 5, none⟩ = some (.int .i64 x5) ∧ W'.cell? ⟨A8, 6, none⟩ = some (.int .i64 x6) ∧ W'.cell? ⟨A8, 7, none⟩ = some (.int .i64 x7)) (first | exact HKs.out _ (by assumption) | go_keep) ((go_at_call 47; refine (CI.out _).mono ?_; rintro e w9 ⟨rfl, hb9⟩; have hb10 : Below wr.heap.size wr w9 := below_step (Below.refl _ wr).drew hb9))
        have hw9 := below_step hb hb10
        clear hb9 hb10 q0 q1 q2 q3 q4 q5 q6 q7 n0 n1 n2 n3 n4 nf2 d0 d1
        cases bq
        · have HE2 : Hid (∀ i' < k + 1, ∀ y, vs[i']? = some y → y.1 ≠ (x3, x4)) := Lib.hid (fun i' hi' y hy => by
            rcases Nat.lt_succ_iff_lt_or_eq.1 hi' with h | rfl
            · exact HE.out i' h y hy
            · rw [HY.out] at hy; obtain rfl := Option.some.inj hy; exact fun e => by have := HQ.out.1 e; cases this)
          go_wp2_with fail
          -- MARKC
          exact ⟨⟨k + 1, by go_num, by omega, HE2, hw9⟩, by simp [intOf]; omega⟩
        · have hmem : (x3, x4) ∈ vs.map (·.1) := List.mem_map.2 ⟨_, List.mem_of_getElem? HY.out, HQ.out.2 rfl⟩
          have CW := Lib.hid (wrong_any w0 g _ (.slice ua um uc) vs _ m c i 8 w9 (HS8.out.on hw9))
          have HRt := Lib.hid (fun e W' h => HRV.out e W' _ (H2.out.trans (if_pos hmem)) (wkR_of h (HF8.out.trans (WkF.of_below hw9))))
          clear hmem
          go_wp2_with fail
          -- MARKD
          refine CW.out.mono ?_
          intro e w10 h10
          have H10 := Lib.hid (HRt.out e w10 h10)
          obtain ⟨rfl, _⟩ := h10
          go_wp2_with fail
          go_end0
          exact H10.out
      · obtain rfl : k = m := by omega
        have hd1 : decide ((k : Int) < (k : Int)) = false := decide_eq_false (by omega)
        have hnl : ¬ k < k := Nat.lt_irrefl _
        have hnm : (x3, x4) ∉ vs.map (·.1) := fun h => by
          obtain ⟨y, hy, e⟩ := List.mem_map.1 h
          obtain ⟨j, hj, e2⟩ := List.getElem_of_mem hy
          exact HE.out j (by rw [← HMl.out]; exact hj) y (by rw [List.getElem?_eq_getElem hj, e2]) e
        have HRn := Lib.hid (H2.out.trans (if_neg hnm))
        have HSw := Lib.hid (fun W' (hW : Below wr.heap.size wr W') => HS8.out.on (below_step hb hW))
        have HBw := Lib.hid (fun W' (hW : Below wr.heap.size wr W') => HB8.out W' (below_step hb hW))
        have HFw := Lib.hid (HF8.out.trans (WkF.of_below hb))
        have HPv : Hid (pvC ((x3, x4), d) = [.string X, .string Y, .int .i64 (d : Int)]) := Lib.hid (by rw [← HXs.out, ← HYs.out]; rfl)
        have hgw : g < wr.heap.size := (HS8.out.on hb).lt
        have n2d : wr.drew.cell? ⟨g, 2, none⟩ = some (.slice b k c) := n2
        have HRl := Lib.hid (HSw.out wr (Below.refl _ _)).rlt
        have HA8 : Hid (A8 < wr.heap.size) := Lib.hid (Nat.lt_of_lt_of_le hz8 (Nat.le_trans HF18.out hb.size))
        have HgA : Hid (g ≠ A8) := Lib.hid (by have := HSl.out; omega)
        have HRl : Hid (∀ r, (Value.slice b k c).ownBlock = some r → r < A8) := HSr
        have HW0 : Hid (w0.heap.size ≤ wr.heap.size) := Lib.hid (HSw.out wr (Below.refl _ _)).bel.size
        clear hnm HE H2
        go_wp2_with fail
        -- MARKE
        refine wp_region_held_drew (S := (fun W' => W'.cell? ⟨A8, 0, none⟩ = some (.int .i64 x0) ∧ W'.cell? ⟨A8, 1, none⟩ = some (.int .i64 x1) ∧ W'.cell? ⟨A8, 2, none⟩ = some (.int .i64 x2) ∧ W'.cell? ⟨A8, 3, none⟩ = some (.string X) ∧ W'.cell? ⟨A8, 4, none⟩ = some (.string Y) ∧ W'.cell? ⟨A8, 5, none⟩ = some (.int .i64 x5) ∧ W'.cell? ⟨A8, 6, none⟩ = some (.int .i64 x6) ∧ W'.cell? ⟨A8, 7, none⟩ = some (.int .i64 x7))) (by kernel_rfl) (HBw.out _ (Below.refl _ wr).drew) (fun hHeld => ?_)
        refine wpAnyH_take (i := 0) (v := ?_) rfl (by kernel_rfl) (by kernel_rfl) (by decide +kernel) (fun _ _ _ h => h) (Or.inl ⟨by rfl, ?hy⟩) (by assumption) ?_
        case hy => (intro w hSw; (try dsimp only at hSw); go_simp; try with_reducible rfl)
        simp only [List.getElem_toArray, List.getElem_cons_zero, Act.put, List.setIfInBounds_toArray, List.set_cons_succ, List.set_cons_zero]
        refine wpAnyH_take (i := 1) (v := ?_) rfl (by kernel_rfl) (by kernel_rfl) (by decide +kernel) (fun _ _ _ h => h) (Or.inl ⟨by rfl, ?hy⟩) (by assumption) ?_
        case hy => (intro w hSw; (try dsimp only at hSw); go_simp; try with_reducible rfl)
        simp only [List.getElem_toArray, List.getElem_cons_succ, List.getElem_cons_zero, Act.put, List.setIfInBounds_toArray, List.set_cons_succ, List.set_cons_zero]
        refine wpAnyH_take (i := 2) (v := ?_) rfl (by kernel_rfl) (by kernel_rfl) (by decide +kernel) (fun _ _ _ h => h) (Or.inl ⟨by rfl, ?hy⟩) (by assumption) ?_
        case hy => (intro w hSw; (try dsimp only at hSw); go_simp; try with_reducible rfl)
        simp only [List.getElem_toArray, List.getElem_cons_succ, List.getElem_cons_zero, Act.put, List.setIfInBounds_toArray, List.set_cons_succ, List.set_cons_zero]
        refine wpAnyH_take (i := 3) (v := ?_) rfl (by kernel_rfl) (by kernel_rfl) (by decide +kernel) (fun _ _ _ h => h) (Or.inl ⟨by rfl, ?hy⟩) (by assumption) ?_
        case hy => (intro w hSw; (try dsimp only at hSw); go_simp; try with_reducible rfl)
        simp only [List.getElem_toArray, List.getElem_cons_succ, List.getElem_cons_zero, Act.put, List.setIfInBounds_toArray, List.set_cons_succ, List.set_cons_zero]
        refine wpAnyH_take (i := 5) (v := ?_) rfl (by kernel_rfl) (by kernel_rfl) (by decide +kernel) (fun _ _ _ h => h) (Or.inl ⟨by rfl, ?hy⟩) (by assumption) ?_
        case hy => (intro w hSw; (try dsimp only at hSw); go_simp; try with_reducible rfl)
        simp only [List.getElem_toArray, List.getElem_cons_succ, List.getElem_cons_zero, Act.put, List.setIfInBounds_toArray, List.set_cons_succ, List.set_cons_zero]
        refine wpAnyH_take (i := 7) (v := ?_) rfl (by kernel_rfl) (by kernel_rfl) (by decide +kernel) (fun _ _ _ h => h) (Or.inl ⟨by rfl, ?hy⟩) (by assumption) ?_
        case hy => (intro w hSw; (try dsimp only at hSw); go_simp; try with_reducible rfl)
        simp only [List.getElem_toArray, List.getElem_cons_succ, List.getElem_cons_zero, Act.put, List.setIfInBounds_toArray, List.set_cons_succ, List.set_cons_zero]
        have hD : Below wr.heap.size wr wr.drew := (Below.refl _ wr).drew
        refine wpAnyH_ready (rs := [4, 6]) (by kernel_rfl) (by simp) ?_
        refine AllReadyH.cons rfl (fun K hK => ?_) (AllReadyH.cons rfl (fun K hK => ?_) AllReadyH.nil)
        · skip
          go_simp
          -- LOAD
          refine hK.out _ _ (HBw.out _ hD) (fun hHeld => ?_)
          clear hK K
          refine wpAnyH_ready (rs := [6]) (by kernel_rfl) (by simp) ?_
          refine AllReadyH.cons rfl (fun K hK => ?_) AllReadyH.nil
          go_simp
          (go_at_call 47; with_reducible refine (CI.out _).mono ?_; rintro e w9 ⟨rfl, hb9⟩; have hb10 : Below wr.heap.size wr w9 := below_step (Below.refl _ wr).drew hb9)
          obtain ⟨_, _, m2, _, _, mf2, _⟩ := box5W (HSw.out w9 hb10).box
          try go_wp2_with fail
          refine hK.out _ _ (HBw.out _ (by assumption)) (fun hHeld => ?_)
          clear hK K
          refine wpAnyH_take (i := 8) (v := ?_) rfl (by kernel_rfl) (by kernel_rfl) (by decide +kernel) (fun _ _ _ h => h) (Or.inl ⟨by rfl, ?hy⟩) (by assumption) ?_
          case hy => (intro w hSw; (try dsimp only at hSw); go_simp; try with_reducible rfl)
          simp only [List.getElem_toArray, List.getElem_cons_succ, List.getElem_cons_zero, Act.put, List.setIfInBounds_toArray, List.set_cons_succ, List.set_cons_zero]
          refine wpAnyH_ready (rs := [9]) (by kernel_rfl) (by simp) ?_
          refine AllReadyH.cons rfl (fun K hK => ?_) AllReadyH.nil
          go_simp
          have hbL : Below wr.heap.size wr (w9.alloc (.cells #[.string X, .string Y, .int .i64 (d : Int)] 45)) := hb10.alloc hb10.size _
          obtain ⟨_, _, l2, _, _, lf2, _⟩ := box5W (HSw.out _ hbL).box
          refine hK.out _ _ (HBw.out _ hbL) (fun hHeld => ?_)
          clear hK K
          refine wpAnyH_ready (rs := [10]) (by kernel_rfl) (by simp) ?_
          refine AllReadyH.cons rfl (fun K hK => ?_) AllReadyH.nil
          refine step_append_lies _ rfl _ _ 30 rfl w0.heap.size 45 iv (.agg #[.string ByteArray.empty, .string ByteArray.empty, .int .i64 0]) 3 40 Tryz.underlying30 hiv hv0 hv1 hv2 rfl (by decide) _ _ _ rfl (HSw.out _ hbL).row ⟨w9.heap.size, 0, none⟩ 1 1 [.string X, .string Y, .int .i64 (d : Int)] rfl rfl (new_cells w9 [.string X, .string Y, .int .i64 (d : Int)] _) (by simp [Value.oneCell']) (by omega) (by unfold maxLen; omega) (by omega) (Nat.le_trans HW0.out hbL.size) _ rfl ?_
          intro gr cap w14 hown hgrow hat hlt14
          rw [← HPv.out] at hown
          obtain ⟨p1, p2, p3, p4⟩ := (HSw.out _ hbL).push hown hgrow hat
          have HP1 := Lib.hid p1
          have HP2 := Lib.hid p2
          have hb14 : Hid (∀ j, w14.cell? ⟨A8, j, none⟩ = (w9.alloc (.cells #[.string X, .string Y, .int .i64 (d : Int)] 45)).cell? ⟨A8, j, none⟩) := Lib.hid fun j => World.grownBy.cell_far hgrow ⟨A8, j, none⟩ (Nat.lt_of_lt_of_le HA8.out hbL.size) (fun e => by have h1 := (HSw.out _ hbL).apart; have h2 := HRl.out A8 e.symm; omega)
          have HC14 := Lib.hid (cells_eq hb14.out (HBw.out _ hbL))
          clear hown hgrow hat hlt14 p1 p2 hb14
          refine hK.out _ _ HC14.out (fun hHeld => ?_)
          clear hK K
          refine wpAnyH_take (i := 11) (v := ?_) rfl (by kernel_rfl) (by kernel_rfl) (by decide +kernel) (fun _ _ _ h => h) (Or.inl ⟨by rfl, ?hy⟩) (by assumption) ?_
          case hy => (intro w hSw; (try dsimp only at hSw); go_simp; try with_reducible rfl)
          simp only [List.getElem_toArray, List.getElem_cons_succ, List.getElem_cons_zero, Act.put, List.setIfInBounds_toArray, List.set_cons_succ, List.set_cons_zero]
          refine wpAnyH_take (i := 12) (v := ?_) rfl (by kernel_rfl) (by kernel_rfl) (by decide +kernel) (fun _ _ _ h => h) (Or.inl ⟨by rfl, ?hy⟩) (by assumption) ?_
          case hy => (intro w hSw; (try dsimp only at hSw); go_simp; try with_reducible rfl)
          simp only [List.getElem_toArray, List.getElem_cons_succ, List.getElem_cons_zero, Act.put, List.setIfInBounds_toArray, List.set_cons_succ, List.set_cons_zero]
          refine wpAnyH_ready (rs := [13]) (by kernel_rfl) (by simp) ?_
          refine AllReadyH.cons rfl (fun K hK => ?_) AllReadyH.nil
          go_simp
          -- STORE
          refine hK.out _ _ (cells_eq (fun j => World.cell?_setCell_far w14 ⟨g, 2, none⟩ ⟨A8, j, none⟩ _ HgA.out) HC14.out) (fun hHeld => ?_)
          clear hK K
          refine wpAnyH_done (by kernel_rfl) ?_ _
          have HRt := Lib.hid (HRV.out (.returned (.tuple #[])) _ _ HRn.out ⟨rfl, _, _, _, HP1.out, HFw.out.trans ((WkF.of_below hbL).trans HP2.out)⟩)
          go_wp2_with fail
          -- MARKG
          go_end0
          exact HRt.out
        · skip
          go_simp
          (go_at_call 47; with_reducible refine (CI.out _).mono ?_; rintro e w9 ⟨rfl, hb9⟩; have hb10 : Below wr.heap.size wr w9 := below_step (Below.refl _ wr).drew hb9)
          obtain ⟨_, _, m2, _, _, mf2, _⟩ := box5W (HSw.out w9 hb10).box
          try go_wp2_with fail
          refine hK.out _ _ (HBw.out _ (by assumption)) (fun hHeld => ?_)
          clear hK K
          refine wpAnyH_take (i := 8) (v := ?_) rfl (by kernel_rfl) (by kernel_rfl) (by decide +kernel) (fun _ _ _ h => h) (Or.inl ⟨by rfl, ?hy⟩) (by assumption) ?_
          case hy => (intro w hSw; (try dsimp only at hSw); go_simp; try with_reducible rfl)
          simp only [List.getElem_toArray, List.getElem_cons_succ, List.getElem_cons_zero, Act.put, List.setIfInBounds_toArray, List.set_cons_succ, List.set_cons_zero]
          refine wpAnyH_ready (rs := [4, 9]) (by kernel_rfl) (by simp) ?_
          refine AllReadyH.cons rfl (fun K hK => ?_) (AllReadyH.cons rfl (fun K hK => ?_) AllReadyH.nil)
          · skip
            go_simp
            -- LOAD
            refine hK.out _ _ (HBw.out _ hb10) (fun hHeld => ?_)
            clear hK K
            refine wpAnyH_ready (rs := [9]) (by kernel_rfl) (by simp) ?_
            refine AllReadyH.cons rfl (fun K hK => ?_) AllReadyH.nil
            go_simp
            have hbL : Below wr.heap.size wr (w9.alloc (.cells #[.string X, .string Y, .int .i64 (d : Int)] 45)) := hb10.alloc hb10.size _
            obtain ⟨_, _, l2, _, _, lf2, _⟩ := box5W (HSw.out _ hbL).box
            refine hK.out _ _ (HBw.out _ hbL) (fun hHeld => ?_)
            clear hK K
            refine wpAnyH_ready (rs := [10]) (by kernel_rfl) (by simp) ?_
            refine AllReadyH.cons rfl (fun K hK => ?_) AllReadyH.nil
            refine step_append_lies _ rfl _ _ 30 rfl w0.heap.size 45 iv (.agg #[.string ByteArray.empty, .string ByteArray.empty, .int .i64 0]) 3 40 Tryz.underlying30 hiv hv0 hv1 hv2 rfl (by decide) _ _ _ rfl (HSw.out _ hbL).row ⟨w9.heap.size, 0, none⟩ 1 1 [.string X, .string Y, .int .i64 (d : Int)] rfl rfl (new_cells w9 [.string X, .string Y, .int .i64 (d : Int)] _) (by simp [Value.oneCell']) (by omega) (by unfold maxLen; omega) (by omega) (Nat.le_trans HW0.out hbL.size) _ rfl ?_
            intro gr cap w14 hown hgrow hat hlt14
            rw [← HPv.out] at hown
            obtain ⟨p1, p2, p3, p4⟩ := (HSw.out _ hbL).push hown hgrow hat
            have HP1 := Lib.hid p1
            have HP2 := Lib.hid p2
            have hb14 : Hid (∀ j, w14.cell? ⟨A8, j, none⟩ = (w9.alloc (.cells #[.string X, .string Y, .int .i64 (d : Int)] 45)).cell? ⟨A8, j, none⟩) := Lib.hid fun j => World.grownBy.cell_far hgrow ⟨A8, j, none⟩ (Nat.lt_of_lt_of_le HA8.out hbL.size) (fun e => by have h1 := (HSw.out _ hbL).apart; have h2 := HRl.out A8 e.symm; omega)
            have HC14 := Lib.hid (cells_eq hb14.out (HBw.out _ hbL))
            clear hown hgrow hat hlt14 p1 p2 hb14
            refine hK.out _ _ HC14.out (fun hHeld => ?_)
            clear hK K
            refine wpAnyH_take (i := 11) (v := ?_) rfl (by kernel_rfl) (by kernel_rfl) (by decide +kernel) (fun _ _ _ h => h) (Or.inl ⟨by rfl, ?hy⟩) (by assumption) ?_
            case hy => (intro w hSw; (try dsimp only at hSw); go_simp; try with_reducible rfl)
            simp only [List.getElem_toArray, List.getElem_cons_succ, List.getElem_cons_zero, Act.put, List.setIfInBounds_toArray, List.set_cons_succ, List.set_cons_zero]
            refine wpAnyH_take (i := 12) (v := ?_) rfl (by kernel_rfl) (by kernel_rfl) (by decide +kernel) (fun _ _ _ h => h) (Or.inl ⟨by rfl, ?hy⟩) (by assumption) ?_
            case hy => (intro w hSw; (try dsimp only at hSw); go_simp; try with_reducible rfl)
            simp only [List.getElem_toArray, List.getElem_cons_succ, List.getElem_cons_zero, Act.put, List.setIfInBounds_toArray, List.set_cons_succ, List.set_cons_zero]
            refine wpAnyH_ready (rs := [13]) (by kernel_rfl) (by simp) ?_
            refine AllReadyH.cons rfl (fun K hK => ?_) AllReadyH.nil
            go_simp
            -- STORE
            refine hK.out _ _ (cells_eq (fun j => World.cell?_setCell_far w14 ⟨g, 2, none⟩ ⟨A8, j, none⟩ _ HgA.out) HC14.out) (fun hHeld => ?_)
            clear hK K
            refine wpAnyH_done (by kernel_rfl) ?_ _
            have HRt := Lib.hid (HRV.out (.returned (.tuple #[])) _ _ HRn.out ⟨rfl, _, _, _, HP1.out, HFw.out.trans ((WkF.of_below hbL).trans HP2.out)⟩)
            go_wp2_with fail
            -- MARKG
            go_end0
            exact HRt.out
          · skip
            go_simp
            have hbL : Below wr.heap.size wr (w9.alloc (.cells #[.string X, .string Y, .int .i64 (d : Int)] 45)) := hb10.alloc hb10.size _
            obtain ⟨_, _, l2, _, _, lf2, _⟩ := box5W (HSw.out _ hbL).box
            refine hK.out _ _ (HBw.out _ hbL) (fun hHeld => ?_)
            clear hK K
            refine wpAnyH_ready (rs := [4]) (by kernel_rfl) (by simp) ?_
            refine AllReadyH.cons rfl (fun K hK => ?_) AllReadyH.nil
            go_simp
            -- LOAD
            refine hK.out _ _ (HBw.out _ hbL) (fun hHeld => ?_)
            clear hK K
            refine wpAnyH_ready (rs := [10]) (by kernel_rfl) (by simp) ?_
            refine AllReadyH.cons rfl (fun K hK => ?_) AllReadyH.nil
            refine step_append_lies _ rfl _ _ 30 rfl w0.heap.size 45 iv (.agg #[.string ByteArray.empty, .string ByteArray.empty, .int .i64 0]) 3 40 Tryz.underlying30 hiv hv0 hv1 hv2 rfl (by decide) _ _ _ rfl (HSw.out _ hbL).row ⟨w9.heap.size, 0, none⟩ 1 1 [.string X, .string Y, .int .i64 (d : Int)] rfl rfl (new_cells w9 [.string X, .string Y, .int .i64 (d : Int)] _) (by simp [Value.oneCell']) (by omega) (by unfold maxLen; omega) (by omega) (Nat.le_trans HW0.out hbL.size) _ rfl ?_
            intro gr cap w14 hown hgrow hat hlt14
            rw [← HPv.out] at hown
            obtain ⟨p1, p2, p3, p4⟩ := (HSw.out _ hbL).push hown hgrow hat
            have HP1 := Lib.hid p1
            have HP2 := Lib.hid p2
            have hb14 : Hid (∀ j, w14.cell? ⟨A8, j, none⟩ = (w9.alloc (.cells #[.string X, .string Y, .int .i64 (d : Int)] 45)).cell? ⟨A8, j, none⟩) := Lib.hid fun j => World.grownBy.cell_far hgrow ⟨A8, j, none⟩ (Nat.lt_of_lt_of_le HA8.out hbL.size) (fun e => by have h1 := (HSw.out _ hbL).apart; have h2 := HRl.out A8 e.symm; omega)
            have HC14 := Lib.hid (cells_eq hb14.out (HBw.out _ hbL))
            clear hown hgrow hat hlt14 p1 p2 hb14
            refine hK.out _ _ HC14.out (fun hHeld => ?_)
            clear hK K
            refine wpAnyH_take (i := 11) (v := ?_) rfl (by kernel_rfl) (by kernel_rfl) (by decide +kernel) (fun _ _ _ h => h) (Or.inl ⟨by rfl, ?hy⟩) (by assumption) ?_
            case hy => (intro w hSw; (try dsimp only at hSw); go_simp; try with_reducible rfl)
            simp only [List.getElem_toArray, List.getElem_cons_succ, List.getElem_cons_zero, Act.put, List.setIfInBounds_toArray, List.set_cons_succ, List.set_cons_zero]
            refine wpAnyH_take (i := 12) (v := ?_) rfl (by kernel_rfl) (by kernel_rfl) (by decide +kernel) (fun _ _ _ h => h) (Or.inl ⟨by rfl, ?hy⟩) (by assumption) ?_
            case hy => (intro w hSw; (try dsimp only at hSw); go_simp; try with_reducible rfl)
            simp only [List.getElem_toArray, List.getElem_cons_succ, List.getElem_cons_zero, Act.put, List.setIfInBounds_toArray, List.set_cons_succ, List.set_cons_zero]
            refine wpAnyH_ready (rs := [13]) (by kernel_rfl) (by simp) ?_
            refine AllReadyH.cons rfl (fun K hK => ?_) AllReadyH.nil
            go_simp
            -- STORE
            refine hK.out _ _ (cells_eq (fun j => World.cell?_setCell_far w14 ⟨g, 2, none⟩ ⟨A8, j, none⟩ _ HgA.out) HC14.out) (fun hHeld => ?_)
            clear hK K
            refine wpAnyH_done (by kernel_rfl) ?_ _
            have HRt := Lib.hid (HRV.out (.returned (.tuple #[])) _ _ HRn.out ⟨rfl, _, _, _, HP1.out, HFw.out.trans ((WkF.of_below hbL).trans HP2.out)⟩)
            go_wp2_with fail
            -- MARKG
            go_end0
            exact HRt.out
theorem wk_one (w0 : World) (g g0 o0 n c0 : Nat) (lv : Value) (p : List Sx) (L : List Pid) (hc : (chkX p).2 = 0) (hn : p.length = n)
    (HV : ∀ W, Below w0.heap.size w0 W → XsAt W (.slice (some ⟨g0, o0, none⟩) n c0) p) (HU : ∀ W, Below w0.heap.size w0 W → PsAt W lv L) (hll : L.length ≤ 100000) : ∀ (k i : Nat), i < n → endX p i - i ≤ k → OneOk w0 g (.slice (some ⟨g0, o0, none⟩) n c0) lv p L i := by
  have hp := chkX_pat hc
  have hl : n ≤ 2000 := by rw [← hn]; exact (chkX_tree hc).2.2
  intro k
  induction k with
  | zero =>
    intro i hi hk
    have := (hp.end_bd (i := i) (by rw [hn]; exact hi)).1
    omega
  | succ k ih =>
    intro i hi hk
    obtain ⟨x, hx⟩ : ∃ x, p[i]? = some x := ⟨_, List.getElem?_eq_getElem (by rw [hn]; exact hi)⟩
    by_cases h4 : x.k = 4
    · exact one_list w0 g g0 o0 n c0 lv p L hc hn HV i hi x hx h4 (fun i' h1 h2 h3 => ih i' h1 (by omega))
    · exact one_leaf w0 g g0 o0 n c0 lv p L hn hl HV HU hll i hi x hx h4
-- MARK9
end Go.Proofs.YtdiinlmeoifgjaaGreatDoor

/- The reference's walk through a pattern: whole, Check. -/
namespace Go.Proofs.YtdiinlmeoifgjaaGreatDoor
open Go.RowKit Go.PlainAid

set_option maxRecDepth 50000 in
theorem wrongI_any (w0 : World) (g : Nat) (pv lv : Value) (vs : List Pv) (b : Option Addr) (m c : Nat) (i er : Int) (W : World) (h : WkS w0 g pv lv vs 0 0 b m c W) :
    Calls Tryz.prog 29 #[.pointer (some ⟨g, 0, none⟩), .int .i64 i, .int .i64 er] W fun e W' => e = .returned (.tuple #[]) ∧ WkS w0 g pv lv vs i er b m c W' := by
  obtain ⟨c0, c1, c2, c3, c4, f2, f3, f4⟩ := box5W h.box
  have HB := Lib.hid (box5W (set5c3 (.int .i64 i) h.box))
  obtain ⟨_, _, _, _, d4, _, _, e4⟩ := HB.out
  have HR := Lib.hid (h.wrong i er)
  clear h
  go_enter Tryz.func29, Tryz.ntmps29
  go_wp2_with fail
  go_end0
  exact ⟨rfl, HR.out⟩
/-- What the whole walk gives. -/
def WhV (p : List Sx) (L : List Pid) (w : World) (e : Ending) (w' : World) : Prop :=
  ∃ g pv lv b m c vs, e = .returned (.pointer (some ⟨g, 0, none⟩)) ∧ WkS w g pv lv vs (rdP p L).2.1 (rdP p L).2.2 b m c w' ∧ ((rdP p L).2.2 = 0 → vs = (rdP p L).1)
theorem whV_of {p : List Sx} {L : List Pid} {w w' : World} {g : Nat} {pv lv : Value} {b : Option Addr} {m c : Nat} {vs : List Pv} {n1 e1 : Int} (h : (rdP p L).2 = (n1, e1)) (hS : WkS w g pv lv vs n1 e1 b m c w') (hv : e1 = 0 → vs = (rdP p L).1) : WhV p L w (.returned (.pointer (some ⟨g, 0, none⟩))) w' := by
  refine ⟨g, pv, lv, b, m, c, vs, rfl, ?_, ?_⟩
  · rw [h]; exact hS
  · rw [h]; exact hv
theorem rdP_hd {p : List Sx} {L : List Pid} {r : Int × Int} (h : hdP p = r) (hr : r.2 ≠ 0) : (rdP p L).2 = (r.1, r.2) := by
  unfold rdP; rw [h, if_pos hr]
theorem hdP_bad1 {p : List Sx} {x : Sx} (hc : (chkX p).2 = 0) (hx : p[0]? = some x) (h : x.k ≠ 4 ∨ x.c = 0) : hdP p = (0, 6) := by
  unfold hdP
  rw [if_neg (by simpa using hc)]
  cases p with
  | nil => cases hx
  | cons z t =>
    simp at hx; subst hx
    by_cases h4 : z.k ≠ 4
    · exact if_pos h4
    · exact (if_neg h4).trans (if_pos (h.resolve_left h4))
theorem hdP_bad2 {p : List Sx} {x y : Sx} (hc : (chkX p).2 = 0) (hx : p[0]? = some x) (hy : p[1]? = some y) (h4 : x.k = 4) (h0 : x.c ≠ 0) : hdP p = if y.k ≠ 3 then (1, 6) else (0, 0) := by
  unfold hdP
  rw [if_neg (by simpa using hc)]
  cases p with
  | nil => cases hx
  | cons z t =>
    simp at hx; subst hx
    cases t with
    | nil => cases hy
    | cons a t =>
      simp at hy; subst hy
      exact (if_neg (by rw [h4]; simp)).trans (if_neg h0)
set_option maxRecDepth 100000 in
set_option maxHeartbeats 12800000 in
theorem whole_any (v u : Value) (p : List Sx) (L : List Pid) (w : World) (h : XsAt w v p) (hs : SmX p) (hi : InX p) (hu : PsAt w u L) (hll : L.length ≤ 100000) :
    Calls Tryz.prog 21 #[v, u] w (WhV p L w) := by
  have HV := Lib.hid (fun W (hW : Below w.heap.size w W) => h.below hW (Nat.le_refl _))
  have HU := Lib.hid (fun W (hW : Below w.heap.size w W) => hu.below hW (Nat.le_refl _))
  have CC := Lib.hid (fun W (hW : Below w.heap.size w W) => rCheck10_any v p W (HV.out W hW) hs hi)
  obtain ⟨va, vc, rfl, _⟩ := h.slice
  obtain ⟨ua, uc, rfl, _⟩ := hu.slice
  obtain ⟨n, hn⟩ : ∃ n, p.length = n := ⟨_, rfl⟩
  obtain ⟨um, hum⟩ : ∃ n, L.length = n := ⟨_, rfl⟩
  have HN := Lib.hid hn
  have HLl : Hid (L.length ≤ 100000) := Lib.hid hll
  rw [hn] at HV CC ⊢
  rw [hum] at HU ⊢
  have hb1 : Below w.heap.size w (w.alloc (.cells #[.slice va n vc, .slice ua um uc, .slice none 0 0, .int .i64 0, .int .i64 0] 54)) := below_b1 w _
  have hbx := World.alloc_heap_new w (.cells #[.slice va n vc, .slice ua um uc, .slice none 0 0, .int .i64 0, .int .i64 0] 54)
  obtain ⟨W1, hW1⟩ : ∃ W1, w.alloc (.cells #[.slice va n vc, .slice ua um uc, .slice none 0 0, .int .i64 0, .int .i64 0] 54) = W1 := ⟨_, rfl⟩
  rw [hW1] at hb1 hbx
  have HS1 : Hid (WkS w w.heap.size (.slice va n vc) (.slice ua um uc) [] 0 0 none 0 0 W1) := Lib.hid ⟨hbx, ⟨by simp [vcs], .inl ⟨rfl, rfl⟩⟩, rfl, Nat.le_refl _, hb1⟩
  obtain ⟨⟨c1, c2⟩, hcx⟩ : ∃ r, chkX p = r := ⟨_, rfl⟩
  have HC := Lib.hid hcx
  rw [hcx] at CC
  simp only at CC
  have C1 := Lib.hid (CC.out W1 hb1)
  clear h hu hn hum hbx hll
  by_cases hc2 : c2 = 0
  case neg =>
    have HR : Hid ((rdP p L).2 = (c1, c2)) := Lib.hid (rdP_hd (r := (c1, c2)) (by unfold hdP; rw [HC.out, if_pos hc2]) hc2)
    have hne : (c2 != 0) = true := bne_iff_ne.2 hc2
    have HC2 := Lib.hid hc2
    clear hcx hc2 CC
    go_enter Tryz.func21, Tryz.ntmps21
    go_wp2_with fail
    -- MARK1
    refine C1.out.mono ?_
    rintro e w2 ⟨rfl, hb2⟩
    have HS2 := Lib.hid (HS1.out.on hb2)
    clear hW1
    go_wp2_with fail
    refine (wrongI_any w _ _ _ _ _ _ _ c1 c2 w2 HS2.out).mono ?_
    rintro e w3 ⟨rfl, hS3⟩
    have HS3 := Lib.hid hS3
    clear hS3
    go_wp2_with fail
    go_ret
    exact whV_of HR.out HS3.out (fun e => absurd e HC2.out)
  subst hc2
  have hc : (chkX p).2 = 0 := by rw [hcx]
  have hp := chkX_pat hc
  obtain ⟨x, t, hxt⟩ := List.exists_cons_of_ne_nil (chkX_tree hc).2.1
  have hx : p[0]? = some x := by rw [hxt]; rfl
  have hn0 : 0 < n := by rw [← HN.out, hxt]; simp
  have hn01 : (0 : Int) < (n : Int) := by omega
  obtain ⟨K0, hK0⟩ : ∃ c, x.k = c := ⟨_, rfl⟩
  obtain ⟨C0, hC0⟩ : ∃ c, x.c = c := ⟨_, rfl⟩
  obtain ⟨g0, o0, hva, _⟩ := (HV.out w (Below.refl _ _)).node hx
  subst hva
  have HCell : Hid (∀ W, Below w.heap.size w W → W.cell? ⟨g0, o0, none⟩ = some (.int .i64 K0) ∧ W.cell? ⟨g0, o0 + 1, none⟩ = some (.int .i64 C0)) := Lib.hid fun W hW => by
    obtain ⟨g', o', e, _, d0, d1, _⟩ := (HV.out W hW).node hx
    cases e; rw [hC0, Nat.zero_mul, Nat.add_zero] at d1; rw [hK0, Nat.zero_mul, Nat.add_zero] at d0; exact ⟨d0, d1⟩
  by_cases hbad : K0 ≠ 4 ∨ C0 = 0
  · have HR : Hid ((rdP p L).2 = (0, 6)) := Lib.hid (rdP_hd (r := (0, 6)) (hdP_bad1 hc hx (by rw [hK0, hC0]; exact hbad)) (by decide))
    obtain ⟨bk, hbk⟩ : ∃ b, (K0 != 4) = b := ⟨_, rfl⟩
    obtain ⟨bc, hbc⟩ : ∃ b, (C0 == 0) = b := ⟨_, rfl⟩
    have hor : bk = true ∨ bc = true := hbad.imp (fun e => by rw [← hbk]; exact bne_iff_ne.2 e) (fun e => by rw [← hbc]; exact beq_iff_eq.2 e)
    clear hcx hc hp hxt hx hK0 hC0 hbad CC hs hi
    go_enter Tryz.func21, Tryz.ntmps21
    go_wp2_with fail
    refine C1.out.mono ?_
    rintro e w2 ⟨rfl, hb2⟩
    have HS2 := Lib.hid (HS1.out.on hb2)
    obtain ⟨q0, q1⟩ := HCell.out w2 HS2.out.bel
    clear hW1
    cases bk
    · obtain rfl : bc = true := hor.resolve_left (by simp)
      go_wp2_with fail
      refine (wrongI_any w _ _ _ _ _ _ _ 0 6 w2 HS2.out).mono ?_
      rintro e w3 ⟨rfl, hS3⟩
      have HS3 := Lib.hid hS3
      clear hS3
      go_wp2_with fail
      go_ret
      exact whV_of HR.out HS3.out (fun e => by cases e)
    · go_wp2_with fail
      refine (wrongI_any w _ _ _ _ _ _ _ 0 6 w2 HS2.out).mono ?_
      rintro e w3 ⟨rfl, hS3⟩
      have HS3 := Lib.hid hS3
      clear hS3
      go_wp2_with fail
      go_ret
      exact whV_of HR.out HS3.out (fun e => by cases e)
  have hK4 : K0 = 4 := Decidable.byContradiction fun e => hbad (.inl e)
  have hC4 : C0 ≠ 0 := fun e => hbad (.inr e)
  have hbk : (K0 != 4) = false := by rw [hK4]; rfl
  have hbc : (C0 == 0) = false := beq_eq_false_iff_ne.2 hC4
  -- the second node
  have h0k : 0 < (kidsX p).length := by rw [kidsX_len, HN.out]; exact hn0
  have hcnt : 0 < cnt (kidsX p) 0 := by
    rw [cnt_of (kidsX_at hx), hC0]
    have := chkX_kids hc x (List.mem_of_getElem? hx)
    omega
  have h1n : 1 < n := by
    obtain ⟨s1, s2, s3⟩ := hp.tr.pos_step h0k hcnt
    rw [posK_start h0k, kidsX_len, HN.out] at s2; omega
  have h1n1 : (1 : Int) < (n : Int) := by omega
  obtain ⟨y, hy⟩ : ∃ y, p[1]? = some y := ⟨_, List.getElem?_eq_getElem (by rw [HN.out]; exact h1n)⟩
  obtain ⟨Y0, hY0⟩ : ∃ c, y.k = c := ⟨_, rfl⟩
  have HCy : Hid (∀ W, Below w.heap.size w W → W.cell? ⟨g0, o0 + 8, none⟩ = some (.int .i64 Y0)) := Lib.hid fun W hW => by
    obtain ⟨g', o', e, _, d0, _⟩ := (HV.out W hW).node hy
    cases e; rw [hY0, Nat.one_mul] at d0; exact d0
  have hd2 : hdP p = if Y0 ≠ 3 then (1, 6) else (0, 0) := by rw [← hY0]; exact hdP_bad2 hc hx hy (by rw [hK0, hK4]) (by rw [hC0]; exact hC4)
  by_cases hY3 : Y0 = 3
  case neg =>
    have HR : Hid ((rdP p L).2 = (1, 6)) := Lib.hid (rdP_hd (r := (1, 6)) (by rw [hd2, if_pos hY3]) (by decide))
    have hby : (Y0 != 3) = true := bne_iff_ne.2 hY3
    clear hcx hc hp hxt hx hK0 hC0 hd2 hbad CC hs hi hK4 hC4 h0k hcnt hy hY0 hY3
    go_enter Tryz.func21, Tryz.ntmps21
    go_wp2_with fail
    refine C1.out.mono ?_
    rintro e w2 ⟨rfl, hb2⟩
    have HS2 := Lib.hid (HS1.out.on hb2)
    obtain ⟨q0, q1⟩ := HCell.out w2 HS2.out.bel
    have q2 := HCy.out w2 HS2.out.bel
    clear hW1
    go_wp2_with fail
    -- MARK2
    refine (wrongI_any w _ _ _ _ _ _ _ 1 6 w2 HS2.out).mono ?_
    rintro e w3 ⟨rfl, hS3⟩
    have HS3 := Lib.hid hS3
    clear hS3
    go_wp2_with fail
    go_ret
    exact whV_of HR.out HS3.out (fun e => by cases e)
  have hby : (Y0 != 3) = false := by rw [hY3]; rfl
  have hd3 : hdP p = (0, 0) := by rw [hd2, if_neg (by rw [hY3]; simp)]
  have hHd : HdOk p := hdP_ok (by rw [hd3])
  have hp1 : posK (kidsX p) 0 1 = 2 := by
    obtain ⟨s1, s2, s3⟩ := hp.tr.pos_step h0k hcnt
    rw [posK_start h0k] at s3
    rw [← s3]; exact hHd.one
  have HR : Hid ((rdP p L).2 = (((rdF p L [] (spP p)).2.1 : Int), (rdF p L [] (spP p)).2.2) ∧ ((rdF p L [] (spP p)).2.2 = 0 → (rdF p L [] (spP p)).1 = (rdP p L).1)) := Lib.hid (by
    unfold rdP
    rw [if_neg (by rw [hd3]; simp)]
    by_cases h0 : (rdF p L [] (spP p)).2.2 = 0
    · rw [if_neg (by simpa using h0)]
      refine ⟨?_, fun _ => rfl⟩
      rw [h0, rdF_zero _ _ h0]; rfl
    · rw [if_pos h0]; exact ⟨rfl, fun e => absurd e h0⟩)
  have CE := Lib.hid (fun W (hW : Below w.heap.size w W) => rElements_any _ p 0 W (HV.out W hW) hc (by rw [HN.out]; exact hn0))
  have CL : Hid (∀ xa xc w2 w3, WkS w w.heap.size (.slice (some ⟨g0, o0, none⟩) n vc) (.slice ua um uc) [] 0 0 none 0 0 w2 → Below w2.heap.size w2 w3 → w3.ownsRow w2.heap.size 3 1 (.slice xa (cnt (kidsX p) 0) xc) (cnt (kidsX p) 0) (natC (kidsN (kidsX p) 0)) →
      Calls Tryz.prog 30 #[.pointer (some ⟨w.heap.size, 0, none⟩), .slice xa (cnt (kidsX p) 0) xc, .int .i64 (1 : Int), .int .i64 (0 : Int)] w3
        (WkR w w.heap.size (.slice (some ⟨g0, o0, none⟩) n vc) (.slice ua um uc) (rdF p L [] (spP p)) none w3)) := Lib.hid fun xa xc w2 w3 hS2 hb3 ho => by
    have hS3 := hS2.on hb3
    have h1 := list_go w w.heap.size g0 o0 n vc (.slice ua um uc) p L hp HN.out (by rw [← HN.out]; exact (chkX_tree hc).2.2) HV.out 0 1 0 hn0 hcnt (Nat.le_refl _) (fun j _ hj => wk_one w w.heap.size g0 o0 n vc (.slice ua um uc) p L hc HN.out HV.out HU.out HLl.out _ _ (by rw [← HN.out]; exact (el_lt hp (by rw [HN.out]; exact hn0) hj).2) (Nat.le_refl _)) xa xc [] none 0 0 w3 hS3 (by simp) (fun h0 => by
      obtain ⟨gx, e1, e2, e3, e4⟩ := elc_own ho h0
      refine ⟨gx, e1, e3, ?_, (by simp [Value.ownBlock]), e4⟩
      have := hS2.lt; omega)
    rw [hp1, hp.end_0] at h1
    exact h1
  obtain ⟨K, hK⟩ : ∃ K, cnt (kidsX p) 0 = K := ⟨_, rfl⟩
  rw [hK] at CE CL
  clear hcx hc hp hxt hx hK0 hC0 hd2 hd3 hbad CC hs hi hK4 hC4 h0k hcnt hy hY0 hY3 hHd hp1 hK
  go_enter Tryz.func21, Tryz.ntmps21
  go_wp2_with fail
  refine C1.out.mono ?_
  rintro e w2 ⟨rfl, hb2⟩
  have HS2 := Lib.hid (HS1.out.on hb2)
  obtain ⟨q0, q1⟩ := HCell.out w2 HS2.out.bel
  have q2 := HCy.out w2 HS2.out.bel
  clear hW1
  go_wp2_with fail
  -- MARK3
  refine (CE.out w2 HS2.out.bel).mono ?_
  rintro e w3 ⟨xa, xc, rfl, ho, hb3⟩
  have CL := Lib.hid (CL.out xa xc w2 w3 HS2.out hb3 ho)
  go_wp2_with fail
  refine CL.out.mono ?_
  rintro e w4 ⟨rfl, b4, m4, c4, hS4, _⟩
  have HS4 := Lib.hid hS4
  clear hS4
  go_wp2_with fail
  go_ret
  exact whV_of HR.out.1 HS4.out (fun e => HR.out.2 e)
set_option maxRecDepth 50000 in
set_option maxHeartbeats 3200000 in
theorem rCheck12_any (v u : Value) (p : List Sx) (L : List Pid) (w : World) (h : XsAt w v p) (hs : SmX p) (hi : InX p) (hu : PsAt w u L) (hll : L.length ≤ 100000) :
    Calls Tryz.prog 8 #[v, u] w fun e w' => e = .returned (two64 (rdP p L).2) ∧ Below w.heap.size w w' := by
  have C := Lib.hid (whole_any v u p L w h hs hi hu hll)
  obtain ⟨va, vc, rfl, _⟩ := h.slice
  obtain ⟨ua, uc, rfl, _⟩ := hu.slice
  obtain ⟨⟨vv, n1, e1⟩, hr⟩ : ∃ r, rdP p L = r := ⟨_, rfl⟩
  unfold WhV two64 at *
  rw [hr] at C ⊢
  simp only at C ⊢
  clear h hs hi hu hll hr
  go_enter Tryz.func8, Tryz.ntmps8
  go_wp2_with fail
  refine C.out.mono ?_
  rintro e w1 ⟨g, pv, lv, b, m, c, vs, rfl, hS, _⟩
  have HS := Lib.hid hS
  obtain ⟨_, _, _, k3, k4, _⟩ := box5W hS.box
  have hbl := hS.bel
  clear hS
  go_wp2_with fail
  go_quiet (fail)
  go_wp2_with fail
  -- MARK4
  go_ret2
  exact ⟨rfl, ⟨hbl.os, hbl.tape, hbl.output, hbl.size, hbl.block⟩⟩
-- MARK9
end Go.Proofs.YtdiinlmeoifgjaaGreatDoor
