import Derived.Test.YtkngkajojcmmlaaDoorDxr
import Derived.Test.YtkngkajojcmmlaaDoorDrd
/- The reference's Strings. -/
namespace Go.Proofs.YtkngkajojcmmlaaDoor
open Go.RowKit Go.PlainAid

theorem take_moreS {l m : Ls} {k : Nat} {x : List UInt8} (h : l.take k = m.take k) (h1 : l[k]? = some x) (h2 : m[k]? = some x) : l.take (k + 1) = m.take (k + 1) := by
  rw [List.take_add_one, List.take_add_one, h, h1, h2]
set_option maxRecDepth 50000 in
set_option maxHeartbeats 1600000 in
theorem strs4_any (v v' : Value) (l m : Ls) (w : World) (h : StrRow w v l) (h' : StrRow w v' m) (hl : l.length ≤ 1000000) :
    Calls Tryd.prog 45 #[v, v'] w fun e w' => e = .returned (.bool (decide (l = m))) ∧ Below w.heap.size w w' := by
  obtain ⟨a, c, rfl, hA⟩ := h
  obtain ⟨a', c', rfl, hA'⟩ := h'
  have HA := Lib.hid hA
  have HA' := Lib.hid hA'
  clear hA hA'
  by_cases hn : l.length = m.length
  · obtain ⟨n, hln⟩ : ∃ n, l.length = n := ⟨_, rfl⟩
    have hmn : m.length = n := hn ▸ hln
    have HL := Lib.hid hln
    have HM := Lib.hid hmn
    rw [hln] at hl
    rw [hln, hmn]
    clear hn hln hmn
    go_enter Tryd.func45, Tryd.ntmps45
    go_wp2_with fail
    go_loopw [5] (fun x5 wr => ∃ k : Nat, x5 = .int .i64 k ∧ k ≤ n ∧ Hid (l.take k = m.take k) ∧ Below w.heap.size w wr) (fun x5 _ => n - (intOf x5).toNat)
    case atStart => exact ⟨0, rfl, Nat.zero_le _, Lib.hid (by rw [List.take_zero, List.take_zero]), Below.refl _ _⟩
    case round =>
      obtain ⟨k, rfl, hk, HT, hbr⟩ := hrel
      by_cases hlt : k < n
      · obtain ⟨x, hx⟩ : ∃ x, l[k]? = some x := ⟨_, List.getElem?_eq_getElem (by rw [HL.out]; exact hlt)⟩
        obtain ⟨y, hy⟩ : ∃ y, m[k]? = some y := ⟨_, List.getElem?_eq_getElem (by rw [HM.out]; exact hlt)⟩
        rcases HA.out with hnil | ⟨g1, o1, rfl, hg1, hc1⟩
        · rw [hnil] at hx; cases hx
        rcases HA'.out with hnil | ⟨g2, o2, rfl, hg2, hc2⟩
        · rw [hnil] at hy; cases hy
        have d1 : wr.cell? ⟨g1, o1 + k, none⟩ = some (.string (str x)) := (hbr.cell (p := ⟨g1, o1 + k, none⟩) hg1).trans (hc1 _ _ hx)
        have d2 : wr.cell? ⟨g2, o2 + k, none⟩ = some (.string (str y)) := (hbr.cell (p := ⟨g2, o2 + k, none⟩) hg2).trans (hc2 _ _ hy)
        have hk0 : (0 : Int) ≤ (k : Int) := Int.natCast_nonneg _
        have hk1 : (k : Int) < (n : Int) := by omega
        by_cases hxy : x = y
        · subst hxy
          have HT2 := Lib.hid (take_moreS HT.out hx hy)
          have hbq := str_beq x x
          rw [decide_eq_true rfl] at hbq
          obtain ⟨u, hu⟩ : ∃ u, str x = u := ⟨_, rfl⟩
          rw [hu] at d1 d2 hbq
          clear hx hy hc1 hc2 hu
          go_wp2_with fail
          go_quiet (fail)
          go_wp2_with fail
          exact ⟨⟨k + 1, by go_num, by omega, HT2, ⟨hbr.os, hbr.tape, hbr.output, hbr.size, hbr.block⟩⟩, by simp [intOf]; omega⟩
        · have hbq := str_beq x y
          rw [decide_eq_false hxy] at hbq
          have HD : Hid (decide (l = m) = false) := Lib.hid (decide_eq_false (fun e => by rw [e, hy] at hx; exact hxy (Option.some.inj hx).symm))
          obtain ⟨u, hu⟩ : ∃ u, str x = u := ⟨_, rfl⟩
          obtain ⟨z, hz⟩ : ∃ z, str y = z := ⟨_, rfl⟩
          rw [hu] at d1 hbq
          rw [hz] at d2 hbq
          clear hx hy hc1 hc2 hxy hu hz
          go_wp2_with fail
          go_quiet (fail)
          go_wp2_with fail
          go_ret
          exact ⟨ret_bool (by rw [HD.out]), ⟨hbr.os, hbr.tape, hbr.output, hbr.size, hbr.block⟩⟩
      · obtain rfl : k = n := by omega
        have HD : Hid (decide (l = m) = true) := Lib.hid (decide_eq_true (by
          have := HT.out
          rwa [List.take_of_length_le (Nat.le_of_eq HL.out), List.take_of_length_le (Nat.le_of_eq HM.out)] at this))
        go_wp2_with fail
        go_ret
        exact ⟨ret_bool (by rw [HD.out]), hbr⟩
  · have HD : Hid (decide (l = m) = false) := Lib.hid (decide_eq_false (fun e => hn (by rw [e])))
    have hne : ((l.length : Int) != (m.length : Int)) = true := bne_iff_ne.2 (by omega)
    clear hn
    go_enter Tryd.func45, Tryd.ntmps45
    go_wp2_with fail
    go_ret
    exact ⟨ret_bool (by rw [HD.out]), Below.refl _ _⟩
end Go.Proofs.YtkngkajojcmmlaaDoor

/- Depth (the program's): the texts Ddep, Ddep2, Ddepth without the reference's part. -/
/- Depth (the program's). Depths (mathematics); the reference's Path with its errors, its Depth; slices.Max. -/
namespace Go.Proofs.YtkngkajojcmmlaaDoor
open Go.RowKit Go.PlainAid

/-- Each node has a path. -/
theorem Tr.path {ks : List Nat} (h : Tr ks) : ∀ (f i : Nat), i ≤ f → i < ks.length → ∃ P, fol ks 0 P = some i := by
  intro f
  induction f with
  | zero => intro i hf hi; exact ⟨[], by rw [show i = 0 by omega]; rfl⟩
  | succ f ih =>
    intro i hf hi
    by_cases h0 : i = 0
    · exact ⟨[], by rw [h0]; rfl⟩
    · obtain ⟨p1, _, _⟩ := h.par hi (by omega)
      obtain ⟨k, hk, hpk⟩ := h.par_child hi (by omega)
      obtain ⟨P, hP⟩ := ih (parN ks i) (by omega) (by omega)
      exact ⟨P ++ [(k : Int)], by rw [fol_one hP hk, hpk]⟩
open Classical in
/-- The depth of a node. -/
noncomputable def dep (ks : List Nat) (i : Nat) : Nat := if h : ∃ P, fol ks 0 P = some i then (Classical.choose h).length else 0
theorem Tr.dep_of {ks : List Nat} (h : Tr ks) {i : Nat} {P : List Int} (hP : fol ks 0 P = some i) : dep ks i = P.length := by
  have hx : ∃ P, fol ks 0 P = some i := ⟨P, hP⟩
  unfold dep
  rw [dif_pos hx, h.fol_inj _ P 0 i h.pos (Classical.choose_spec hx) hP]
theorem Tr.dep_0 {ks : List Nat} (h : Tr ks) : dep ks 0 = 0 := h.dep_of (P := []) rfl
theorem Tr.dep_kid {ks : List Nat} (h : Tr ks) {i k : Nat} (hi : i < ks.length) (hk : k < cnt ks i) : dep ks (posK ks i k) = dep ks i + 1 := by
  obtain ⟨P, hP⟩ := h.path i i (Nat.le_refl _) hi
  rw [h.dep_of (fol_one hP hk), h.dep_of hP, List.length_append]; rfl
theorem Tr.dep_lt {ks : List Nat} (h : Tr ks) : ∀ (f i : Nat), i ≤ f → i < ks.length → dep ks i ≤ i := by
  intro f
  induction f with
  | zero => intro i hf hi; rw [show i = 0 by omega, h.dep_0]; omega
  | succ f ih =>
    intro i hf hi
    by_cases h0 : i = 0
    · rw [h0, h.dep_0]; omega
    · obtain ⟨p1, _, _⟩ := h.par hi (by omega)
      obtain ⟨k, hk, hpk⟩ := h.par_child hi (by omega)
      have h1 := h.dep_kid (i := parN ks i) (by omega) hk
      rw [hpk] at h1
      have := ih (parN ks i) (by omega) (by omega)
      omega
/-- The greatest depth of the first nodes. -/
noncomputable def mxD (ks : List Nat) : Nat → Nat
  | 0 => 0
  | i + 1 => max (mxD ks i) (dep ks i)
theorem Tr.mxD_le {ks : List Nat} (h : Tr ks) : ∀ i, i ≤ ks.length → mxD ks i ≤ i := by
  intro i
  induction i with
  | zero => intro _; exact Nat.le_refl _
  | succ i ih =>
    intro hi
    have h1 := ih (by omega)
    have h2 := h.dep_lt i i (Nat.le_refl _) (by omega)
    rw [mxD]; omega
/-- What Depth returns. -/
noncomputable def depV (t : List Nd) : Value := if (chkT symS t).2 = 0 then .tuple #[.int .i64 (mxD (kidsL t) t.length : Int), .int .i64 0] else .tuple #[.int .i64 0, .int .i64 (chkT symS t).2]


set_option maxRecDepth 50000 in
set_option maxHeartbeats 1600000 in
theorem max_any (g n c : Nat) (ks : List Nat) (w : World) (h0 : 0 < n) (hl : n ≤ 400) (hd : Hid (∀ k, k < n → w.cell? ⟨g, k, none⟩ = some (.int .i64 (dep ks k : Int)))) (hz : dep ks 0 = 0) :
    Calls Tryd.prog 62 #[.slice (some ⟨g, 0, none⟩) n c] w fun e w' => e = .returned (.int .i64 (mxD ks n : Int)) ∧ w = w' := by
  have d0 := hd.out 0 h0
  rw [hz] at d0
  have H1 : Hid (mxD ks 1 = 0) := Lib.hid (by rw [mxD, mxD, hz]; rfl)
  have e0 : decide ((n : Int) < 1) = false := decide_eq_false (by omega)
  have e1 : ¬ n = 0 := by omega
  have hn0 : (0 : Int) < (n : Int) := by omega
  clear hz
  go_enter Tryd.func62, Tryd.ntmps62
  go_wp2_with fail
  -- MARK1
  go_loop [3, 4] (fun x3 x4 => ∃ k m : Nat, x4 = .int .i64 (k : Int) ∧ 1 ≤ k ∧ k ≤ n ∧ x3 = .int .i64 (m : Int) ∧ Hid (mxD ks k = m)) (fun _ x4 => n - (intOf x4).toNat)
  case atStart => exact ⟨1, 0, rfl, Nat.le_refl _, by omega, rfl, H1⟩
  case round =>
    obtain ⟨k, m, rfl, hk1, hk, rfl, HM⟩ := hrel
    have hk0 : (0 : Int) ≤ (k : Int) := Int.natCast_nonneg _
    by_cases hlt : k < n
    · have hk2 : (k : Int) < (n : Int) := by omega
      have dk := hd.out k hlt
      obtain ⟨d, hdd⟩ : ∃ d, dep ks k = d := ⟨_, rfl⟩
      rw [hdd] at dk
      have HM2 : Hid (mxD ks (k + 1) = max m d) := Lib.hid (by rw [mxD, HM.out, hdd])
      clear hdd d0
      go_wp2_with fail
      -- MARK2
      go_round
      case rel => exact ⟨k + 1, max m d, by go_num, by omega, by omega, by rw [show ((max m d : Nat) : Int) = max (m : Int) (d : Int) by omega], HM2⟩
      case measure => simp [intOf]; omega
    · obtain rfl : k = n := by omega
      have HF : Hid (mxD ks k = m) := HM
      clear d0
      go_wp2_with fail
      go_ret
      exact ⟨by rw [HF.out]; rfl, rfl⟩
end Go.Proofs.YtkngkajojcmmlaaDoor

/- The program's Depth: what its loops keep; a function that leaves with many marks. -/
namespace Go.Proofs.YtkngkajojcmmlaaDoor
open Go.RowKit Go.Shelf Go.PlainAid

/-- The depths so far: of the root, of the children of the first k nodes, and of these children of node k. -/
def DepOk (ks : List Nat) (n k : Nat) (pre ds : List Nat) : Prop := ds.length = n ∧ ∀ j, j < n → (j = 0 ∨ parN ks j < k ∨ j ∈ pre) → ds[j]? = some (dep ks j)
theorem DepOk.start {ks : List Nat} (h : Tr ks) {n : Nat} : DepOk ks n 0 [] (List.replicate n 0) := by
  refine ⟨List.length_replicate, fun j hj hc => ?_⟩
  rcases hc with rfl | hc | hc
  · rw [List.getElem?_replicate, if_pos hj, h.dep_0]
  · omega
  · cases hc
theorem DepOk.at {ks : List Nat} (h : Tr ks) {n k : Nat} {pre ds : List Nat} (hn : ks.length = n) (hd : DepOk ks n k pre ds) (hk : k < n) : ds[k]? = some (dep ks k) := by
  refine hd.2 k hk ?_
  by_cases h0 : k = 0
  · exact .inl h0
  · exact .inr (.inl (h.par (by omega) (by omega)).1)
theorem kid_of {ks : List Nat} {k x : Nat} {pre : List Nat} (hp : pre ++ [x] <+: kidsN ks k) : ∃ q, q < cnt ks k ∧ posK ks k q = x := by
  have hx : x ∈ kidsN ks k := hp.subset (by simp)
  unfold kidsN at hx
  obtain ⟨q, hq, e⟩ := List.mem_map.1 hx
  exact ⟨q, List.mem_range.1 hq, e⟩
theorem DepOk.step {ks : List Nat} (h : Tr ks) {n k x : Nat} {pre ds : List Nat} (hn : ks.length = n) (hk : k < n) (hd : DepOk ks n k pre ds) (hp : pre ++ [x] <+: kidsN ks k) : x < n ∧ DepOk ks n k (pre ++ [x]) (ds.set x (dep ks k + 1)) := by
  obtain ⟨q, hq, rfl⟩ := kid_of hp
  obtain ⟨p1, p2, _⟩ := h.pos_step (i := k) (by omega) hq
  refine ⟨by omega, by rw [List.length_set]; exact hd.1, fun j hj hc => ?_⟩
  rw [List.getElem?_set]
  by_cases e : posK ks k q = j
  · rw [if_pos e, if_pos (by rw [hd.1]; omega), ← e, h.dep_kid (by omega) hq]
  · rw [if_neg e]
    refine hd.2 j hj ?_
    rcases hc with hc | hc | hc
    · exact .inl hc
    · exact .inr (.inl hc)
    · rcases List.mem_append.1 hc with hc | hc
      · exact .inr (.inr hc)
      · exact absurd (show posK ks k q = j from (List.mem_singleton.1 hc).symm) e
theorem DepOk.next {ks : List Nat} (h : Tr ks) {n k : Nat} {ds : List Nat} (hn : ks.length = n) (hd : DepOk ks n k (kidsN ks k) ds) : DepOk ks n (k + 1) [] ds := by
  refine ⟨hd.1, fun j hj hc => hd.2 j hj ?_⟩
  rcases hc with hc | hc | hc
  · exact .inl hc
  · by_cases h0 : j = 0
    · exact .inl h0
    · by_cases hlt : parN ks j < k
      · exact .inr (.inl hlt)
      · obtain ⟨q, hq, e⟩ := h.par_child (i := j) (by omega) (by omega)
        have hpk : parN ks j = k := by omega
        rw [hpk] at hq e
        exact .inr (.inr (by rw [← e]; exact List.mem_of_getElem? (kidsN_at hq)))
  · cases hc
theorem DepOk.all {ks : List Nat} (h : Tr ks) {n : Nat} {ds : List Nat} (hn : ks.length = n) (hd : DepOk ks n n [] ds) {j : Nat} (hj : j < n) : ds[j]? = some (dep ks j) := by
  refine hd.2 j hj ?_
  by_cases h0 : j = 0
  · exact .inl h0
  · have := (h.par (i := j) (by omega) (by omega)).1
    exact .inr (.inl (by omega))

/-- What Depth's loops keep: the tree's box, the depths, their box; all below. -/
def DpI (A n ge : Nat) (vt : Value) (w2 : World) (ds : List Nat) (W : World) : Prop :=
  Below A w2 W ∧ W.heap[A]? = some (.cells #[vt, .slice (some ⟨ge, 0, none⟩) n n] 72 (0, 0)) ∧ W.heap[A + 1]? = some (.cells (natV ds).toArray 3 (0, 0)) ∧ W.heap[A + 2]? = some (.cells #[.slice (some ⟨A + 1, 0, none⟩) n n] 30 (0, 0))
theorem DpI.grown {A n ge : Nat} {vt : Value} {w2 W W' : World} {ds : List Nat} {row : Option Nat} (h : DpI A n ge vt w2 ds W) (hg : W.grownBy W' row) (hr : ∀ r, row = some r → A + 3 ≤ r) : DpI A n ge vt w2 ds W' := by
  obtain ⟨h1, h2, h3, h4⟩ := h
  have hs := (Array.getElem?_eq_some_iff.1 h4).1
  exact ⟨h1.grown hg (by omega) (fun k e => by have := hr k e; omega), (hg.block A (by omega) (fun e => by have := hr _ e.symm; omega)).trans h2, (hg.block (A + 1) (by omega) (fun e => by have := hr _ e.symm; omega)).trans h3, (hg.block (A + 2) (by omega) (fun e => by have := hr _ e.symm; omega)).trans h4⟩

/-- The marks that ranges over functions left. -/
def markD (D : Nat) : Deferred := { target := .collected D, args := #[] }
theorem leaves_marks {F : Fence} {n : Nat} {P : Program} {fn : Func} {tmps : Array Value} {R : Ending → World → Prop} {u : FrameMode} (hu : u ≠ .run) (Q : World → Prop) :
    ∀ (Ds : List Nat) (W : World), Ds.Nodup → (∀ D ∈ Ds, W.heap[D]? = some (.deferred (some []))) → Q W → (∀ W D, D ∈ Ds → Q W → Q (W.putObj D (.deferred none))) → (∀ W, Q W → LeavesIn F n P fn tmps R [] u W) →
    LeavesInM F n P fn tmps R (Ds.map markD) u W := by
  intro Ds
  induction Ds with
  | nil => intro W _ _ hq _ hl; exact hl W hq
  | cons D Ds ih =>
    intro W hnd hD hq hp hl
    obtain ⟨h1, h2⟩ := List.nodup_cons.1 hnd
    refine ⟨hu, .inl ⟨D, _, rfl, run_takeDeferred (hD D (by simp)), ?_⟩⟩
    refine ih _ h2 (fun D' hD' => ?_) (hp W D (by simp) hq) (fun W' D' h' hq' => hp W' D' (by simp [h']) hq') hl
    rw [World.putObj_heap_other (by rintro rfl; exact h1 hD')]
    exact hD D' (by simp [hD'])
end Go.Proofs.YtkngkajojcmmlaaDoor

/- The program's Depth. -/
namespace Go.Proofs.YtkngkajojcmmlaaDoor
open Go.RowKit Go.Shelf Go.PlainAid

attribute [local go_sem] Oper.semAt_some

set_option maxRecDepth 50000 in
set_option maxHeartbeats 1600000 in
theorem depth_ok (v : Value) (t : List Nd) (w : World) (hD : DatAt w v t) :
    CallsIn Fence.wide 6 Tryd.prog 25 #[v] w fun e w' => e = .returned (depV t) ∧ Below w.heap.size w w' := by
  have C := Lib.hid (treeOf_any symS v t w hD.1 hD.sym (Lib.hid hD.2.2.1))
  have hz := hD.2.2.2.2
  obtain ⟨hT, hne, hl, _, hce⟩ := chkT_ok hz
  have HZ := Lib.hid hz
  have HV : Hid (depV t = .tuple #[.int .i64 (mxD (kidsL t) t.length : Int), .int .i64 0]) := Lib.hid (by unfold depV; rw [if_pos hz])
  have HT := Lib.hid hT
  obtain ⟨a, c, rfl⟩ := hD.1.slice
  obtain ⟨n, hn⟩ : ∃ n, t.length = n := ⟨_, rfl⟩
  have HN := Lib.hid hn
  have hn0 : 0 < n := by rw [← hn]; exact List.length_pos_iff.2 hne
  rw [hn] at C HV hl
  rw [hn]
  clear hD hz hT hne hce hn
  refine callsIn_of_wp_marks Tryd.func25 rfl trivial ?_ rfl
  simp only [Tryd.ntmps25, List.size_toArray, List.length_cons, List.length_nil, Nat.reduceAdd, Nat.reduceSub, Array.replicate_succ, Array.replicate_zero, List.push_toArray, List.append_toArray, List.nil_append, List.cons_append]
  gi_wp2
  refine ⟨trivial, (callsIn_wide.2 C.out).mono ?_⟩
  rintro e' w2 ⟨_, hok, hb2⟩
  obtain ⟨ve, rfl, ge, rfl, hge, hgl, hgc⟩ := hok HZ.out
  have HGC := Lib.hid hgc
  rw [HN.out]
  have hm1 := make_ints (w2.alloc (.cells #[.slice a n c, .slice (some ⟨ge, 0, none⟩) n n] 72)) n (by omega)
  rw [World.size_alloc] at hm1
  clear hok hgc C
  gi_wp2
  -- MARK1
  obtain ⟨W0, hW0⟩ : ∃ W0, W0 = ((w2.alloc (.cells #[.slice a n c, .slice (some ⟨ge, 0, none⟩) n n] 72)).alloc (.cells (natV (List.replicate n 0)).toArray 3)).alloc (.cells #[.slice (some ⟨w2.heap.size + 1, 0, none⟩) n n] 30) := ⟨_, rfl⟩
  obtain ⟨A, hA⟩ : ∃ A, w2.heap.size = A := ⟨_, rfl⟩
  have hI0 : DpI A n ge (.slice a n c) w2 (List.replicate n 0) W0 := by
    rw [hW0, ← hA]
    refine ⟨((below_b1 w2 _).alloc (by simp only [World.size_alloc]; omega) _).alloc (by simp only [World.size_alloc]; omega) _, ?_, ?_, ?_⟩
    · exact (Below.heap_alloc _ _ _ (by simp only [World.size_alloc]; omega)).trans ((Below.heap_alloc _ _ _ (by simp only [World.size_alloc]; omega)).trans (World.alloc_heap_new _ _))
    · have := World.alloc_heap_new (w2.alloc (.cells #[.slice a n c, .slice (some ⟨ge, 0, none⟩) n n] 72)) (.cells (natV (List.replicate n 0)).toArray 3)
      rw [World.size_alloc] at this
      exact (Below.heap_alloc _ _ _ (by simp only [World.size_alloc]; omega)).trans this
    · have := World.alloc_heap_new ((w2.alloc (.cells #[.slice a n c, .slice (some ⟨ge, 0, none⟩) n n] 72)).alloc (.cells (natV (List.replicate n 0)).toArray 3)) (.cells #[.slice (some ⟨w2.heap.size + 1, 0, none⟩) n n] 30)
      simp only [World.size_alloc] at this
      exact this
  rw [← hW0, hA]
  rw [hA] at hgl
  have hgA : ge < A := hgl
  clear hm1 hW0
  have HI0 := Lib.hid hI0
  have hb2A : Hid (Below w.heap.size w w2 ∧ w.heap.size ≤ A) := Lib.hid ⟨hb2, by rw [← hA]; exact hb2.size⟩
  have HEnds : Hid (∀ W, Below A w2 W → ∀ (j q : Nat), (endsL (kidsL t))[j]? = some q → W.cell? ⟨ge, j, none⟩ = some (.int .i64 (q : Int))) := Lib.hid fun W hW j q hj => (hW.cell (p := ⟨ge, j, none⟩) hgA).trans (HGC.out j q hj)
  clear hI0 hb2 HGC hA hge
  -- MARK2
  refine wpIn_loop (fun a' W => ∃ (k : Nat) (ds Ds : List Nat) (u7 u8 u23 u24 u25 u26 u27 u28 u29 u30 u31 u32 u33 u34 u35 u36 u37 : Value), a' = { tmps := #[.slice a n c, undef, .int .i64 0, .int .i64 0, .pointer (some ⟨A, 0, none⟩), .int .i64 0, .pointer (some ⟨A + 1 + 1, 0, none⟩), u7, u8, .tuple #[.agg #[.slice a n c, .slice (some ⟨ge, 0, none⟩) n n], .int .i64 0], .slice a n c, .tuple #[.agg #[.slice a n c, .slice (some ⟨ge, 0, none⟩) n n], .int .i64 0], .agg #[.slice a n c, .slice (some ⟨ge, 0, none⟩) n n], .int .i64 0, .int .i64 0, .bool false, undef, .slice a n c, .int .i64 (n : Int), .slice (some ⟨A + 1, 0, none⟩) n n, .slice a n c, .int .i64 (n : Int), .int .i64 (k : Int), u23, u24, u25, u26, u27, u28, u29, u30, u31, u32, u33, u34, u35, u36, u37, undef, undef], defers := Ds.map markD } ∧ k ≤ n ∧ DpI A n ge (.slice a n c) w2 ds W ∧ Hid (DepOk (kidsL t) n k [] ds) ∧ Hid (Ds.Nodup ∧ ∀ D ∈ Ds, A + 3 ≤ D ∧ W.heap[D]? = some (.deferred (some [])))) (fun a' _ => n - (intOf (a'.tmps.getD 22 undef)).toNat) ?_ ?_
  · exact ⟨0, _, [], _, _, _, _, _, _, _, _, _, _, _, _, _, _, _, _, _, rfl, Nat.zero_le _, HI0.out, Lib.hid (DepOk.start HT.out), Lib.hid ⟨List.nodup_nil, fun D hD => by cases hD⟩⟩
  · rintro a' W ⟨k, ds, Ds, u7, u8, u23, u24, u25, u26, u27, u28, u29, u30, u31, u32, u33, u34, u35, u36, u37, rfl, hk, hI, HDp, HMk⟩
    dsimp only
    have hk0 : (0 : Int) ≤ (k : Int) := Int.natCast_nonneg _
    obtain ⟨i1, i2, i3, i4⟩ := hI
    obtain ⟨c4, c5, _, _⟩ := box_facts i2
    have c6 : W.cell? ⟨A + 1 + 1, 0, none⟩ = some (.slice (some ⟨A + 1, 0, none⟩) n n) := by simp [World.cell?, i4]
    by_cases hlt : k < n
    · have hk1 : (k : Int) < (n : Int) := by omega
      have dk : decide ((k : Int) < (n : Int)) = true := decide_eq_true hk1
      have hAs : A + 3 ≤ W.heap.size := (Array.getElem?_eq_some_iff.1 i4).1
      have c4a : ∀ o, (W.alloc o).cell? ⟨A, 0, none⟩ = some (.slice a n c) := fun o => (World.cell?_alloc_lt _ _ _ (show A < W.heap.size by omega)).trans c4
      have c5a : ∀ o, (W.alloc o).cell? ⟨A, 1, none⟩ = some (.slice (some ⟨ge, 0, none⟩) n n) := fun o => (World.cell?_alloc_lt _ _ _ (show A < W.heap.size by omega)).trans c5
      gi_wp2
      -- MARK3
      refine ⟨trivial, (callsIn_wide.2 (kids_mk _ _ _ _ _ _ _ _)).mono ?_⟩
      rintro e' w5 ⟨rfl, rfl⟩
      gi_wp2
      obtain ⟨S, hS⟩ : ∃ S, W.heap.size = S := ⟨_, rfl⟩
      obtain ⟨W1, hW1⟩ : ∃ W1, W1 = ((W.alloc (.cells #[.int .i64 (k : Int)] 3)).alloc (.cells #[.slice a n c, .slice (some ⟨ge, 0, none⟩) n n] 72)).alloc (.cells #[.int .i64 (k : Int)] 3) := ⟨_, rfl⟩
      have hsz : W1.heap.size = S + 3 := by rw [hW1, ← hS]; simp
      have hI1 : DpI A n ge (.slice a n c) w2 ds W1 := by
        rw [hW1]
        exact ((DpI.grown ⟨i1, i2, i3, i4⟩ (World.grownBy_alloc W _ none) (fun r e => by cases e)).grown (World.grownBy_alloc _ _ none) (fun r e => by cases e)).grown (World.grownBy_alloc _ _ none) (fun r e => by cases e)
      have hx0 : W1.heap[S]? = some (.cells #[.int .i64 (k : Int)] 3 (0, 0)) := by
        rw [hW1, ← hS]; exact (Below.heap_alloc _ _ _ (by simp only [World.size_alloc]; omega)).trans ((Below.heap_alloc _ _ _ (by simp only [World.size_alloc]; omega)).trans (World.alloc_heap_new _ _))
      have hx1 : W1.heap[S + 1]? = some (.cells #[.slice a n c, .slice (some ⟨ge, 0, none⟩) n n] 72 (0, 0)) := by
        have := World.alloc_heap_new (W.alloc (.cells #[.int .i64 (k : Int)] 3)) (.cells #[.slice a n c, .slice (some ⟨ge, 0, none⟩) n n] 72)
        rw [World.size_alloc] at this
        rw [hW1, ← hS]; exact (Below.heap_alloc _ _ _ (by simp only [World.size_alloc]; omega)).trans this
      have hx2 : W1.heap[S + 2]? = some (.cells #[.int .i64 (k : Int)] 3 (0, 0)) := by
        have := World.alloc_heap_new ((W.alloc (.cells #[.int .i64 (k : Int)] 3)).alloc (.cells #[.slice a n c, .slice (some ⟨ge, 0, none⟩) n n] 72)) (.cells #[.int .i64 (k : Int)] 3)
        simp only [World.size_alloc] at this
        rw [hW1, ← hS]; exact this
      have hmk : Hid (∀ D ∈ Ds, D < S ∧ W1.heap[D]? = some (.deferred (some []))) := Lib.hid fun D hD => by
        have h1 := (HMk.out.2 D hD).2
        have h2 := (Array.getElem?_eq_some_iff.1 h1).1
        refine ⟨by omega, ?_⟩
        rw [hW1]
        exact (Below.heap_alloc _ _ _ (by simp only [World.size_alloc]; omega)).trans ((Below.heap_alloc _ _ _ (by simp only [World.size_alloc]; omega)).trans ((Below.heap_alloc _ _ _ h2).trans h1))
      have hAS : A + 3 ≤ S := by omega
      rw [← hW1, hS]
      clear hW1 c4 c5 c4a c5a c6 i1 i2 i3 i4
      have hseq := kids_seq (S + 1) (S + 2) ge n k (.slice a n c) t (fun b => b = S + 1 ∨ b = S + 2 ∨ b = ge) 5 (by omega) W1 ⟨.inl rfl, .inr (.inl rfl), .inr (.inr rfl)⟩ (fun b hb => by omega) hx1 hx2 HN.out HT.out hlt hl (HEnds.out W1 hI1.1)
      have hkl : Hid ((kidsL t).length = n) := Lib.hid (by rw [kidsL_len, HN.out])
      refine wpIn_rangeO (by omega) rfl (enters_of Tryd.func87 (by kernel_rfl) rfl) hseq (Below.refl _ _) (fun b hb => by omega) (fun b hb => hb.elim) (fun _ => rfl)
        (fun pre W' => ∃ ds', DpI A n ge (.slice a n c) w2 ds' W' ∧ W'.heap[S]? = some (.cells #[.int .i64 (k : Int)] 3 (0, 0)) ∧ DepOk (kidsL t) n k pre ds' ∧ ∀ D ∈ Ds, W'.heap[D]? = some (.deferred (some []))) (fun _ _ _ => False) ?_ (fun _ _ _ _ _ h _ _ => h) ?_
        (fun pre x a' W' => (∃ ds', DpI A n ge (.slice a n c) w2 ds' W' ∧ W'.heap[S]? = some (.cells #[.int .i64 (k : Int)] 3 (0, 0)) ∧ DepOk (kidsL t) n k pre ds' ∧ ∀ D ∈ Ds, W'.heap[D]? = some (.deferred (some []))) ∧ a' = { tmps := #[.slice a n c, undef, .int .i64 0, .int .i64 0, .pointer (some ⟨A, 0, none⟩), .int .i64 0, .pointer (some ⟨A + 1 + 1, 0, none⟩), .pointer (some ⟨S, 0, none⟩), .int .i64 (x : Int), .tuple #[.agg #[.slice a n c, .slice (some ⟨ge, 0, none⟩) n n], .int .i64 0], .slice a n c, .tuple #[.agg #[.slice a n c, .slice (some ⟨ge, 0, none⟩) n n], .int .i64 0], .agg #[.slice a n c, .slice (some ⟨ge, 0, none⟩) n n], .int .i64 0, .int .i64 0, .bool false, undef, .slice a n c, .int .i64 (n : Int), .slice (some ⟨A + 1, 0, none⟩) n n, .slice a n c, .int .i64 (n : Int), .int .i64 (k : Int), .bool true, .int .i64 (k : Int), .agg #[.slice a n c, .slice (some ⟨ge, 0, none⟩) n n], .int .i64 (k : Int), .func (.func 87) #[] #[.pointer (some ⟨S + 1 + 1, 0, none⟩), .pointer (some ⟨S + 1, 0, none⟩)], .int .i64 (x : Int), u29, u30, u31, u32, u33, u34, u35, u36, u37, undef, undef], defers := [] }) ?_ ?_ ?_ ?_ ?_
      · rintro pre Wa Wb row ⟨ds', g1, g2, g3, g4⟩ hg hr
        have hr' : ∀ r, row = some r → S + 3 ≤ r := fun r e => by rcases hr r e with h | h | h; exact h.elim; all_goals omega
        refine ⟨ds', g1.grown hg (fun r e => by have := hr' r e; omega), (hg.block S (Array.getElem?_eq_some_iff.1 g2).1 (fun e => by have := hr' _ e.symm; omega)).trans g2, g3, fun D hD => (hg.block D (Array.getElem?_eq_some_iff.1 (g4 D hD)).1 (fun e => by have := hr' _ e.symm; have := (hmk.out D hD).1; omega)).trans (g4 D hD)⟩
      · exact ⟨ds, hI1, hx0, HDp.out, fun D hD => (hmk.out D hD).2⟩
      · rintro pre x a' Wa Wb row ⟨⟨ds', g1, g2, g3, g4⟩, ga⟩ hg hr
        have hr' : ∀ r, row = some r → S + 3 ≤ r := fun r e => by rcases hr r e with h | h | h; exact h.elim; all_goals omega
        refine ⟨⟨ds', g1.grown hg (fun r e => by have := hr' r e; omega), (hg.block S (Array.getElem?_eq_some_iff.1 g2).1 (fun e => by have := hr' _ e.symm; omega)).trans g2, g3, fun D hD => (hg.block D (Array.getElem?_eq_some_iff.1 (g4 D hD)).1 (fun e => by have := hr' _ e.symm; have := (hmk.out D hD).1; omega)).trans (g4 D hD)⟩, ga⟩
      · intro l pre x W' K hI' hW' hK
        gi_wp2
        -- MARK5
        exact hK _ _ (KeepsP.refl _ _) ⟨hI', rfl⟩
      · rintro l pre x a' W' ⟨⟨ds', g1, g2, g3, g4⟩, rfl⟩ hW' hG
        dsimp only
        obtain ⟨gb, gt, gd, gh⟩ := g1
        obtain ⟨hxn, hstep⟩ := g3.step HT.out hkl.out hlt hG
        have hat := g3.at HT.out hkl.out hlt
        obtain ⟨d, hd⟩ : ∃ d, dep (kidsL t) k = d := ⟨_, rfl⟩
        have hd4 : d ≤ 400 := by rw [← hd]; have := HT.out.dep_lt k k (Nat.le_refl _) (by rw [hkl.out]; exact hlt); omega
        rw [hd] at hat hstep
        have c6 : W'.cell? ⟨A + 1 + 1, 0, none⟩ = some (.slice (some ⟨A + 1, 0, none⟩) n n) := by simp [World.cell?, gh]
        have c7 : W'.cell? ⟨S, 0, none⟩ = some (.int .i64 (k : Int)) := by simp [World.cell?, g2]
        have c8 : W'.cell? ⟨A + 1, k, none⟩ = some (.int .i64 (d : Int)) := by
          have := natV_at hat
          simp [World.cell?, gd, this]
        obtain ⟨y, hy⟩ : ∃ y, ds'[x]? = some y := ⟨_, List.getElem?_eq_getElem (by rw [g3.1]; exact hxn)⟩
        have c10 : W'.cell? ⟨A + 1, x, none⟩ = some (.int .i64 (y : Int)) := by
          have := natV_at hy
          simp [World.cell?, gd, this]
        clear hy
        have c9 : W'.frozen? ⟨A + 1, x, none⟩ = false := by simp [World.frozen?, gd]
        have hx0 : (0 : Int) ≤ (x : Int) := Int.natCast_nonneg _
        have hx1 : (x : Int) < (n : Int) := by omega
        have hwr : IntKind.i64.wrap ((d : Int) + 1) = (d : Int) + 1 := by rw [IntKind.wrap_i64]; omega
        rw [hsz]
        have HStep := Lib.hid hstep
        have HG4 := Lib.hid g4
        clear hstep hat hd hG g3 g4
        gi_wp2
        gi_region
        -- MARK6
        all_goals refine ⟨⟨?_, fun b hb => ?_⟩, _, ⟨?_, ?_, ?_, ?_⟩, ?_, HStep.out, fun D hD => ?_⟩
        all_goals first
          | (show W'.heap.size ≤ (W'.setCell ⟨A + 1, x, none⟩ (.int .i64 ((d : Int) + 1))).heap.size; rw [World.size_setCell]; exact Nat.le_refl _)
          | (show (W'.setCell ⟨A + 1, x, none⟩ (.int .i64 ((d : Int) + 1))).heap[b]? = _; exact set_other _ (by rcases hb with (hb | hb | hb) | hb | hb <;> omega))
          | (show (W'.setCell ⟨A + 1, x, none⟩ (.int .i64 ((d : Int) + 1))).heap[D]? = _; exact (set_other _ (by have := (HMk.out.2 D hD).1; omega)).trans (HG4.out D hD))
          | exact (gb.setCell (by show A ≤ A + 1; omega) _).drew
          | exact (gb.drew.setCell (by show A ≤ A + 1; omega) _)
          | (show (W'.setCell ⟨A + 1, x, none⟩ (.int .i64 ((d : Int) + 1))).heap[A]? = _; exact (set_other _ (by omega)).trans gt)
          | (show (W'.setCell ⟨A + 1, x, none⟩ (.int .i64 ((d : Int) + 1))).heap[A + 2]? = _; exact (set_other _ (by omega)).trans gh)
          | (show (W'.setCell ⟨A + 1, x, none⟩ (.int .i64 ((d : Int) + 1))).heap[S]? = _; exact (set_other _ (by omega)).trans g2)
          | (show (W'.setCell ⟨A + 1, x, none⟩ (.int .i64 ((d : Int) + 1))).heap[A + 1]? = _; rw [set_block (i := x) (.int .i64 ((d : Int) + 1)) gd, List.setIfInBounds_toArray, show (Value.int .i64 ((d : Int) + 1)) = Value.int .i64 ((d + 1 : Nat) : Int) from rfl, natV_set])
      · rintro xs W' rfl ⟨ds', g1, g2, g3, g4⟩ hDf
        rw [hsz] at hDf
        rw [hsz]
        have HDp2 := Lib.hid (g3.next HT.out hkl.out)
        have HMk2 : Hid (((S + 3) :: Ds).Nodup ∧ ∀ D ∈ (S + 3) :: Ds, A + 3 ≤ D ∧ W'.heap[D]? = some (.deferred (some []))) := Lib.hid (by
          refine ⟨List.nodup_cons.2 ⟨fun h => ?_, HMk.out.1⟩, fun D hD => ?_⟩
          · have := (hmk.out _ h).1; omega
          · rcases List.mem_cons.1 hD with rfl | hD
            · exact ⟨by omega, hDf⟩
            · exact ⟨(HMk.out.2 D hD).1, g4 D hD⟩)
        clear g3 g4
        gi_wp2
        -- MARK7
        exact ⟨⟨k + 1, ds', (S + 3) :: Ds, _, _, _, _, _, _, _, _, _, _, _, _, _, _, _, _, _, rfl, by omega, g1, HDp2, HMk2⟩, by simp [intOf]; omega⟩
      · intro c' pre W' _ h _
        exact h.elim
    · obtain rfl : k = n := by omega
      have dk : decide ((k : Int) < (k : Int)) = false := decide_eq_false (by omega)
      gi_wp2
      -- MARK4
      refine ⟨trivial, (callsIn_wide.2 (max_any (A + 1) k k (kidsL t) W hn0 hl (Lib.hid fun j hj => ?_) HT.out.dep_0)).mono ?_⟩
      · have := natV_at (HDp.out.all HT.out (by rw [kidsL_len, HN.out]) hj)
        simp [World.cell?, i3, this]
      rintro e' w5 ⟨rfl, rfl⟩
      gi_wp2
      -- MARK8
      refine leaves_marks (by simp) (fun W' => Below A w2 W' ∧ A ≤ W'.heap.size) Ds W HMk.out.1 (fun D hD => (HMk.out.2 D hD).2) ⟨i1, by have := (Array.getElem?_eq_some_iff.1 i2).1; omega⟩ (fun W' D hD h => ⟨h.1.grown (grownBy_putObj' _ _ _) h.2 (fun r e => by cases e; have := (HMk.out.2 D hD).1; omega), by simpa using h.2⟩) (fun W' h => ?_)
      refine ⟨.tuple #[.int .i64 (mxD (kidsL t) k : Int), .int .i64 0], by simp [results, Tryd.results25, go_sem], ?_, ?_⟩
      · exact (congrArg Ending.returned HV.out).symm
      · exact hb2A.out.1.trans (h.1.mono hb2A.out.2)
theorem Depth_any (v : Value) (t : List Nd) (w : World) (h : NdsAt w v t) (KB : KidsB t) (T : STabs w) (hcv : capOk v) :
    Calls Tryd.prog 25 #[v] w fun e w' => e = .returned (depV t) ∧ Below w.heap.size w w' := by
  by_cases hz : (chkT symS t).2 = 0
  · exact callsIn_wide.1 (depth_ok v t w ⟨h, hcv, KB, T, hz⟩)
  · have C := Lib.hid (treeOf_any symS v t w h (Lib.hid (symAll_of T)) (Lib.hid KB))
    have HV : Hid (depV t = .tuple #[.int .i64 0, .int .i64 (chkT symS t).2]) := Lib.hid (by unfold depV; rw [if_neg hz])
    have hne : ((chkT symS t).2 != 0) = true := bne_iff_ne.2 hz
    have HZ := Lib.hid hz
    obtain ⟨a, c, rfl⟩ := h.slice
    clear h KB T hcv hz
    refine callsIn_wide.1 (callsIn_of_wp_marks (F := Fence.wide) (n := 6) Tryd.func25 rfl trivial ?_ rfl)
    simp only [Tryd.ntmps25, List.size_toArray, List.length_cons, List.length_nil, Nat.reduceAdd, Nat.reduceSub, Array.replicate_succ, Array.replicate_zero, List.push_toArray, List.append_toArray, List.nil_append, List.cons_append]
    gi_wp2
    refine ⟨trivial, (callsIn_wide.2 C.out).mono ?_⟩
    rintro e' w2 ⟨hbad, _, hb2⟩
    obtain rfl := hbad HZ.out
    unfold zeroTree
    clear hbad
    gi_wp2
    refine ⟨.tuple #[.int .i64 0, .int .i64 (chkT symS t).2], by simp [results, Tryd.results25, go_sem], ?_, ?_⟩
    · exact (congrArg Ending.returned HV.out).symm
    · exact hb2.alloc hb2.size _
end Go.Proofs.YtkngkajojcmmlaaDoor
