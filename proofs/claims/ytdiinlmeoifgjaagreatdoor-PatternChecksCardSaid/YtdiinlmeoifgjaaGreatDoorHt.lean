/- Patterns: read. -/
import Derived.Test.YtdiinlmeoifgjaaGreatDoorHtb
import Derived.Maps.OwnIn
namespace Go.Proofs.YtdiinlmeoifgjaaGreatDoor
open Go.RowKit Go.Shelf Go.PlainAid

attribute [local go_sem] Oper.semAt_some

theorem results_box111 {fn : Func} {p q r : Tmp} (h : fn.results = #[.cell p 30, .cell q 3, .cell r 27]) (tmps : Array Value) (W : World) (a b c : Nat) (x y z : Value)
    (hp : tmps.getD p undef = .pointer (some ⟨a, 0, none⟩)) (hq : tmps.getD q undef = .pointer (some ⟨b, 0, none⟩)) (hr : tmps.getD r undef = .pointer (some ⟨c, 0, none⟩))
    (ha : W.cell? ⟨a, 0, none⟩ = some x) (hb : W.cell? ⟨b, 0, none⟩ = some y) (hc : W.cell? ⟨c, 0, none⟩ = some z) :
    (results fn tmps).run Tryz.prog W = .ok (.tuple #[x, y, z]) W := by
  have hp' : tmps[p]?.getD undef = .pointer (some ⟨a, 0, none⟩) := by simpa using hp
  have hq' : tmps[q]?.getD undef = .pointer (some ⟨b, 0, none⟩) := by simpa using hq
  have hr' : tmps[r]?.getD undef = .pointer (some ⟨c, 0, none⟩) := by simpa using hr
  simp [results, h, hp', hq', hr', go_sem, ha, hb, hc]
theorem infoPv : (Tryz.prog.info? 45).map (fun i => (i.zero, i.size, i.bytes)) = some (some (.agg #[.string ByteArray.empty, .string ByteArray.empty, .int .i64 0]), 3, 40) := by kernel_rfl
theorem spM_len (p : List Sx) : ∀ (m i : Nat) (st : List Fr), (spM p m i st).length ≤ m := by
  intro m
  induction m with
  | zero => intro i st; exact Nat.le_refl _
  | succ m ih =>
    intro i st
    rw [spM]
    split
    · exact Nat.zero_le _
    · rw [List.length_cons]; exact Nat.succ_le_succ (ih _ _)
theorem set3 {W : World} {A : Nat} {x y z : Value} {t1 t2 t3 : TypeId} (r1 r2 : Int) (k2 : W.heap[A + 1]? = some (.cells #[x] t1 (0, 0))) (k3 : W.heap[A + 2]? = some (.cells #[y] t2 (0, 0))) (k4 : W.heap[A + 3]? = some (.cells #[z] t3 (0, 0))) :
    (((W.setCell ⟨A + 1, 0, none⟩ (.slice none 0 0)).setCell ⟨A + 2, 0, none⟩ (.int .i64 r1)).setCell ⟨A + 3, 0, none⟩ (.int .i64 r2)).cell? ⟨A + 1, 0, none⟩ = some (.slice none 0 0) ∧ (((W.setCell ⟨A + 1, 0, none⟩ (.slice none 0 0)).setCell ⟨A + 2, 0, none⟩ (.int .i64 r1)).setCell ⟨A + 3, 0, none⟩ (.int .i64 r2)).cell? ⟨A + 2, 0, none⟩ = some (.int .i64 r1) ∧
      (((W.setCell ⟨A + 1, 0, none⟩ (.slice none 0 0)).setCell ⟨A + 2, 0, none⟩ (.int .i64 r1)).setCell ⟨A + 3, 0, none⟩ (.int .i64 r2)).cell? ⟨A + 3, 0, none⟩ = some (.int .i64 r2) :=
  ⟨(box1F (set1o _ (by omega) (set1o _ (by omega) (set1 _ k2)))).1, (box1F (set1o _ (by omega) (set1 _ (set1o _ (by omega) k3)))).1, (box1F (set1 _ (set1o _ (by omega) (set1o _ (by omega) k4)))).1⟩
theorem hdP_zero {p : List Sx} (h : (hdP p).2 = 0) : hdP p = (0, 0) := by
  unfold hdP at h ⊢
  by_cases hc : (chkX p).2 = 0
  · have hc' : ¬ ((chkX p).2 ≠ 0) := fun e => e hc
    simp only [if_neg hc'] at h ⊢
    cases p with
    | nil => rfl
    | cons x t =>
      by_cases h1 : x.k ≠ 4
      · simp only [if_pos h1] at h; cases h
      · simp only [if_neg h1] at h ⊢
        by_cases h2 : x.c = 0
        · simp only [if_pos h2] at h; cases h
        · simp only [if_neg h2] at h ⊢
          cases t with
          | nil => rfl
          | cons y t =>
            by_cases h3 : y.k ≠ 3
            · simp only [if_pos h3] at h; cases h
            · simp only [if_neg h3]
  · rw [if_pos hc] at h; exact absurd h hc
/-- What read gives. -/
def ReadV (p : List Sx) (L : List Pid) (w : World) (e : Ending) (w' : World) : Prop :=
  ∃ v, e = .returned (.tuple #[v, .int .i64 (rdP p L).2.1, .int .i64 (rdP p L).2.2]) ∧ WsAt w' v (toW (rdP p L).1) ∧ Below w.heap.size w w'
set_option maxRecDepth 100000 in
set_option maxHeartbeats 4000000 in
theorem read_no (v u : Value) (p : List Sx) (L : List Pid) (w : World) (h : XsAt w v p) (hs : SmX p) (hi : InX p) (T : STabs w) (hu : PsAt w u L) (he : (hdP p).2 ≠ 0) :
    Calls Tryz.prog 20 #[v, u] w (ReadV p L w) := by
  have HR : Hid (rdP p L = ([], hdP p)) := Lib.hid (by unfold rdP; rw [if_pos he])
  obtain ⟨va, vc, rfl, _⟩ := h.slice
  obtain ⟨ua, uc, rfl, _⟩ := hu.slice
  obtain ⟨n, hn⟩ : ∃ n, p.length = n := ⟨_, rfl⟩
  obtain ⟨m, hm⟩ : ∃ n, L.length = n := ⟨_, rfl⟩
  obtain ⟨⟨r1, r2⟩, hr⟩ : ∃ r, hdP p = r := ⟨_, rfl⟩
  rw [hn] at h ⊢
  rw [hm]
  rw [hr] at he HR
  obtain ⟨W0, hW0⟩ : ∃ W0, W0 = (((w.alloc (.cells #[.slice va n vc] 22)).alloc (.cells #[.slice none 0 0] 30)).alloc (.cells #[.int .i64 0] 3)).alloc (.cells #[.int .i64 0] 27) := ⟨_, rfl⟩
  have hb0 : Below w.heap.size w W0 := by rw [hW0]; exact (((below_b1 w _).alloc (by simp only [World.size_alloc]; omega) _).alloc (by simp only [World.size_alloc]; omega) _).alloc (by simp only [World.size_alloc]; omega) _
  have C := Lib.hid (checkHead_any _ p W0 (h.below hb0 (Nat.le_refl _)) hs hi (T.below hb0))
  rw [hr] at C
  obtain ⟨A, hA⟩ : ∃ A, w.heap.size = A := ⟨_, rfl⟩
  have hsz0 : W0.heap.size = A + 4 := by rw [hW0, ← hA]; simp only [World.size_alloc]
  have g1 : W0.heap[A]? = some (.cells #[.slice va n vc] 22 (0, 0)) := by
    rw [hW0, ← hA]; exact (Below.heap_alloc _ _ _ (by simp only [World.size_alloc]; omega)).trans ((Below.heap_alloc _ _ _ (by simp only [World.size_alloc]; omega)).trans ((Below.heap_alloc _ _ _ (by simp only [World.size_alloc]; omega)).trans (World.alloc_heap_new _ _)))
  have g2 : W0.heap[A + 1]? = some (.cells #[.slice none 0 0] 30 (0, 0)) := by
    have := World.alloc_heap_new (w.alloc (.cells #[.slice va n vc] 22)) (.cells #[.slice none 0 0] 30)
    rw [World.size_alloc] at this
    rw [hW0, ← hA]; exact (Below.heap_alloc _ _ _ (by simp only [World.size_alloc]; omega)).trans ((Below.heap_alloc _ _ _ (by simp only [World.size_alloc]; omega)).trans this)
  have g3 : W0.heap[A + 2]? = some (.cells #[.int .i64 0] 3 (0, 0)) := by
    have := World.alloc_heap_new ((w.alloc (.cells #[.slice va n vc] 22)).alloc (.cells #[.slice none 0 0] 30)) (.cells #[.int .i64 0] 3)
    simp only [World.size_alloc] at this
    rw [hW0, ← hA]; exact (Below.heap_alloc _ _ _ (by simp only [World.size_alloc]; omega)).trans this
  have g4 : W0.heap[A + 3]? = some (.cells #[.int .i64 0] 27 (0, 0)) := by
    have := World.alloc_heap_new (((w.alloc (.cells #[.slice va n vc] 22)).alloc (.cells #[.slice none 0 0] 30)).alloc (.cells #[.int .i64 0] 3)) (.cells #[.int .i64 0] 27)
    simp only [World.size_alloc] at this
    rw [hW0, ← hA]; exact this
  have hne : (r2 != 0) = true := bne_iff_ne.2 he
  obtain ⟨c1, _⟩ := box1F g1
  unfold two64 at C
  simp only at C
  rw [hA] at hb0
  clear h hu hs hi T hr he hn hm
  go_enter Tryz.func20, Tryz.ntmps20
  go_wp2_with fail
  rw [← hW0, show A + 1 + 1 = A + 2 from rfl, show A + 2 + 1 = A + 3 from rfl]
  clear hW0
  refine wp_scope_straight ?_
  go_wp2_with fail
  -- MARK1
  refine C.out.mono ?_
  rintro e w1 ⟨rfl, hb1⟩
  have k2 := (hb1.block (A + 1) (by omega)).trans g2
  have k3 := (hb1.block (A + 2) (by omega)).trans g3
  have k4 := (hb1.block (A + 3) (by omega)).trans g4
  obtain ⟨c2, f2⟩ := box1F k2
  obtain ⟨c3, f3⟩ := box1F k3
  obtain ⟨c4, f4⟩ := box1F k4
  have hbw1 : Below A w w1 := hb0.trans (hb1.mono (by omega))
  have HBW := Lib.hid hbw1
  clear hb0 hsz0 g1 g2 g3 g4 hb1 c1
  go_wp2_with fail
  rw [Exit.noGoto_ret]
  obtain ⟨q1, q2, q3⟩ := set3 r1 r2 k2 k3 k4
  refine bodyPost_ret (results_box111 rfl _ _ (A + 1) (A + 2) (A + 3) _ _ _ rfl rfl rfl q1 q2 q3) rfl ?_
  have hle : A ≤ A + 1 ∧ A ≤ A + 2 ∧ A ≤ A + 3 := by omega
  refine ⟨_, by rw [HR.out], by rw [HR.out]; exact ws_nil _ _ _, ?_⟩
  rw [hA]
  exact ((HBW.out.setCell hle.1 _).setCell hle.2.1 _).setCell hle.2.2 _
set_option maxRecDepth 100000 in
set_option maxHeartbeats 8000000 in
theorem read_yes (v u : Value) (p : List Sx) (L : List Pid) (w : World) (h : XsAt w v p) (hs : SmX p) (hi : InX p) (T : STabs w) (hu : PsAt w u L) (hsl : SmL L) (hll : L.length ≤ 100000) (he : (hdP p).2 = 0) :
    CallsIn Fence.wide 5 Tryz.prog 20 #[v, u] w (ReadV p L w) := by
  have HD := hdP_ok he
  have HHd := Lib.hid HD
  have HR : Hid (rdP p L = if (rdF p L [] (spP p)).2.2 ≠ 0 then ([], ((rdF p L [] (spP p)).2.1 : Int), (rdF p L [] (spP p)).2.2) else ((rdF p L [] (spP p)).1, 0, 0)) := Lib.hid (by unfold rdP; rw [if_neg (by simpa using he)])
  obtain ⟨va, vc, rfl, _⟩ := h.slice
  obtain ⟨ua, uc, rfl, _⟩ := hu.slice
  obtain ⟨n, hn⟩ : ∃ n, p.length = n := ⟨_, rfl⟩
  obtain ⟨m, hm⟩ : ∃ n, L.length = n := ⟨_, rfl⟩
  have HN := Lib.hid hn
  have HM := Lib.hid hm
  rw [hn] at h ⊢
  rw [hm] at hu hll ⊢
  have hn2 : 2 ≤ n := by rw [← hn]; exact HD.long
  have hhd := hdP_zero he
  obtain ⟨W0, hW0⟩ : ∃ W0, W0 = (((w.alloc (.cells #[.slice va n vc] 22)).alloc (.cells #[.slice none 0 0] 30)).alloc (.cells #[.int .i64 0] 3)).alloc (.cells #[.int .i64 0] 27) := ⟨_, rfl⟩
  have hb0 : Below w.heap.size w W0 := by rw [hW0]; exact (((below_b1 w _).alloc (by simp only [World.size_alloc]; omega) _).alloc (by simp only [World.size_alloc]; omega) _).alloc (by simp only [World.size_alloc]; omega) _
  have C := Lib.hid (checkHead_any _ p W0 (h.below hb0 (Nat.le_refl _)) hs hi (T.below hb0))
  rw [hhd] at C
  have HX := Lib.hid (fun W (hW : Below w.heap.size w W) => h.below hW (Nat.le_refl _))
  have HU := Lib.hid (fun W (hW : Below w.heap.size w W) => hu.below hW (Nat.le_refl _))
  have HSm := Lib.hid hs
  have HGA : Hid (∀ g off, va = some ⟨g, off, none⟩ → g < w.heap.size) := Lib.hid fun g off e => by
    obtain ⟨x, hx⟩ : ∃ x, p[0]? = some x := ⟨_, List.getElem?_eq_getElem (by rw [hn]; omega)⟩
    obtain ⟨g', off', e', hg', _⟩ := h.node hx
    rw [e] at e'; cases e'; exact hg'
  have HSpL : Hid ((spP p).length ≤ 2000) := Lib.hid (by
    rw [← spP_M HD]
    exact Nat.le_trans (spM_len p _ _ _) (by have := HD.short; omega))
  have HKid : Hid (∀ x ∈ p, 0 ≤ x.c) := Lib.hid (chkX_kids (by
    unfold hdP at he
    by_cases hc : (chkX p).2 = 0
    · exact hc
    · rw [if_pos hc] at he; exact absurd he hc))
  have HSl := Lib.hid hsl
  obtain ⟨A, hA⟩ : ∃ A, w.heap.size = A := ⟨_, rfl⟩
  have hsz0 : W0.heap.size = A + 4 := by rw [hW0, ← hA]; simp only [World.size_alloc]
  have g1 : W0.heap[A]? = some (.cells #[.slice va n vc] 22 (0, 0)) := by
    rw [hW0, ← hA]; exact (Below.heap_alloc _ _ _ (by simp only [World.size_alloc]; omega)).trans ((Below.heap_alloc _ _ _ (by simp only [World.size_alloc]; omega)).trans ((Below.heap_alloc _ _ _ (by simp only [World.size_alloc]; omega)).trans (World.alloc_heap_new _ _)))
  have g2 : W0.heap[A + 1]? = some (.cells #[.slice none 0 0] 30 (0, 0)) := by
    have := World.alloc_heap_new (w.alloc (.cells #[.slice va n vc] 22)) (.cells #[.slice none 0 0] 30)
    rw [World.size_alloc] at this
    rw [hW0, ← hA]; exact (Below.heap_alloc _ _ _ (by simp only [World.size_alloc]; omega)).trans ((Below.heap_alloc _ _ _ (by simp only [World.size_alloc]; omega)).trans this)
  have g3 : W0.heap[A + 2]? = some (.cells #[.int .i64 0] 3 (0, 0)) := by
    have := World.alloc_heap_new ((w.alloc (.cells #[.slice va n vc] 22)).alloc (.cells #[.slice none 0 0] 30)) (.cells #[.int .i64 0] 3)
    simp only [World.size_alloc] at this
    rw [hW0, ← hA]; exact (Below.heap_alloc _ _ _ (by simp only [World.size_alloc]; omega)).trans this
  have g4 : W0.heap[A + 3]? = some (.cells #[.int .i64 0] 27 (0, 0)) := by
    have := World.alloc_heap_new (((w.alloc (.cells #[.slice va n vc] 22)).alloc (.cells #[.slice none 0 0] 30)).alloc (.cells #[.int .i64 0] 3)) (.cells #[.int .i64 0] 27)
    simp only [World.size_alloc] at this
    rw [hW0, ← hA]; exact this
  obtain ⟨c1, _⟩ := box1F g1
  unfold two64 at C
  simp only at C
  rw [hA] at hb0 HX HU HGA
  clear h hu hs hi T he hn hm hsl hhd HD
  have hmk : ∀ W, (Instr.makeMap 64 none).run Tryz.prog W = .ok (.map (some W.heap.size)) (W.alloc (.map #[] 0)) := fun W => by
    simp [Instr.makeMap, Result.andThen]
  refine callsIn_of_wp_marks Tryz.func20 rfl trivial ?_ rfl
  simp only [Tryz.ntmps20, List.size_toArray, List.length_cons, List.length_nil, Nat.reduceAdd, Nat.reduceSub, Array.replicate_succ, Array.replicate_zero, List.push_toArray, List.append_toArray, List.nil_append, List.cons_append]
  gi_wp2
  rw [← hW0, show A + 1 + 1 = A + 2 from rfl, show A + 2 + 1 = A + 3 from rfl]
  refine wpIn_wide.2 (wp_scope_straight ((wpIn_wide (n := 5)).1 ?_))
  have HA := Lib.hid hA
  clear hW0 hA
  gi_wp2
  refine ⟨trivial, (callsIn_wide.2 C.out).mono ?_⟩
  rintro e w1 ⟨rfl, hb1⟩
  have k1 := (hb1.block A (by omega)).trans g1
  have k2 := (hb1.block (A + 1) (by omega)).trans g2
  have k3 := (hb1.block (A + 2) (by omega)).trans g3
  have k4 := (hb1.block (A + 3) (by omega)).trans g4
  have hbw1 : Below A w w1 := hb0.trans (hb1.mono (by omega))
  have hs1 : A + 4 ≤ w1.heap.size := by have := hb1.size; omega
  clear hb0 hsz0 g1 g2 g3 g4 hb1 c1
  gi_wp2
  -- MARK2
  obtain ⟨ml, hml⟩ : ∃ ml, w1.heap.size = ml := ⟨_, rfl⟩
  obtain ⟨w2, hw2⟩ : ∃ w2, (w1.alloc (.map #[] 0)).alloc (.cells #[.map (some w1.heap.size)] 64) = w2 := ⟨_, rfl⟩
  have HM0 : Hid (MapB w2 ml []) := Lib.hid (by
    rw [← hw2, ← hml]; exact (mapB_made w1).same (Below.heap_alloc _ _ _ (by rw [World.size_alloc]; exact Nat.lt_succ_self _)))
  have HB9 : Hid (w2.heap[ml + 1]? = some (.cells #[.map (some ml)] 64 (0, 0))) := Lib.hid (by
    have := World.alloc_heap_new (w1.alloc (.map #[] 0)) (.cells #[.map (some w1.heap.size)] 64)
    rw [World.size_alloc, hml] at this
    rw [← hw2, hml]; exact this)
  have hb2 : Below ml w1 w2 := by rw [← hw2, ← hml]; exact (below_b1 _ _).alloc (by rw [World.size_alloc]; exact Nat.le_succ _) _
  have hs2 : ml + 2 ≤ w2.heap.size := by rw [← hw2, ← hml]; simp only [World.size_alloc]; exact Nat.le_refl _
  rw [hw2, hml]
  clear hw2
  rw [hml] at hs1
  clear hml
  gi_loopw [28] (fun x28 wr => ∃ (k : Nat) (D : List Pid), x28 = .int .i64 (k : Int) ∧ k ≤ m ∧ Hid (MapB wr ml D) ∧ Hid (SmL D) ∧ Hid (∀ q, q ∈ D ↔ q ∈ L.take k) ∧ Below ml w1 wr ∧ Hid (wr.heap[ml + 1]? = some (.cells #[.map (some ml)] 64 (0, 0))) ∧ ml + 2 ≤ wr.heap.size) (fun x28 _ => m - (intOf x28).toNat)
  case atStart => exact ⟨0, [], rfl, Nat.zero_le _, HM0, Lib.hid (fun q hq => by cases hq), Lib.hid (fun q => by simp), hb2, HB9, hs2⟩
  case round =>
    obtain ⟨k, D, rfl, hk, HMr, HSD, HMem, hbr, HB9r, hsr⟩ := hrel
    have hk0 : (0 : Int) ≤ (k : Int) := Int.natCast_nonneg _
    by_cases hlt : k < m
    · obtain ⟨q, hq⟩ : ∃ q, L[k]? = some q := ⟨_, List.getElem?_eq_getElem (by rw [HM.out]; exact hlt)⟩
      have hAr : Below A w wr := hbw1.trans (hbr.mono (by omega))
      obtain ⟨gu, ou, rfl, _, c0, c1⟩ := (HU.out wr hAr).node hq
      have hqs := HSl.out q (List.mem_of_getElem? hq)
      have HTk : Hid (∀ z, z ∈ L.take (k + 1) ↔ z ∈ L.take k ∨ z = q) := Lib.hid fun z => by rw [List.take_add_one, hq]; simp
      have hk1 : (k : Int) < (m : Int) := by omega
      obtain ⟨q1, q2⟩ := q
      obtain ⟨w', D', hrun, hm', hsD', hmem', hg'⟩ := put_any (w := wr.alloc (.cells #[.string (str q1), .string (str q2)] 40)) (HMr.out.same (Below.heap_alloc _ _ _ HMr.out.lt)) HSD.out (q1, q2) hqs.1 hqs.2
      unfold keyV at hrun
      simp only at hrun c0 c1
      have hmlr := HMr.out.lt
      have HMn := Lib.hid hm'
      have HSDn := Lib.hid hsD'
      have HMemn : Hid (∀ z, z ∈ D' ↔ z ∈ L.take (k + 1)) := Lib.hid fun z => by rw [hmem', HTk.out, HMem.out]
      have hbn : Below ml w1 w' := (hbr.alloc (by omega) _).grown hg' (by rw [World.size_alloc]; omega) (fun z e => by cases e; exact Nat.le_refl _)
      have HB9n : Hid (w'.heap[ml + 1]? = some (.cells #[.map (some ml)] 64 (0, 0))) := Lib.hid ((hg'.block (ml + 1) (by rw [World.size_alloc]; omega) (fun e => by have := Option.some.inj e; omega)).trans ((Below.heap_alloc _ _ _ (by omega)).trans HB9r.out))
      have hsn : ml + 2 ≤ w'.heap.size := by have := hg'.size; rw [World.size_alloc] at this; omega
      obtain ⟨S1, hS1⟩ : ∃ S, str q1 = S := ⟨_, rfl⟩
      obtain ⟨S2, hS2⟩ : ∃ S, str q2 = S := ⟨_, rfl⟩
      rw [hS1] at hrun c0
      rw [hS2] at hrun c1
      have c9 : ∀ o, (wr.alloc o).cell? ⟨ml + 1, 0, none⟩ = some (.map (some ml)) := fun o => (World.cell?_alloc_lt _ _ _ (show ml + 1 < wr.heap.size by omega)).trans (box1F HB9r.out).1
      clear hq hqs hS1 hS2 hm' hsD' hmem' hg'
      gi_wp2
      -- MARK3
      exact ⟨⟨k + 1, D', by go_num, by omega, HMn, HSDn, HMemn, hbn, HB9n, hsn⟩, by simp [intOf]; omega⟩
    · obtain rfl : k = m := by omega
      have hd28 : decide ((k : Int) < (k : Int)) = false := decide_eq_false (by omega)
      have hnl28 : ¬ k < k := Nat.lt_irrefl _
      have HMemL : Hid (∀ q, q ∈ D ↔ q ∈ L) := Lib.hid fun q => by rw [HMem.out, List.take_of_length_le (by rw [HM.out]; exact Nat.le_refl _)]
      gi_wp2
      -- MARK4
      obtain ⟨mm, hmm⟩ : ∃ mm, wr.heap.size = mm := ⟨_, rfl⟩
      obtain ⟨w3, hw3⟩ : ∃ w3, (wr.alloc (.map #[] 0)).alloc (.cells #[.map (some wr.heap.size)] 64) = w3 := ⟨_, rfl⟩
      have HM3 : Hid (MapB w3 mm []) := Lib.hid (by
        rw [← hw3, ← hmm]; exact (mapB_made wr).same (Below.heap_alloc _ _ _ (by rw [World.size_alloc]; exact Nat.lt_succ_self _)))
      have HB12 : Hid (w3.heap[mm + 1]? = some (.cells #[.map (some mm)] 64 (0, 0))) := Lib.hid (by
        have := World.alloc_heap_new (wr.alloc (.map #[] 0)) (.cells #[.map (some wr.heap.size)] 64)
        rw [World.size_alloc, hmm] at this
        rw [← hw3, hmm]; exact this)
      have hb3 : Below mm wr w3 := by rw [← hw3, ← hmm]; exact (below_b1 _ _).alloc (by rw [World.size_alloc]; exact Nat.le_succ _) _
      have hs3 : w3.heap.size = mm + 2 := by rw [← hw3, ← hmm]; simp only [World.size_alloc]
      rw [hw3, hmm]
      clear hw3
      have hmlm : ml + 2 ≤ mm := by omega
      have HML : Hid (MapB w3 ml D) := Lib.hid (HMr.out.same (hb3.block ml (by omega)))
      have HB9L : Hid (w3.heap[ml + 1]? = some (.cells #[.map (some ml)] 64 (0, 0))) := Lib.hid ((hb3.block (ml + 1) (by omega)).trans HB9r.out)
      have hb13 : Below ml w1 w3 := hbr.trans (hb3.mono (by omega))
      have hbA3 : Below A w w3 := hbw1.trans (hb13.mono (by omega))
      have k1' := (hb13.block A (by omega)).trans k1
      have k2' := (hb13.block (A + 1) (by omega)).trans k2
      have k3' := (hb13.block (A + 2) (by omega)).trans k3
      have k4' := (hb13.block (A + 3) (by omega)).trans k4
      obtain ⟨c1, _⟩ := box1F k1'
      clear hmm hb3 hbr hb13 HMr HB9r hsr HMem
      apply wpIn_label
      gi_wp2
      refine ⟨trivial, (callsIn_wide.2 (spots_mk _ _ _ _)).mono ?_⟩
      rintro e w4' ⟨rfl, rfl⟩
      gi_wp2
      -- MARK5
      obtain ⟨i0, hi0', hi1', hi2', hi3'⟩ := info_parts2 infoPv
      obtain ⟨x0, hx0⟩ : ∃ x, p[0]? = some x := ⟨_, List.getElem?_eq_getElem (by rw [HN.out]; omega)⟩
      obtain ⟨g, off, rfl, hgA, _⟩ := (HX.out w (Below.refl _ _)).node hx0
      obtain ⟨w4, hw4⟩ : ∃ w4, w3.alloc (.cells #[.slice (some ⟨g, off, none⟩) n vc] 22) = w4 := ⟨_, rfl⟩
      have hs4 : w4.heap.size = mm + 3 := by rw [← hw4, World.size_alloc, hs3]
      have hb34 : Below (mm + 2) w3 w4 := by rw [← hw4, ← hs3]; exact below_b1 _ _
      have hBp : w4.heap[mm + 2]? = some (.cells #[.slice (some ⟨g, off, none⟩) n vc] 22 (0, 0)) := by
        rw [← hw4, ← hs3]; exact World.alloc_heap_new _ _
      have hbA4 : Below A w w4 := hbA3.trans (hb34.mono (by omega))
      have hgA' : g < A := by
        have := (HX.out w (Below.refl _ _))
        exact HGA.out g off rfl
      rw [hw4]
      clear hw4 hx0
      have hAmm : A + 4 ≤ mm := by omega
      have hmD : mm + 2 ≤ mm + 3 := by omega
      have HS4 : Hid (RdS A mm (mm + 3) p L w4 [] [] (.slice none 0 0) w4) := Lib.hid ⟨(hb34.block _ (by omega)).trans k2', (hb34.block _ (by omega)).trans k3', (hb34.block _ (by omega)).trans k4', ⟨rfl, .inl ⟨rfl, rfl⟩⟩, HM3.out.same (hb34.block _ (by omega)), (fun z hz => by cases hz), (fun rest e => by rw [e]; rfl), Nat.le_refl _, Nat.le_of_eq hs4.symm, fun _ _ _ _ _ _ => rfl, Below.refl _ _⟩
      have HOld : Hid (w4.heap[A]? = some (.cells #[.slice (some ⟨g, off, none⟩) n vc] 22 (0, 0)) ∧ MapB w4 ml D ∧ w4.heap[ml + 1]? = some (.cells #[.map (some ml)] 64 (0, 0)) ∧ w4.heap[mm + 1]? = some (.cells #[.map (some mm)] 64 (0, 0))) := Lib.hid ⟨(hb34.block _ (by omega)).trans k1', HML.out.same (hb34.block _ (by omega)), (hb34.block _ (by omega)).trans HB9L.out, (hb34.block _ (by omega)).trans HB12.out⟩
      have hseq := spots_seq (mm + 2) g off n vc p (fun b => b = mm + 2 ∨ b = g) 4 (by omega) w4 ⟨.inl rfl, .inr rfl⟩ (fun b hb => by omega) hBp (HX.out w4 hbA4) HHd.out (fun x hx => HKid.out x hx)
      clear k1' k2' k3' k4' HM3 HML HB9L HB12 hb34 hBp k1 k2 k3 k4 hb2 HM0 HB9
      refine wpIn_rangeC (by omega) rfl (enters_of Tryz.func32 (by kernel_rfl) rfl) hseq (Below.refl _ _) (fun b hb => by omega) (fun _ => rfl)
        (RdI A mm (mm + 3) p L w4) (RdX A mm (mm + 3) p L w4) (by rw [hs4]; exact RdI_bears hAmm hmD) (fun c => by rw [hs4]; exact RdX_bears hAmm hmD c) (by rw [hs4]; exact RdI_C hAmm hmD) (by rw [hs4]; exact RdX_C hAmm hmD)
        (RdC A mm (.slice none 0 0)) ⟨[], _, rfl, HS4.out⟩
        (fun pre x C a W => ∃ vs v bx, C = RdC A mm v ∧ RdS A mm (mm + 3) p L w4 pre vs v W ∧ W.heap[bx]? = some (.cells #[.int .i64 (x.2.1 : Int), .bool x.2.2] 59 (0, 0)) ∧ mm + 5 ≤ bx ∧ a = { tmps := #[.slice (some ⟨g, off, none⟩) n vc, .slice ua k uc, .pointer (some ⟨A, 0, none⟩), undef, .pointer (some ⟨A + 1, 0, none⟩), .pointer (some ⟨A + 2, 0, none⟩), .pointer (some ⟨A + 3, 0, none⟩), .int .i64 0, .int .i64 0, .pointer (some ⟨ml + 1, 0, none⟩), undef, u11, .pointer (some ⟨mm + 1, 0, none⟩), .int .i64 (x.1 : Int), .pointer (some ⟨bx, 0, none⟩), undef, .tuple #[.int .i64 0, .int .i64 0], .slice (some ⟨g, off, none⟩) n vc, .tuple #[.int .i64 0, .int .i64 0], .int .i64 0, .int .i64 0, .int .i64 0, .bool false, undef, undef, .map (some ml), .slice ua k uc, .int .i64 (k : Int), .int .i64 (k : Int), .bool false, u30, u31, u32, u33, u34, .map (some mm), .slice (some ⟨g, off, none⟩) n vc, .func (.func 32) #[] #[.pointer (some ⟨mm + 2, 0, none⟩)], .int .i64 (x.1 : Int), .agg #[.int .i64 (x.2.1 : Int), .bool x.2.2], undef, undef, undef, undef, undef, undef, undef, undef, undef, undef, undef, undef, undef, undef, undef, undef, undef, undef, undef, undef, undef, undef, undef, undef, undef, undef, undef, undef, undef, undef, undef, undef, undef, undef, undef, undef, undef, undef, undef, undef, undef, undef, undef, undef, undef, undef, undef, undef, undef, undef, undef, undef, undef, undef, undef, undef, undef, undef, undef, undef, undef, undef, undef, undef, undef, undef], defers := [] }) ?_ ?_ ?_ ?_ ?_
      · rintro pre x C a W W' ⟨vs, v, bx, rfl, h1, h2, h3, rfl⟩ hg
        rw [hs4] at hg
        refine ⟨vs, v, bx, rfl, h1.grown hAmm hmD hg (fun r e => ?_), (hg.block bx (Array.getElem?_eq_some_iff.1 h2).1 (fun e => by have := Option.some.inj e; omega)).trans h2, h3, rfl⟩
        cases e
        refine ⟨by omega, fun e => ?_⟩
        rcases e with e | e | e | e | e
        · omega
        · omega
        · omega
        · omega
        · have := (h1.own.lt _ e).1; omega
      · rintro l pre x C W K ⟨vs, v, rfl, h1⟩ hW hK
        rw [hs4] at hW hK
        dsimp only [encS]
        gi_wp2
        -- MARK6
        refine hK _ _ (RdC A mm v) (KeepsC.below (below_b1 W _) (fun b hb => by omega)) ⟨vs, v, W.heap.size, rfl, h1.grown hAmm hmD (World.grownBy_alloc W _ none) (fun r e => by cases e), World.alloc_heap_new _ _, by omega, rfl⟩
      · rw [hs4]
        -- MARK7
        rintro l pre ⟨i, d, sg⟩ C a W ⟨vs, v, bx, rfl, hS, hbx, hbxl, rfl⟩ hW hG
        dsimp only at hbx hbxl ⊢
        have hin : i < n := by
          have h1 : SpIn p (spP p) := spE_in HHd.out.toPatOk _ _ _ _ _ _ HHd.out.inl rfl
          obtain ⟨rest, hrest⟩ := hG
          have := h1 (i, d, sg) (by rw [← hrest]; simp)
          rw [← HN.out]; exact this
        obtain ⟨x, hx⟩ : ∃ x, p[i]? = some x := ⟨_, List.getElem?_eq_getElem (by rw [HN.out]; exact hin)⟩
        have hxm := List.mem_of_getElem? hx
        have hxs := HSm.out x hxm
        have HRd : Hid (∀ rest, rdF p L vs ((i, d, sg) :: rest) = if dotsX x = true ∧ sg = true then (vs, i, 6) else if x.k ≠ 3 ∨ dotsX x = true ∨ blkX x = true ∨ idX x ∈ L then rdF p L vs rest else if 3 < d then (vs, i, 3) else if idX x ∈ vs.map (·.1) then (vs, i, 8) else rdF p L (vs ++ [(idX x, d)]) rest) := Lib.hid fun rest => by rw [rdF]; simp only [hx]
        have CId : Hid (∀ W', Calls Tryz.prog 26 #[.agg #[.int .i64 x.k, .int .i64 x.c, .int .i64 x.n, .string (str x.s), .string (str x.p), .int .i64 x.f, .int .i64 x.t, .int .i64 x.o]] W' fun e w' => e = .returned (.agg #[.string (str x.s), .string (str x.p)]) ∧ Below W'.heap.size W' w') := Lib.hid fun W' => ident_any x W'
        have CEl : Hid (∀ W', Calls Tryz.prog 23 #[.agg #[.int .i64 x.k, .int .i64 x.c, .int .i64 x.n, .string (str x.s), .string (str x.p), .int .i64 x.f, .int .i64 x.t, .int .i64 x.o]] W' fun e w' => e = .returned (.bool (dotsX x)) ∧ Below W'.heap.size W' w') := Lib.hid fun W' => isEll_any x W'
        have CBl : Hid (∀ W', Calls Tryz.prog 27 #[.agg #[.int .i64 x.k, .int .i64 x.c, .int .i64 x.n, .string (str x.s), .string (str x.p), .int .i64 x.f, .int .i64 x.t, .int .i64 x.o]] W' fun e w' => e = .returned (.bool (blkX x)) ∧ Below W'.heap.size W' w') := Lib.hid fun W' => isBlk_any x W'
        have HPv : Hid (pvC (idX x, d) = [.string (str x.s), .string (str x.p), .int .i64 (d : Int)]) := Lib.hid rfl
        have HKey : Hid (keyV (idX x) = .agg #[.string (str x.s), .string (str x.p)]) := Lib.hid rfl
        have HFc : Hid (∀ W', Below W.heap.size W W' → W'.cell? ⟨A, 0, none⟩ = some (.slice (some ⟨g, off, none⟩) n vc) ∧ W'.cell? ⟨g, off + i * 8, none⟩ = some (.int .i64 x.k) ∧ W'.cell? ⟨g, off + i * 8 + 1, none⟩ = some (.int .i64 x.c) ∧ W'.cell? ⟨g, off + i * 8 + 2, none⟩ = some (.int .i64 x.n) ∧ W'.cell? ⟨g, off + i * 8 + 3, none⟩ = some (.string (str x.s)) ∧
            W'.cell? ⟨g, off + i * 8 + 4, none⟩ = some (.string (str x.p)) ∧ W'.cell? ⟨g, off + i * 8 + 5, none⟩ = some (.int .i64 x.f) ∧ W'.cell? ⟨g, off + i * 8 + 6, none⟩ = some (.int .i64 x.t) ∧ W'.cell? ⟨g, off + i * 8 + 7, none⟩ = some (.int .i64 x.o) ∧ W'.cell? ⟨bx, 0, none⟩ = some (.int .i64 (d : Int)) ∧ W'.cell? ⟨bx, 1, none⟩ = some (.bool sg) ∧
            W'.cell? ⟨ml + 1, 0, none⟩ = some (.map (some ml)) ∧ W'.cell? ⟨mm + 1, 0, none⟩ = some (.map (some mm)) ∧
            (Instr.lookup 64 (.map (some ml)) (.agg #[.string (str x.s), .string (str x.p)]) false).run Tryz.prog W' = .ok (.bool (decide (idX x ∈ L))) W' ∧
            (Instr.lookup 64 (.map (some mm)) (.agg #[.string (str x.s), .string (str x.p)]) false).run Tryz.prog W' = .ok (.bool (decide (idX x ∈ vs.map (·.1)))) W' ∧
            W'.cell? ⟨A + 2, 0, none⟩ = some (.int .i64 0) ∧ W'.cell? ⟨A + 3, 0, none⟩ = some (.int .i64 0) ∧ W'.frozen? ⟨A + 2, 0, none⟩ = false ∧ W'.frozen? ⟨A + 3, 0, none⟩ = false) := Lib.hid fun W' hb => by
          have hlo := hS.lo
          obtain ⟨o1, o2, o3, o4⟩ := HOld.out
          have hAW : A ≤ W.heap.size := by omega
          obtain ⟨g', o', e', _, q0, q1, q2, q3, q4, q5, q6, q7⟩ := (HX.out W' ((hbA4.trans hS.bel).trans (hb.mono hAW))).node hx
          cases e'
          have r1 := (hb.block A (by omega)).trans ((hS.old A (by omega) (by omega) (by omega) (by omega) (by omega)).trans o1)
          have r2 := o2.same ((hb.block ml (by omega)).trans (hS.old ml (by omega) (by omega) (by omega) (by omega) (by omega)))
          have r3 := (hb.block (ml + 1) (by omega)).trans ((hS.old (ml + 1) (by omega) (by omega) (by omega) (by omega) (by omega)).trans o3)
          have r4 := (hb.block (mm + 1) (by omega)).trans ((hS.old (mm + 1) (by omega) (by omega) (by omega) (by omega) (by omega)).trans o4)
          have r5 := hS.map.same (hb.block mm (by omega))
          have r6 := (hb.block bx (Array.getElem?_eq_some_iff.1 hbx).1).trans hbx
          have r7 := (hb.block (A + 2) (by omega)).trans hS.b2
          have r8 := (hb.block (A + 3) (by omega)).trans hS.b3
          obtain ⟨v0, v1, _⟩ := box2F r6
          have lk1 := look_map r2 HSD.out (idX x) hxs.1 hxs.2
          have lk2 := look_map r5 hS.sm (idX x) hxs.1 hxs.2
          rw [HKey.out] at lk1 lk2
          have e1 : decide (idX x ∈ D) = decide (idX x ∈ L) := by rw [Bool.eq_iff_iff, decide_eq_true_iff, decide_eq_true_iff]; exact HMemL.out _
          rw [e1] at lk1
          exact ⟨(box1F r1).1, q0, q1, q2, q3, q4, q5, q6, q7, v0, v1, (box1F r3).1, (box1F r4).1, lk1, lk2, (box1F r7).1, (box1F r8).1, (box1F r7).2, (box1F r8).2⟩
        have hi0 : (0 : Int) ≤ (i : Int) := Int.natCast_nonneg _
        have hi1 : (i : Int) < (n : Int) := by omega
        have HSt := Lib.hid hS
        have HG := Lib.hid hG
        have HXs := Lib.hid hxs
        have hDW : mm + 5 ≤ W.heap.size := by omega
        have hDW' : mm + 3 + 2 ≤ W.heap.size := by omega
        have HBx : Hid (bx < W.heap.size) := Lib.hid (Array.getElem?_eq_some_iff.1 hbx).1
        have HP2 : Hid (∀ b, (b = mm + 2 ∨ b = g) → b < mm + 3 ∧ b ≠ A + 1 ∧ b ≠ A + 2 ∧ b ≠ A + 3 ∧ b ≠ mm) := Lib.hid fun b hb => by omega
        have HLn : Hid (vs.length ≤ 2000) := Lib.hid (by
          have h1 := hS.len
          have h2 := hG.length_le
          have h3 := HSpL.out
          rw [List.length_append] at h2; omega)
        obtain ⟨dx, hdx⟩ : ∃ b, dotsX x = b := ⟨_, rfl⟩
        obtain ⟨bk, hbk⟩ : ∃ b, blkX x = b := ⟨_, rfl⟩
        obtain ⟨bl, hbl⟩ : ∃ b, decide (idX x ∈ L) = b := ⟨_, rfl⟩
        obtain ⟨bm, hbm⟩ : ∃ b, decide (idX x ∈ vs.map (·.1)) = b := ⟨_, rfl⟩
        have HLit : Hid (idX x ∈ L ↔ bl = true) := Lib.hid (by rw [← hbl, decide_eq_true_iff])
        have HMet : Hid (idX x ∈ vs.map (·.1) ↔ bm = true) := Lib.hid (by rw [← hbm, decide_eq_true_iff])
        have HDk : Hid (dx = true → x.k = 3) := Lib.hid (by rw [← hdx]; exact dots_k)
        rw [hdx] at CEl HRd
        rw [hbk] at CBl HRd
        rw [hbl, hbm] at HFc
        obtain ⟨S1, hS1⟩ : ∃ S, str x.s = S := ⟨_, rfl⟩
        obtain ⟨S2, hS2⟩ : ∃ S, str x.p = S := ⟨_, rfl⟩
        rw [hS1, hS2] at CId CEl CBl HFc HKey HPv
        clear hS hbx hG hx hxm hxs hdx hbk hbl hbm hS1 hS2
        obtain ⟨y0, y1, y2, y3, y4, y5, y6, y7, y8, z0, z1, m9, m12, l9, l12, a2, a3, f2, f3⟩ := HFc.out W (Below.refl _ _)
        gi_wp2
        refine ⟨trivial, (CallsIn.inRound l (callsIn_wide.2 (CId.out _))).mono ?_⟩
        rintro e W1 ⟨rfl, hb1⟩
        have hB1 : Below W.heap.size W (W1.alloc (.cells #[.string S1, .string S2] 40)) := hb1.alloc hb1.size _
        have h15 := World.alloc_heap_new W1 (.cells #[.string S1, .string S2] 40)
        clear y0 y1 y2 y3 y4 y5 y6 y7 y8 z0 z1 m9 m12 l9 l12 a2 a3 f2 f3
        obtain ⟨y0, y1, y2, y3, y4, y5, y6, y7, y8, z0, z1, m9, m12, l9, l12, a2, a3, f2, f3⟩ := HFc.out _ hB1
        gi_wp2
        refine ⟨trivial, (CallsIn.inRound l (callsIn_wide.2 (CEl.out _))).mono ?_⟩
        rintro e W2 ⟨rfl, hb2⟩
        have hB2 : Below W.heap.size W W2 := hB1.trans (hb2.mono hB1.size)
        obtain ⟨p15, hp15⟩ : ∃ b, W1.heap.size = b := ⟨_, rfl⟩
        have hW12 : p15 + 1 ≤ W2.heap.size := by have := hb2.size; rw [World.size_alloc, hp15] at this; exact this
        have hp15W : W.heap.size ≤ p15 := by rw [← hp15]; exact hb1.size
        rw [hp15] at h15 ⊢
        have h15' : W2.heap[p15]? = some (.cells #[.string S1, .string S2] 40 (0, 0)) := (hb2.block p15 (by rw [World.size_alloc]; omega)).trans h15
        have H15 : Hid (∀ W', Below W2.heap.size W2 W' → W'.cell? ⟨p15, 0, none⟩ = some (.string S1) ∧ W'.cell? ⟨p15, 1, none⟩ = some (.string S2)) := Lib.hid fun W' h => by
          obtain ⟨u0, u1, _⟩ := box2F ((h.block p15 (by omega)).trans h15')
          exact ⟨u0, u1⟩
        have HB2 := Lib.hid hB2
        have HP0 : Hid (∀ b, (b = mm + 2 ∨ b = g) → b < W.heap.size) := Lib.hid fun b hb => by omega
        have HP1 : Hid (∀ b, (b = mm + 2 ∨ b = g) → b < W.heap.size ∧ b ≠ A + 2 ∧ b ≠ A + 3) := Lib.hid fun b hb => by omega
        clear y0 y1 y2 y3 y4 y5 y6 y7 y8 z0 z1 m9 m12 l9 l12 a2 a3 f2 f3 hb1 hb2 h15 hp15 h15'
        -- MARK7a
        obtain ⟨y0, y1, y2, y3, y4, y5, y6, y7, y8, z0, z1, m9, m12, l9, l12, a2, a3, f2, f3⟩ := HFc.out W2 hB2
        obtain ⟨u0, u1⟩ := H15.out W2 (Below.refl _ _)
        by_cases hk3 : x.k = 3
        · have hkb : (x.k != 3) = false := by rw [hk3]; rfl
          have HK3 := Lib.hid hk3
          clear hk3
          cases dx
          · gi_wp2
            refine ⟨trivial, (CallsIn.inRound l (callsIn_wide.2 (CEl.out _))).mono ?_⟩
            rintro e W3 ⟨rfl, hb3⟩
            have hB3 : Below W.heap.size W W3 := HB2.out.trans (hb3.mono HB2.out.size)
            clear y0 y1 y2 y3 y4 y5 y6 y7 y8 z0 z1 m9 m12 l9 l12 a2 a3 f2 f3 u0 u1
            obtain ⟨y0, y1, y2, y3, y4, y5, y6, y7, y8, z0, z1, m9, m12, l9, l12, a2, a3, f2, f3⟩ := HFc.out W3 hB3
            -- MARK7b
            gi_wp2
            refine ⟨trivial, (CallsIn.inRound l (callsIn_wide.2 (CBl.out _))).mono ?_⟩
            rintro e W4 ⟨rfl, hb4⟩
            have hB4 : Below W.heap.size W W4 := hB3.trans (hb4.mono hB3.size)
            have hB24 : Below W2.heap.size W2 W4 := hb3.trans (hb4.mono hb3.size)
            clear y0 y1 y2 y3 y4 y5 y6 y7 y8 z0 z1 m9 m12 l9 l12 a2 a3 f2 f3
            obtain ⟨y0, y1, y2, y3, y4, y5, y6, y7, y8, z0, z1, m9, m12, l9, l12, a2, a3, f2, f3⟩ := HFc.out W4 hB4
            obtain ⟨u0, u1⟩ := H15.out W4 hB24
            have HB4 := Lib.hid hB4
            have HW24 := Lib.hid hB24.size
            clear hB3 hb3 hb4 hB4 hB24
            cases bk
            · cases bl
              · have hl : ¬ idX x ∈ L := fun e => by have := HLit.out.1 e; cases this
                have HRd2 : Hid (∀ rest, rdF p L vs ((i, d, sg) :: rest) = if 3 < d then (vs, i, 3) else if idX x ∈ vs.map (·.1) then (vs, i, 8) else rdF p L (vs ++ [(idX x, d)]) rest) := Lib.hid fun rest => by rw [HRd.out, if_neg (by simp), if_neg (by simp [HK3.out, hl])]
                by_cases hd3 : 3 < d
                · have hd3' : decide ((3 : Int) < (d : Int)) = true := decide_eq_true (by omega)
                  gi_wp2
                  -- MARK7c
                  exact HSt.out.stop (i := i) (e := 3) hAmm hmD HB4.out _ HP1.out HG.out (by decide) (fun rest => by rw [HRd2.out, if_pos hd3])
                · have hd3' : decide ((3 : Int) < (d : Int)) = false := decide_eq_false (by omega)
                  cases bm
                  · have hm0 : ¬ idX x ∈ vs.map (·.1) := fun e => by have := HMet.out.1 e; cases this
                    gi_upto_region 22 with fail
                    -- MARK7d
                    clear y0 y1 y2 y3 y4 y5 y6 y7 y8 m9 l9 l12 a2 a3 f2 f3
                    obtain ⟨W5, hrun5, hm5, hg5⟩ := put_map (HSt.out.map.same (HB4.out.block mm (by omega))) HSt.out.sm (idX x) HXs.out.1 HXs.out.2 hm0
                    rw [HKey.out] at hrun5
                    have hs5 := hg5.size
                    have hs4' := HB4.out.size
                    have HBk5 : Hid (∀ b, b < W4.heap.size → b ≠ mm → W5.heap[b]? = W4.heap[b]?) := Lib.hid fun b h1 h2 => hg5.block b h1 (fun e => h2 (Option.some.inj e))
                    have k1v : W5.heap[A + 1]? = some (.cells #[v] 30 (0, 0)) := (HBk5.out _ (by omega) (by omega)).trans ((HB4.out.block _ (by omega)).trans HSt.out.b1)
                    obtain ⟨d1, _⟩ := box1F k1v
                    have hbx4 : bx < W.heap.size := HBx.out
                    have d2 : W5.cell? ⟨bx, 0, none⟩ = some (.int .i64 (d : Int)) := (World.cell?_of_block (a := ⟨bx, 0, none⟩) (HBk5.out bx (by omega) (by omega))).trans z0
                    have hp15 : p15 < W4.heap.size := by have := HW24.out; omega
                    have hp15m : p15 ≠ mm := by have := hp15W; omega
                    have d3 : W5.cell? ⟨p15, 0, none⟩ = some (.string S1) := (World.cell?_of_block (a := ⟨p15, 0, none⟩) (HBk5.out p15 hp15 hp15m)).trans u0
                    have d4 : W5.cell? ⟨p15, 1, none⟩ = some (.string S2) := (World.cell?_of_block (a := ⟨p15, 1, none⟩) (HBk5.out p15 hp15 hp15m)).trans u1
                    have hvb : ∀ r, v.ownBlock = some r → mm + 5 ≤ r ∧ r < W.heap.size := fun r e => HSt.out.own.lt r e
                    have hown5 : W5.ownsRow (mm + 3 + 2) 45 3 v vs.length (vcs vs) := (own_below HSt.out.own HB4.out).kept hg5 (by
                      cases hv : v.ownBlock with
                      | none => exact .inl rfl
                      | some r => exact .inr fun e => by have h1 := (hvb r hv).1; have h2 := Option.some.inj e; omega)
                    have hnl : vs.length ≤ 2000 := HLn.out
                    have hone5 : ∀ z ∈ [Value.string S1, .string S2, .int .i64 (d : Int)], z.oneCell' = true := by intro z hz; simp at hz; rcases hz with rfl | rfl | rfl <;> rfl
                    have hbs5 : ∀ o, mm + 3 + 2 ≤ (W5.alloc o).heap.size := fun o => by rw [World.size_alloc]; omega
                    have hlt1 : ∀ o, A + 1 < (W5.alloc o).heap.size := fun o => by rw [World.size_alloc]; omega
                    have HV1 : Hid (∀ o w6, (W5.alloc o).grownBy w6 v.ownBlock → w6.heap[A + 1]? = some (.cells #[v] 30 (0, 0))) := Lib.hid fun o w6 h => (h.block (A + 1) (hlt1 o) (fun e => by have := (hvb _ e.symm).1; omega)).trans ((Below.heap_alloc _ _ _ (by omega)).trans k1v)
                    have HQ := Lib.hid HXs.out
                    clear k1v hvb hlt1
                    gi_wp2_with (gi_at_builtin; refine wpListIn_append_own_at _ rfl _ _ 30 rfl (mm + 3 + 2) 45 i0 (.agg #[.string ByteArray.empty, .string ByteArray.empty, .int .i64 0]) 3 40 Tryz.underlying30 hi0' hi1' hi2' hi3' rfl (by decide) v vs.length (vcs vs) rfl (hown5.alloc _) ⟨W5.heap.size, 0, none⟩ 1 1 [.string S1, .string S2, .int .i64 (d : Int)] rfl rfl (new_cells W5 [.string S1, .string S2, .int .i64 (d : Int)] _) hone5 (by unfold maxLen; omega) (by omega) (hbs5 _) ?_; intro v6 w6 hown6 hgrow6 _ hat6; obtain ⟨e1, e2⟩ := box1F (HV1.out _ w6 hgrow6); obtain ⟨a6, c6, rfl⟩ := own_len hown6)
                    -- MARK7k
                    rw [← HPv.out] at hown6
                    exact HSt.out.more (q := idX x) (d := d) hAmm hmD hDW' HB4.out _ HP2.out hg5 hm5 HQ.out hgrow6 hown6 hat6 (fun rest => by rw [HRd2.out, if_neg hd3, if_neg hm0])
                  · have hm0 : idX x ∈ vs.map (·.1) := HMet.out.2 rfl
                    gi_wp2
                    exact HSt.out.stop (i := i) (e := 8) hAmm hmD HB4.out _ HP1.out HG.out (by decide) (fun rest => by rw [HRd2.out, if_neg hd3, if_pos hm0])
              · have hl : idX x ∈ L := HLit.out.2 rfl
                gi_wp2
                -- MARK7e
                exact HSt.out.skip hAmm hmD HB4.out _ HP0.out (fun rest _ => by rw [HRd.out, if_neg (by simp), if_pos (by simp [hl])])
            · gi_wp2
              exact HSt.out.skip hAmm hmD HB4.out _ HP0.out (fun rest _ => by rw [HRd.out, if_neg (by simp), if_pos (by simp)])
          · cases sg
            · gi_wp2
              -- MARK7g
              refine ⟨trivial, (CallsIn.inRound l (callsIn_wide.2 (CEl.out _))).mono ?_⟩
              rintro e W3 ⟨rfl, hb3⟩
              have hB3 := Lib.hid (HB2.out.trans (hb3.mono HB2.out.size))
              gi_wp2
              refine ⟨trivial, ?_⟩
              gi_wp2
              -- MARK7h
              exact HSt.out.skip hAmm hmD hB3.out _ HP0.out (fun rest _ => by rw [HRd.out, if_neg (by simp), if_pos (by simp)])
            · gi_wp2
              -- MARK7i
              exact HSt.out.stop (i := i) (e := 6) hAmm hmD HB2.out _ HP1.out HG.out (by decide) (fun rest => by rw [HRd.out, if_pos (by simp)])
        · have hkb : (x.k != 3) = true := bne_iff_ne.2 hk3
          have hdf : dx = false := by
            cases hq : dx
            · rfl
            · exfalso; exact hk3 (HDk.out hq)
          subst hdf
          gi_wp2
          refine ⟨trivial, ?_⟩
          gi_wp2
          refine ⟨trivial, ?_⟩
          gi_wp2
          -- MARK7j
          exact HSt.out.skip hAmm hmD HB2.out _ HP0.out (fun rest _ => by rw [HRd.out, if_neg (by simp), if_pos (.inl hk3)])
      · rintro xs C W rfl ⟨vs, v, rfl, hS⟩ hD'
        rw [hs4] at hD' ⊢
        -- MARK8
        have hlo := hS.lo
        have HRr : Hid (rdP p L = (vs, 0, 0)) := Lib.hid (by
          have h1 := hS.rd [] (by rw [List.append_nil])
          rw [HR.out, h1]; rfl)
        obtain ⟨d1, f1⟩ := box1F hS.b1
        obtain ⟨d2, f2⟩ := box1F hS.b2
        obtain ⟨d3, f3⟩ := box1F hS.b3
        have HS := Lib.hid hS
        obtain ⟨a6, c6, rfl⟩ := own_len hS.own
        clear hS
        gi_wp2
        -- MARK8a
        rw [Exit.noGoto_ret]
        refine ⟨by simp, .inl ⟨_, _, rfl, run_takeDeferred (set1o _ (by omega) (set1o _ (by omega) (set1o _ (by omega) hD'))), ?_⟩⟩
        have hS := HS.out
        have q1 := box1F ((World.putObj_heap_other (o := .deferred none) (by omega : A + 1 ≠ mm + 3)).trans (set1o (n := A + 3) (.int .i64 0) (by omega) (set1o (n := A + 2) (.int .i64 0) (by omega) (set1 (.slice a6 vs.length c6) hS.b1))))
        have q2 := box1F ((World.putObj_heap_other (o := .deferred none) (by omega : A + 2 ≠ mm + 3)).trans (set1o (n := A + 3) (.int .i64 0) (by omega) (set1 (.int .i64 0) (set1o (n := A + 1) (.slice a6 vs.length c6) (by omega) hS.b2))))
        have q3 := box1F ((World.putObj_heap_other (o := .deferred none) (by omega : A + 3 ≠ mm + 3)).trans (set1 (.int .i64 0) (set1o (n := A + 2) (.int .i64 0) (by omega) (set1o (n := A + 1) (.slice a6 vs.length c6) (by omega) hS.b3))))
        refine ⟨_, results_box111 rfl _ _ (A + 1) (A + 2) (A + 3) _ _ _ rfl rfl rfl q1.1 q2.1 q3.1, ?_⟩
        have hk : ∀ r, r < mm + 5 → (Value.slice a6 vs.length c6).ownBlock = none ∨ (Value.slice a6 vs.length c6).ownBlock ≠ some r := fun r hr => by
          cases hv : (Value.slice a6 vs.length c6).ownBlock with
          | none => exact .inl rfl
          | some g' => exact .inr fun e => by have h1 := (hS.own.lt g' hv).1; have h2 := Option.some.inj e; omega
        refine ⟨.slice a6 vs.length c6, by rw [HRr.out], ?_, ?_⟩
        · rw [HRr.out]
          exact ws_own ((((hS.own.kept (set_grown W (A + 1) 0 _) (hk _ (by omega))).kept (set_grown _ (A + 2) 0 _) (hk _ (by omega))).kept (set_grown _ (A + 3) 0 _) (hk _ (by omega))).kept (grownBy_putObj' _ (mm + 3) (.deferred none)) (hk _ (by omega))) rfl
        · rw [HA.out]
          exact ((((hbA4.trans hS.bel).setCell (by show A ≤ A + 1; omega) _).setCell (by show A ≤ A + 2; omega) _).setCell (by show A ≤ A + 3; omega) _).grown (grownBy_putObj' _ (mm + 3) (.deferred none)) (by rw [World.size_setCell, World.size_setCell, World.size_setCell]; omega) (fun r e => by have := Option.some.inj e; omega)
      · rintro c pre C W hSp ⟨rfl, v, rfl, hE⟩ hD'
        rw [hs4] at hD' ⊢
        obtain ⟨vs, i, e, he, hr, hb2', hb3'⟩ := hE.ex
        have HRr : Hid (rdP p L = ([], (i : Int), e)) := Lib.hid (by
          rw [HR.out, hr]; simp only; rw [if_pos he])
        obtain ⟨d1, f1⟩ := box1F hE.b1
        obtain ⟨d2, f2⟩ := box1F hb2'
        obtain ⟨d3, f3⟩ := box1F hb3'
        have hne : (e != 0) = true := bne_iff_ne.2 he
        have HE := Lib.hid hE
        have HB2' := Lib.hid hb2'
        have HB3' := Lib.hid hb3'
        clear hE he hr hSp hb2' hb3'
        gi_upto_region 25 with fail
        gi_region
        gi_wp2
        -- MARK8b
        rw [Exit.noGoto_ret]
        have hlo := HE.out.lo
        refine ⟨by simp, .inl ⟨_, _, rfl, run_takeDeferred (by exact set1o _ (by omega) (set1o _ (by omega) (set1o _ (by omega) hD'))), ?_⟩⟩
        have hE := HE.out
        have q1 := box1F ((World.putObj_heap_other (o := .deferred none) (by omega : A + 1 ≠ mm + 3)).trans (set1o (n := A + 3) (.int .i64 e) (by omega) (set1o (n := A + 2) (.int .i64 (i : Int)) (by omega) (set1 (.slice none 0 0) hE.b1))))
        have q2 := box1F ((World.putObj_heap_other (o := .deferred none) (by omega : A + 2 ≠ mm + 3)).trans (set1o (n := A + 3) (.int .i64 e) (by omega) (set1 (.int .i64 (i : Int)) (set1o (n := A + 1) (.slice none 0 0) (by omega) HB2'.out))))
        have q3 := box1F ((World.putObj_heap_other (o := .deferred none) (by omega : A + 3 ≠ mm + 3)).trans (set1 (.int .i64 e) (set1o (n := A + 2) (.int .i64 (i : Int)) (by omega) (set1o (n := A + 1) (.slice none 0 0) (by omega) HB3'.out))))
        refine ⟨_, results_box111 rfl _ _ (A + 1) (A + 2) (A + 3) _ _ _ rfl rfl rfl q1.1 q2.1 q3.1, ?_⟩
        refine ⟨.slice none 0 0, by rw [HRr.out], by rw [HRr.out]; exact ws_nil _ _ _, ?_⟩
        rw [HA.out]
        have hbe : Below A w ((((W.setCell ⟨A + 1, 0, none⟩ (.slice none 0 0)).setCell ⟨A + 2, 0, none⟩ (.int .i64 (i : Int))).setCell ⟨A + 3, 0, none⟩ (.int .i64 e)).drew) := ((((hbA4.trans hE.bel).setCell (by show A ≤ A + 1; omega) _).setCell (by show A ≤ A + 2; omega) _).setCell (by show A ≤ A + 3; omega) _).drew
        have hsz5 : ((((W.setCell ⟨A + 1, 0, none⟩ (.slice none 0 0)).setCell ⟨A + 2, 0, none⟩ (.int .i64 (i : Int))).setCell ⟨A + 3, 0, none⟩ (.int .i64 e)).drew).heap.size = W.heap.size := by
          show (((W.setCell ⟨A + 1, 0, none⟩ (.slice none 0 0)).setCell ⟨A + 2, 0, none⟩ (.int .i64 (i : Int))).setCell ⟨A + 3, 0, none⟩ (.int .i64 e)).heap.size = W.heap.size
          rw [World.size_setCell, World.size_setCell, World.size_setCell]
        exact hbe.grown (grownBy_putObj' _ (mm + 3) (.deferred none)) (by rw [hsz5]; omega) (fun r e => by have := Option.some.inj e; omega)
theorem read_any (v u : Value) (p : List Sx) (L : List Pid) (w : World) (h : XsAt w v p) (hs : SmX p) (hi : InX p) (T : STabs w) (hu : PsAt w u L) (hsl : SmL L) (hll : L.length ≤ 100000) :
    Calls Tryz.prog 20 #[v, u] w (ReadV p L w) := by
  by_cases he : (hdP p).2 = 0
  · exact callsIn_wide.1 (read_yes v u p L w h hs hi T hu hsl hll he)
  · exact read_no v u p L w h hs hi T hu he
-- MARK9
end Go.Proofs.YtdiinlmeoifgjaaGreatDoor
