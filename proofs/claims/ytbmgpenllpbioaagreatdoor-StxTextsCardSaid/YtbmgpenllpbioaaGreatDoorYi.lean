/- checkWith, Size, Sub, made, Put. -/
import Derived.Test.YtbmgpenllpbioaaGreatDoorYh
import Derived.Test.YtbmgpenllpbioaaGreatDoorYe
import Derived.Lib.LazyBuf
namespace Go.Proofs.YtbmgpenllpbioaaGreatDoor
open Go.RowKit Go.PlainAid

def askX (l : List Sx) (i : Int) : Int := if (chkX l).2 ≠ 0 then (chkX l).2 else if i < 0 ∨ (l.length : Int) ≤ i then 4 else 0
theorem askX_0 {l : List Sx} {i : Int} (h : askX l i = 0) : (chkX l).2 = 0 ∧ 0 ≤ i ∧ i < (l.length : Int) := by
  unfold askX at h
  by_cases h1 : (chkX l).2 = 0
  · rw [if_neg (by simpa using h1)] at h
    by_cases h2 : i < 0 ∨ (l.length : Int) ≤ i
    · rw [if_pos h2] at h; cases h
    · exact ⟨h1, by omega, by omega⟩
  · rw [if_pos h1] at h; exact absurd h h1
set_option maxRecDepth 50000 in
set_option maxHeartbeats 3200000 in
theorem checkWithX_any (v : Value) (l : List Sx) (i : Int) (w : World) (h : XsAt w v l) (hs : SmX l) (hi : InX l) (T : STabs w) :
    Calls Tryz.prog 50 #[v, .int .i64 i] w fun e w' => e = .returned (.int .i64 (askX l i)) ∧ Below w.heap.size w w' := by
  have C := Lib.hid (check_one v l w h hs hi T)
  obtain ⟨va, vc, rfl, _⟩ := h.slice
  obtain ⟨n, hn⟩ : ∃ n, l.length = n := ⟨_, rfl⟩
  obtain ⟨z, hz⟩ : ∃ z, (chkX l).2 = z := ⟨_, rfl⟩
  have HV : Hid (∀ r, (if z ≠ 0 then z else if i < 0 ∨ (n : Int) ≤ i then 4 else 0) = r → askX l i = r) := Lib.hid (by rintro r rfl; unfold askX; rw [hz, hn])
  rw [hn, hz] at C
  rw [hn]
  clear h hs hi T hn hz
  by_cases he : z = 0
  · subst he
    by_cases h1 : i < 0
    · have HW := Lib.hid (HV.out 4 (by rw [if_neg (by simp), if_pos (.inl h1)]))
      have d1 : decide (i < 0) = true := decide_eq_true h1
      go_enter Tryz.func50, Tryz.ntmps50
      go_wp2_with fail
      refine C.out.mono ?_
      rintro e w1 ⟨rfl, hb1⟩
      go_wp2_with fail
      go_ret
      exact ⟨by rw [HW.out]; rfl, hb1⟩
    have d1 : decide (i < 0) = false := decide_eq_false h1
    by_cases h2 : (n : Int) ≤ i
    · have HW := Lib.hid (HV.out 4 (by rw [if_neg (by simp), if_pos (.inr h2)]))
      have d2 : decide ((n : Int) ≤ i) = true := decide_eq_true h2
      go_enter Tryz.func50, Tryz.ntmps50
      go_wp2_with fail
      refine C.out.mono ?_
      rintro e w1 ⟨rfl, hb1⟩
      go_wp2_with fail
      go_ret
      exact ⟨by rw [HW.out]; rfl, hb1⟩
    · have HW := Lib.hid (HV.out 0 (by rw [if_neg (by simp), if_neg (by omega)]))
      have d2 : decide ((n : Int) ≤ i) = false := decide_eq_false h2
      go_enter Tryz.func50, Tryz.ntmps50
      go_wp2_with fail
      refine C.out.mono ?_
      rintro e w1 ⟨rfl, hb1⟩
      go_wp2_with fail
      go_ret
      exact ⟨by rw [HW.out]; rfl, hb1⟩
  · have HW := Lib.hid (HV.out z (if_pos he))
    have hne : (z != 0) = true := bne_iff_ne.2 he
    clear he HV
    go_enter Tryz.func50, Tryz.ntmps50
    go_wp2_with fail
    refine C.out.mono ?_
    rintro e w1 ⟨rfl, hb1⟩
    go_wp2_with fail
    go_ret
    exact ⟨by rw [HW.out]; rfl, hb1⟩
def sizeX (l : List Sx) (i : Int) : Int × Int := if askX l i ≠ 0 then (0, askX l i) else (((endN (kidsX l) i.toNat - i.toNat : Nat) : Int), 0)
/-- The subtree in the memory of the tree. -/
theorem sub_at {w : World} {va : Option Addr} {n c : Nat} {l : List Sx} {i : Int} (h : XsAt w (.slice va n c) l) (hin : InX l) (ha : askX l i = 0) :
    ∃ (g off p E : Nat), va = some ⟨g, off, none⟩ ∧ i = (p : Int) ∧ i.toNat = p ∧ p < n ∧ p < E ∧ E ≤ n ∧ endN (kidsX l) p = E ∧ n ≤ 2000 ∧ n ≤ c ∧
      (∀ W, Below w.heap.size w W → Calls Tryz.prog 51 #[.slice (some ⟨g, off, none⟩) n c, .int .i64 (p : Int)] W fun e w' => e = .returned (.slice (some ⟨g, off + p * 8, none⟩) (E - p) (E - p)) ∧ w' = W) ∧
      ∀ W, Below w.heap.size w W → XsAt W (.slice (some ⟨g, off + p * 8, none⟩) (E - p) (E - p)) (subX l p) := by
  obtain ⟨h1, h2, h3⟩ := askX_0 ha
  have hn : n = l.length := by obtain ⟨_, _, _, e, hn, _⟩ := h; obtain ⟨rfl, rfl, rfl⟩ := Value.slice.inj e; exact hn
  have hcap : n ≤ c := by obtain ⟨_, _, _, e, _, hc, _⟩ := h; obtain ⟨rfl, rfl, rfl⟩ := Value.slice.inj e; exact hc
  obtain ⟨p, rfl⟩ : ∃ p : Nat, i = (p : Int) := ⟨i.toNat, by omega⟩
  have hp : p < n := by omega
  obtain ⟨g, off, rfl⟩ := cap_in h hp
  obtain ⟨e1, e2⟩ := endX h1 (i := p) (by omega)
  refine ⟨g, off, p, _, rfl, rfl, by simp, hp, e1, by omega, rfl, by have := (chkX_tree h1).2.2; omega, hcap, fun W hW => subtree_any g off n c p l W (h.below hW (Nat.le_refl _)) h1 hp hin, fun W hW => ?_⟩
  exact xs_seg (h.below hW (Nat.le_refl _)) (Nat.le_of_lt e1) (by omega) _ _ (Nat.le_refl _) (fun _ g' off' e => by cases e; rfl)
set_option maxRecDepth 50000 in
set_option maxHeartbeats 3200000 in
theorem Size_any (v : Value) (l : List Sx) (i : Int) (w : World) (h : XsAt w v l) (hs : SmX l) (hi : InX l) (T : STabs w) :
    Calls Tryz.prog 14 #[v, .int .i64 i] w fun e w' => e = .returned (.tuple #[.int .i64 (sizeX l i).1, .int .i64 (sizeX l i).2]) ∧ Below w.heap.size w w' := by
  have C := Lib.hid (checkWithX_any v l i w h hs hi T)
  obtain ⟨va, vc, rfl, _⟩ := h.slice
  by_cases he : askX l i = 0
  · obtain ⟨g, off, p, E, rfl, rfl, hp, hpn, hpE, hEn, hend, hn2, hcap, HS, _⟩ := sub_at h hi he
    have HSb := Lib.hid HS
    have HW : Hid (sizeX l (p : Int) = (((E - p : Nat) : Int), 0)) := Lib.hid (by unfold sizeX; rw [if_neg (by simpa using he), hp, hend])
    obtain ⟨n, hn⟩ : ∃ n, l.length = n := ⟨_, rfl⟩
    rw [he] at C
    rw [hn] at C HSb ⊢
    clear h hs hi T hn he HS
    go_enter Tryz.func14, Tryz.ntmps14
    go_wp2_with fail
    refine C.out.mono ?_
    rintro e w1 ⟨rfl, hb1⟩
    go_wp2_with fail
    refine (HSb.out w1 hb1).mono ?_
    rintro e w2 ⟨rfl, rfl⟩
    go_wp2_with fail
    go_ret2
    exact ⟨by rw [HW.out]; rfl, hb1⟩
  · have HW : Hid (sizeX l i = (0, askX l i)) := Lib.hid (by unfold sizeX; rw [if_pos he])
    obtain ⟨z, hz⟩ : ∃ z, askX l i = z := ⟨_, rfl⟩
    rw [hz] at C HW he
    have hne : (z != 0) = true := bne_iff_ne.2 he
    obtain ⟨n, hn⟩ : ∃ n, l.length = n := ⟨_, rfl⟩
    rw [hn] at C ⊢
    clear h hs hi T hn he hz
    go_enter Tryz.func14, Tryz.ntmps14
    go_wp2_with fail
    refine C.out.mono ?_
    rintro e w1 ⟨rfl, hb1⟩
    go_wp2_with fail
    go_ret2
    exact ⟨by rw [HW.out]; rfl, hb1⟩
set_option maxRecDepth 50000 in
set_option maxHeartbeats 3200000 in
theorem clone_any (g off n c : Nat) (l : List Sx) (w : World) (h : XsAt w (.slice (some ⟨g, off, none⟩) n c) l) (hn0 : 0 < n) (hn2 : n ≤ 100000) :
    Calls Tryz.prog 55 #[.slice (some ⟨g, off, none⟩) n c] w fun e w' => ∃ a cc, e = .returned (.slice a n cc) ∧ Hid (w'.ownsRow w.heap.size 28 8 (.slice a n cc) n (xcs l)) ∧ Below w.heap.size w w' := by
  obtain ⟨i0, hi, hj0, hj1, hj2⟩ := info_parts2 zeroSxI
  obtain ⟨_, _, _, e, hn, _, hr⟩ := h
  obtain ⟨rfl, rfl, rfl⟩ := Value.slice.inj e
  have HL : Hid ((xcs l).length = n * 8) := Lib.hid (by rw [xcs_len, hn])
  have HO : Hid ((w.alloc (.cells #[] 28)).ownsRow w.heap.size 28 8 (.slice (some ⟨w.heap.size, 0, none⟩) 0 0) 0 []) := Lib.hid ⟨rfl, .inr ⟨w.heap.size, 0, #[], rfl, Nat.le_refl _, World.alloc_heap_new _ _, Nat.le_refl _, by unfold maxLen; omega, rfl, rfl⟩⟩
  have HC : Hid (∀ j u, (xcs l)[j]? = some u → (w.alloc (.cells #[] 28)).cell? ((⟨g, off, none⟩ : Addr).add j) = some u) := Lib.hid fun j u hj => by
    rcases hr with rfl | ⟨g', off', e', hg, hcell⟩
    · simp at hn; omega
    · cases e'
      rw [Go.WideShapes.add_plain]
      exact (cell_oldX w _ ⟨g, off + j, none⟩ hg).trans (hcell j u hj)
  have HOne := Lib.hid (one_xcs l)
  have hnil : ∀ W, (binOp .eql 22 (.slice (some ⟨g, off, none⟩) n c) (.slice none 0 0)).run Tryz.prog W = .ok (.bool false) W := fun W => run_eql_slice_nil W 22 28 (some ⟨g, off, none⟩) n c Tryz.underlying22
  clear hr hn e
  go_enter Tryz.func55, Tryz.ntmps55
  go_wp2_with (at_builtin; refine wpList_append_own _ rfl _ _ 22 rfl w.heap.size 28 i0 zeroNx 8 80 Tryz.underlying22 hi hj0 hj1 hj2 rfl (by decide) _ _ _ rfl HO.out ⟨g, off, none⟩ n c (xcs l) rfl HL.out HC.out HOne.out (by unfold maxLen; omega) (by omega) (by rw [World.size_alloc]; omega) ?_; intro v4 w4 hown4 hgrow4 _; obtain ⟨b4, cb4, rfl⟩ := own_lenR hown4)
  -- MARK1
  go_ret
  rw [Nat.zero_add, List.nil_append] at hown4
  exact ⟨b4, cb4, rfl, Lib.hid hown4, (below_b1 w _).grown hgrow4 (by rw [World.size_alloc]; omega) (fun k hk => by have := (HO.out.lt k hk).1; omega)⟩
def subR (l : List Sx) (i : Int) : List Sx × Int := if askX l i ≠ 0 then ([], askX l i) else (subX l i.toNat, 0)
set_option maxRecDepth 50000 in
set_option maxHeartbeats 3200000 in
theorem Sub_any (v : Value) (l : List Sx) (i : Int) (w : World) (h : XsAt w v l) (hs : SmX l) (hi : InX l) (T : STabs w) :
    Calls Tryz.prog 19 #[v, .int .i64 i] w (ChgV (subR l i) w) := by
  have C := Lib.hid (checkWithX_any v l i w h hs hi T)
  obtain ⟨va, vc, rfl, _⟩ := h.slice
  by_cases he : askX l i = 0
  · obtain ⟨g, off, p, E, rfl, rfl, hp, hpn, hpE, hEn, hend, hn2, hcap, HS, HX⟩ := sub_at h hi he
    have HSb := Lib.hid HS
    have HCl := Lib.hid (fun W hW => clone_any g (off + p * 8) (E - p) (E - p) (subX l p) W (HX W hW) (by omega) (by omega))
    have HW : Hid (subR l (p : Int) = (subX l p, 0) ∧ (subX l p).length = E - p) := Lib.hid ⟨by unfold subR; rw [if_neg (by simpa using he), hp], by unfold subX; rw [segX_len (by omega), hend]⟩
    obtain ⟨n, hn⟩ : ∃ n, l.length = n := ⟨_, rfl⟩
    rw [he] at C
    rw [hn] at C HSb ⊢
    clear h hs hi T hn he HS HX
    go_enter Tryz.func19, Tryz.ntmps19
    go_wp2_with fail
    refine C.out.mono ?_
    rintro e w1 ⟨rfl, hb1⟩
    go_wp2_with fail
    refine (HSb.out w1 hb1).mono ?_
    rintro e w2 ⟨rfl, rfl⟩
    go_wp2_with fail
    refine (HCl.out w2 hb1).mono ?_
    rintro e w3 ⟨a, cc, rfl, ho, hb3⟩
    go_wp2_with fail
    go_ret2
    refine ⟨a, cc, by rw [HW.out.1]; simp only [HW.out.2]; rfl, Lib.hid ?_, below_step hb1 hb3⟩
    rw [HW.out.1]; simp only [HW.out.2]
    exact own_mono ho.out hb1.size
  · have HW : Hid (subR l i = ([], askX l i)) := Lib.hid (by unfold subR; rw [if_pos he])
    obtain ⟨z, hz⟩ : ∃ z, askX l i = z := ⟨_, rfl⟩
    rw [hz] at C HW he
    have hne : (z != 0) = true := bne_iff_ne.2 he
    obtain ⟨n, hn⟩ : ∃ n, l.length = n := ⟨_, rfl⟩
    rw [hn] at C ⊢
    clear h hs hi T hn he hz
    go_enter Tryz.func19, Tryz.ntmps19
    go_wp2_with fail
    refine C.out.mono ?_
    rintro e w1 ⟨rfl, hb1⟩
    go_wp2_with fail
    go_ret2
    exact chgV_err HW.out hb1
set_option maxRecDepth 50000 in
set_option maxHeartbeats 3200000 in
theorem made_any (v : Value) (l : List Sx) (w : World) (h : XsAt w v l) (hs : SmX l) (hi : InX l) (T : STabs w) :
    Calls Tryz.prog 57 #[v] w fun e w' => e = .returned (.tuple #[if (chkX l).2 ≠ 0 then .slice none 0 0 else v, .int .i64 (chkX l).2]) ∧ Below w.heap.size w w' := by
  have C := Lib.hid (check_one v l w h hs hi T)
  obtain ⟨va, vc, rfl, _⟩ := h.slice
  obtain ⟨n, hn⟩ : ∃ n, l.length = n := ⟨_, rfl⟩
  obtain ⟨z, hz⟩ : ∃ z, (chkX l).2 = z := ⟨_, rfl⟩
  rw [hn, hz] at C
  rw [hn, hz]
  clear h hs hi T hn hz
  by_cases he : z = 0
  · subst he
    rw [if_neg (by simp)]
    go_enter Tryz.func57, Tryz.ntmps57
    go_wp2_with fail
    refine C.out.mono ?_
    rintro e w1 ⟨rfl, hb1⟩
    go_wp2_with fail
    go_ret2
    exact ⟨rfl, hb1⟩
  · rw [if_pos he]
    have hne : (z != 0) = true := bne_iff_ne.2 he
    clear he
    go_enter Tryz.func57, Tryz.ntmps57
    go_wp2_with fail
    refine C.out.mono ?_
    rintro e w1 ⟨rfl, hb1⟩
    go_wp2_with fail
    go_ret2
    exact ⟨rfl, hb1⟩
/-- What Put makes. -/
def putL (l : List Sx) (i : Nat) (s : List Sx) : List Sx := l.take i ++ (s ++ l.drop (endN (kidsX l) i))
def putX (l : List Sx) (i : Int) (s : List Sx) : List Sx × Int :=
  if (chkX l).2 ≠ 0 then ([], (chkX l).2) else if (chkX s).2 ≠ 0 then ([], (chkX s).2) else if askX l i ≠ 0 then ([], askX l i) else if (chkX (putL l i.toNat s)).2 ≠ 0 then ([], (chkX (putL l i.toNat s)).2) else (putL l i.toNat s, 0)
theorem put_small {l s : List Sx} {i : Nat} (hs : SmX l) (hs2 : SmX s) : SmX (putL l i s) := by
  intro x hx
  unfold putL at hx
  rcases List.mem_append.1 hx with h | h
  · exact hs x (List.mem_of_mem_take h)
  · rcases List.mem_append.1 h with h | h
    · exact hs2 x h
    · exact hs x (List.mem_of_mem_drop h)
theorem put_int {l s : List Sx} {i : Nat} (hs : InX l) (hs2 : InX s) : InX (putL l i s) := by
  intro x hx
  unfold putL at hx
  rcases List.mem_append.1 hx with h | h
  · exact hs x (List.mem_of_mem_take h)
  · rcases List.mem_append.1 h with h | h
    · exact hs2 x h
    · exact hs x (List.mem_of_mem_drop h)
theorem prt_part {w : World} {a : Option Addr} {n c : Nat} {l : List Sx} (h : XsAt w (.slice a n c) l) (ha : ∃ g off, a = some ⟨g, off, none⟩ ∧ g < w.heap.size) : ∃ g off, a = some ⟨g, off, none⟩ ∧ n = l.length ∧ g < w.heap.size ∧ ∀ (k : Nat) (u : Value), (xcs l)[k]? = some u → w.cell? ⟨g, off + k, none⟩ = some u := by
  obtain ⟨_, _, _, e, hn, _, hr⟩ := h
  obtain ⟨rfl, rfl, rfl⟩ := Value.slice.inj e
  obtain ⟨g, off, rfl, hg⟩ := ha
  refine ⟨g, off, rfl, hn, hg, fun k u hk => ?_⟩
  rcases hr with rfl | ⟨g', off', e', _, hc⟩
  · simp [xcs] at hk
  · cases e'; exact hc k u hk
/-- Three parts in memory. -/
theorem prt_three {w W : World} {a1 a2 a3 : Option Addr} {n1 n2 n3 c1 c2 c3 : Nat} {l1 l2 l3 : List Sx} (h1 : XsAt w (.slice a1 n1 c1) l1) (h2 : XsAt w (.slice a2 n2 c2) l2) (h3 : XsAt w (.slice a3 n3 c3) l3)
    (g1 : ∃ g off, a1 = some ⟨g, off, none⟩ ∧ g < w.heap.size) (g2 : ∃ g off, a2 = some ⟨g, off, none⟩ ∧ g < w.heap.size) (g3 : ∃ g off, a3 = some ⟨g, off, none⟩ ∧ g < w.heap.size)
    (hW : Below w.heap.size w W) (hb : W.heap[w.heap.size]? = some (.cells #[.slice a1 n1 c1, .slice a2 n2 c2, .slice a3 n3 c3] 22 (0, 0))) :
    PrtAt W (.slice (some ⟨w.heap.size, 0, none⟩) 3 3) [l1, l2, l3] := by
  refine ⟨w.heap.size, 0, 3, rfl, (Array.getElem?_eq_some_iff.1 hb).1, fun j t hj => ?_⟩
  have key : ∀ {a : Option Addr} {n c : Nat} {l : List Sx}, XsAt w (.slice a n c) l → (∃ g off, a = some ⟨g, off, none⟩ ∧ g < w.heap.size) → ∃ gt ot ct, Value.slice a n c = .slice (some ⟨gt, ot, none⟩) l.length ct ∧ gt < W.heap.size ∧ ∀ (k : Nat) (u : Value), (xcs l)[k]? = some u → W.cell? ⟨gt, ot + k, none⟩ = some u := by
    intro a n c l h ha
    obtain ⟨g, off, rfl, rfl, hg, hc⟩ := prt_part h ha
    exact ⟨g, off, c, rfl, Nat.lt_of_lt_of_le hg hW.size, fun k u hk => (hW.cell (p := ⟨g, off + k, none⟩) hg).trans (hc k u hk)⟩
  match j, hj with
  | 0, hj =>
    simp at hj; subst hj
    obtain ⟨gt, ot, ct, e, h4, h5⟩ := key h1 g1
    exact ⟨gt, ot, ct, by rw [← e]; simp [World.cell?, hb], h4, h5⟩
  | 1, hj =>
    simp at hj; subst hj
    obtain ⟨gt, ot, ct, e, h4, h5⟩ := key h2 g2
    exact ⟨gt, ot, ct, by rw [← e]; simp [World.cell?, hb], h4, h5⟩
  | 2, hj =>
    simp at hj; subst hj
    obtain ⟨gt, ot, ct, e, h4, h5⟩ := key h3 g3
    exact ⟨gt, ot, ct, by rw [← e]; simp [World.cell?, hb], h4, h5⟩
  | j + 3, hj => simp at hj
set_option maxRecDepth 50000 in
set_option maxHeartbeats 6400000 in
theorem Put_any (v u : Value) (l s : List Sx) (i : Int) (w : World) (h : XsAt w v l) (h2 : XsAt w u s) (hs : SmX l) (hi : InX l) (hs2 : SmX s) (hi2 : InX s) (T : STabs w) (hsl : s.length ≤ 50000) :
    Calls Tryz.prog 21 #[v, .int .i64 i, u] w (ChgV (putX l i s) w) := by
  have C2 := Lib.hid (check_two v u l s w h h2 hs hi hs2 hi2 T)
  have CW := Lib.hid (fun W (hW : Below w.heap.size w W) => checkWithX_any v l i W (h.below hW (Nat.le_refl _)) hs hi (T.below hW))
  obtain ⟨va, vc, rfl, hcl⟩ := h.slice
  obtain ⟨ua, uc, rfl, _⟩ := h2.slice
  obtain ⟨n, hn⟩ : ∃ n, l.length = n := ⟨_, rfl⟩
  obtain ⟨m, hm⟩ : ∃ m, s.length = m := ⟨_, rfl⟩
  rw [hn] at C2 CW hcl ⊢
  rw [hm] at C2 ⊢
  have hor : (∃ er, er ≠ 0 ∧ (if (chkX l).2 ≠ 0 then (chkX l).2 else (chkX s).2) = er ∧ putX l i s = ([], er)) ∨ ((if (chkX l).2 ≠ 0 then (chkX l).2 else (chkX s).2) = 0 ∧ (chkX l).2 = 0 ∧ (chkX s).2 = 0) := by
    by_cases e1 : (chkX l).2 = 0
    · by_cases e2 : (chkX s).2 = 0
      · right; exact ⟨by rw [if_neg (by simpa using e1)]; exact e2, e1, e2⟩
      · left; exact ⟨_, e2, by rw [if_neg (by simpa using e1)], by unfold putX; rw [if_neg (by simpa using e1), if_pos e2]⟩
    · left; exact ⟨_, e1, by rw [if_pos e1], by unfold putX; rw [if_pos e1]⟩
  rcases hor with ⟨er, her, e1, HW0⟩ | ⟨e0, e1, e2⟩
  · rw [e1] at C2
    have HW := Lib.hid HW0
    have hne : (er != 0) = true := bne_iff_ne.2 her
    clear h h2 hs hi hs2 hi2 T hn hm e1 her HW0 CW
    go_enter Tryz.func21, Tryz.ntmps21
    go_wp2_with fail
    refine C2.out.mono ?_
    rintro e w1 ⟨rfl, hb1⟩
    go_wp2_with fail
    go_ret2
    exact chgV_err HW.out hb1
  rw [e0] at C2
  by_cases he : askX l i = 0
  case neg =>
    have HW : Hid (putX l i s = ([], askX l i)) := Lib.hid (by unfold putX; rw [if_neg (by simpa using e1), if_neg (by simpa using e2), if_pos he])
    obtain ⟨z, hz⟩ : ∃ z, askX l i = z := ⟨_, rfl⟩
    rw [hz] at CW HW he
    have hne : (z != 0) = true := bne_iff_ne.2 he
    clear h h2 hs hi hs2 hi2 T hn hm he hz e0 e1 e2
    go_enter Tryz.func21, Tryz.ntmps21
    go_wp2_with fail
    refine C2.out.mono ?_
    rintro e w1 ⟨rfl, hb1⟩
    go_wp2_with fail
    refine (CW.out w1 hb1).mono ?_
    rintro e w2 ⟨rfl, hb2⟩
    go_wp2_with fail
    go_ret2
    exact chgV_err HW.out (below_step hb1 hb2)
  obtain ⟨g, off, p, E, rfl, rfl, hp, hpn, hpE, hEn, hend, hn2, hcap, HS, HX⟩ := sub_at h hi he
  rw [hn] at h hpn hEn hn2 hcap HS
  have HSb := Lib.hid HS
  rw [he] at CW
  have hmpos : 0 < m := by rw [← hm]; exact List.length_pos_iff.2 (chkX_tree e2).2.1
  rw [hm] at h2 hsl
  obtain ⟨gs, os, rfl⟩ := cap_in h2 hmpos
  have hgl : g < w.heap.size := by
    obtain ⟨x, hx⟩ : ∃ x, l[p]? = some x := ⟨_, List.getElem?_eq_getElem (by omega)⟩
    obtain ⟨g', _, e, hg, _⟩ := h.node hx
    cases e; exact hg
  have hgs : gs < w.heap.size := by
    obtain ⟨x, hx⟩ : ∃ x, s[0]? = some x := ⟨_, List.getElem?_eq_getElem (by omega)⟩
    obtain ⟨g', _, e, hg, _⟩ := h2.node hx
    cases e; exact hg
  have HPL : Hid (putL l p s = [l.take p, s, l.drop E].flatten ∧ (putL l p s).length = p + m + (n - E)) := Lib.hid ⟨by unfold putL; rw [hend]; simp, by unfold putL; rw [hend, List.length_append, List.length_append, List.length_take, List.length_drop, hm]; omega⟩
  have HPX : Hid (putX l (p : Int) s = if (chkX (putL l p s)).2 ≠ 0 then ([], (chkX (putL l p s)).2) else (putL l p s, 0)) := Lib.hid (by unfold putX; rw [if_neg (by simpa using e1), if_neg (by simpa using e2), if_neg (by simpa using he), hp])
  have CM := Lib.hid (fun v' W (hW : Below w.heap.size w W) (hx : XsAt W v' (putL l p s)) => made_any v' (putL l p s) W hx (put_small hs hs2) (put_int hi hi2) (T.below hW))
  have CCat : Hid (∀ W W' a3 c3, Below w.heap.size w W → XsAt W (.slice (some a3) (n - E) c3) (l.drop E) → (∃ g off, a3 = ⟨g, off, none⟩ ∧ g < W.heap.size) → Below W.heap.size W W' → W'.heap[W.heap.size]? = some (.cells #[.slice (some ⟨g, off, none⟩) p vc, .slice (some ⟨gs, os, none⟩) m uc, .slice (some a3) (n - E) c3] 22 (0, 0)) →
      Calls Tryz.prog 58 #[.slice (some ⟨W.heap.size, 0, none⟩) 3 3] W' fun e w' => ∃ g' c', e = .returned (.slice (some ⟨g', 0, none⟩) (p + m + (n - E)) c') ∧ Hid (w'.ownsRow W'.heap.size 28 8 (.slice (some ⟨g', 0, none⟩) (p + m + (n - E)) c') (p + m + (n - E)) (xcs (putL l p s))) ∧ Below W'.heap.size W' w') := Lib.hid fun W W' a3 c3 hW hx3 hg3 hWW hb => by
    obtain ⟨g3, o3, rfl, hg3⟩ := hg3
    have hP := prt_three (xs_take (h.below hW (Nat.le_refl _)) (Nat.le_of_lt hpn)) (h2.below hW (Nat.le_refl _)) hx3 ⟨g, off, rfl, Nat.lt_of_lt_of_le hgl hW.size⟩ ⟨gs, os, rfl, Nat.lt_of_lt_of_le hgs hW.size⟩ ⟨g3, o3, rfl, hg3⟩ hWW hb
    have hlen := HPL.out.2
    rw [HPL.out.1] at hlen
    have := concatX_any _ _ W' hP (by omega) (by omega) (by simp)
    rw [hlen] at this
    refine this.mono ?_
    rintro e w' ⟨g', c', rfl, h4, h5⟩
    exact ⟨g', c', rfl, Lib.hid (by rw [HPL.out.1]; exact h4), h5⟩
  have hdr : ∀ W, Below w.heap.size w W → ∀ (a2 : Addr) (c2 : Nat), n - E ≤ c2 → (E < n → a2 = ⟨g, off + E * 8, none⟩) → XsAt W (.slice (some a2) (n - E) c2) (l.drop E) := fun W hW a2 c2 hc2 ha => xs_drop (h.below hW (Nat.le_refl _)) hEn (some a2) (n - E) c2 rfl hc2 (fun hlt g' off' e => by cases e; rw [ha hlt])
  have HDr := Lib.hid hdr
  have HGl : Hid (g < w.heap.size) := Lib.hid hgl
  have w0 : IntKind.i64.wrap ((p : Int) + ((E - p : Nat) : Int)) = (E : Int) := by rw [IntKind.wrap_i64]; omega
  have b0 : (0 : Int) ≤ (p : Int) := Int.natCast_nonneg _
  have b1 : (p : Int) ≤ (vc : Int) := by omega
  have b2 : (0 : Int) ≤ (E : Int) := Int.natCast_nonneg _
  have b3 : (E : Int) ≤ (n : Int) := by omega
  have b4 : (n : Int) ≤ (vc : Int) := by omega
  have b5 : p ≤ vc := by omega
  have b6 : E ≤ n := hEn
  have b7 : n ≤ vc := hcap
  clear h h2 hs hi hs2 hi2 T hn hm he e0 e1 e2 HS HX hdr hgl hgs hend hcl hp hsl
  obtain ⟨z, hz⟩ : ∃ z, (chkX (putL l p s)).2 = z := ⟨_, rfl⟩
  rw [hz] at HPX CM
  clear hz
  have HOwn : Hid (∀ (W' w' : World) g' c', w.heap.size ≤ W'.heap.size → w'.ownsRow W'.heap.size 28 8 (.slice (some ⟨g', 0, none⟩) (p + m + (n - E)) c') (p + m + (n - E)) (xcs (putL l p s)) → XsAt w' (.slice (some ⟨g', 0, none⟩) (p + m + (n - E)) c') (putL l p s) ∧ w'.ownsRow w.heap.size 28 8 (.slice (some ⟨g', 0, none⟩) (p + m + (n - E)) c') (p + m + (n - E)) (xcs (putL l p s))) := Lib.hid fun W' w' g' c' h1 h2 => ⟨xs_own h2 HPL.out.2, own_mono h2 h1⟩
  have HFin : Hid (z = 0 → ∀ (w' : World) g' c', w'.ownsRow w.heap.size 28 8 (.slice (some ⟨g', 0, none⟩) (p + m + (n - E)) c') (p + m + (n - E)) (xcs (putL l p s)) → Below w.heap.size w w' → ChgV (putX l (p : Int) s) w (.returned (.tuple #[.slice (some ⟨g', 0, none⟩) (p + m + (n - E)) c', .int .i64 0])) w') := Lib.hid fun h0 w' g' c' h1 h2 => by
    have e : putX l (p : Int) s = (putL l p s, 0) := by rw [HPX.out, if_neg (by simpa using h0)]
    refine ⟨some ⟨g', 0, none⟩, c', by rw [e]; simp only [HPL.out.2], Lib.hid ?_, h2⟩
    rw [e]; simp only [HPL.out.2]; exact h1
  have HBad : Hid (z ≠ 0 → putX l (p : Int) s = ([], z)) := Lib.hid fun h0 => by rw [HPX.out, if_pos h0]
  have hcases : ∃ a3 c3, (vc = E ∧ n = E ∧ a3 = (⟨g, off, none⟩ : Addr) ∧ c3 = 0) ∨ (¬ vc = E ∧ a3 = (⟨g, off + E * 8, none⟩ : Addr) ∧ c3 = vc - E) := by
    by_cases hcv : vc = E
    · exact ⟨_, _, .inl ⟨hcv, by omega, rfl, rfl⟩⟩
    · exact ⟨_, _, .inr ⟨hcv, rfl, rfl⟩⟩
  obtain ⟨a3, c3, hcs⟩ := hcases
  have HX3 : Hid (∀ W, Below w.heap.size w W → XsAt W (.slice (some a3) (n - E) c3) (l.drop E) ∧ ∃ g off, a3 = ⟨g, off, none⟩ ∧ g < W.heap.size) := Lib.hid fun W hW => by
    rcases hcs with ⟨h1, h2, rfl, rfl⟩ | ⟨h1, rfl, rfl⟩
    · exact ⟨HDr.out W hW _ _ (by omega) (fun h => by omega), _, _, rfl, Nat.lt_of_lt_of_le HGl.out hW.size⟩
    · exact ⟨HDr.out W hW _ _ (by omega) (fun _ => rfl), _, _, rfl, Nat.lt_of_lt_of_le HGl.out hW.size⟩
  have CD : Hid (∀ W, Below w.heap.size w W → Calls Tryz.prog 58 #[.slice (some ⟨W.heap.size, 0, none⟩) 3 3] (W.alloc (.cells #[.slice (some ⟨g, off, none⟩) p vc, .slice (some ⟨gs, os, none⟩) m uc, .slice (some a3) (n - E) c3] 22)).drew fun e w' => ∃ g' c', e = .returned (.slice (some ⟨g', 0, none⟩) (p + m + (n - E)) c') ∧ XsAt w' (.slice (some ⟨g', 0, none⟩) (p + m + (n - E)) c') (putL l p s) ∧ Hid (w'.ownsRow w.heap.size 28 8 (.slice (some ⟨g', 0, none⟩) (p + m + (n - E)) c') (p + m + (n - E)) (xcs (putL l p s))) ∧ Below w.heap.size w w') := Lib.hid fun W hW => by
    obtain ⟨x1, x2⟩ := HX3.out W hW
    have hbW := (below_b1 W (.cells #[.slice (some ⟨g, off, none⟩) p vc, .slice (some ⟨gs, os, none⟩) m uc, .slice (some a3) (n - E) c3] 22)).drew
    refine (CCat.out W _ a3 c3 hW x1 x2 hbW (World.alloc_heap_new W _)).mono ?_
    rintro e w' ⟨g', c', rfl, h4, h5⟩
    have hw1 := below_step hW hbW
    obtain ⟨q1, q2⟩ := HOwn.out _ w' g' c' hw1.size h4.out
    exact ⟨g', c', rfl, q1, Lib.hid q2, below_step hw1 h5⟩
  clear CCat HX3 HDr HOwn
  have hor2 : z = 0 ∨ z ≠ 0 := by omega
  rcases hcs with ⟨rfl, rfl, rfl, rfl⟩ | ⟨hcv, rfl, rfl⟩ <;> rcases hor2 with rfl | hz0
  all_goals
    first
    | (have HF := Lib.hid (HFin.out rfl); clear HFin HBad; try simp only [Nat.sub_self, Nat.add_zero] at CD HF)
    | (have HBd := Lib.hid (HBad.out hz0); clear HFin HBad; try simp only [Nat.sub_self, Nat.add_zero] at CD)
    go_enter Tryz.func21, Tryz.ntmps21
    go_wp2_with fail
    refine C2.out.mono ?_
    rintro e w1 ⟨rfl, hb1⟩
    go_wp2_with fail
    refine (CW.out w1 hb1).mono ?_
    rintro e w2 ⟨rfl, hb2⟩
    have hb12 := below_step hb1 hb2
    go_wp2_with fail
    refine (HSb.out w2 hb12).mono ?_
    rintro e w3 ⟨rfl, rfl⟩
    have CD3 := Lib.hid (CD.out w3 hb12)
    go_wp2_with fail
    -- MARK2
    go_region_with (first
      | (go_at_call 58; refine CD3.out.mono ?_; rintro e w4 ⟨g4, c4, rfl, hx4, ho4, hb4⟩; have CM4 := CM.out _ w4 hb4 hx4)
      | (go_at_call 57; refine CM4.mono ?_; rintro e w5 ⟨rfl, hb5⟩))
    -- MARK3
    all_goals go_wp2_with fail
    all_goals go_ret2
    all_goals first
      | exact HF.out w5 g4 c4 (own_below ho4.out hb5) (below_step hb4 hb5)
      | exact chgV_err HBd.out (below_step hb4 hb5)
-- MARK9
end Go.Proofs.YtbmgpenllpbioaaGreatDoor
