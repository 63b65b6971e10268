/- Patterns: the ends of subtrees; the head; what makes the iterators. -/
import Derived.Test.YtdiinlmeoifgjaaGreatDoorHsh
namespace Go.Proofs.YtdiinlmeoifgjaaGreatDoor
open Go.RowKit Go.PlainAid

/-- The first k numbers of children, and zeros. -/
def kdZ (ks : List Nat) (k : Nat) : List Nat := ks.take k ++ List.replicate (ks.length - k) 0
theorem kdZ_len (ks : List Nat) {k : Nat} (hk : k ≤ ks.length) : (kdZ ks k).length = ks.length := by unfold kdZ; rw [List.length_append, List.length_take, List.length_replicate]; omega
theorem kdZ_0 (ks : List Nat) : kdZ ks 0 = List.replicate ks.length 0 := by unfold kdZ; simp
theorem kdZ_end (ks : List Nat) : kdZ ks ks.length = ks := by unfold kdZ; simp
theorem kdZ_set {ks : List Nat} {k c : Nat} (h : ks[k]? = some c) : (kdZ ks k).set k c = kdZ ks (k + 1) := by
  obtain ⟨hk, rfl⟩ := List.getElem?_eq_some_iff.1 h
  unfold kdZ
  have hl : (ks.take k).length = k := by rw [List.length_take]; omega
  rw [List.set_append_right _ _ (by rw [hl]; exact Nat.le_refl _), hl, Nat.sub_self, show ks.length - k = (ks.length - (k + 1)) + 1 by omega, List.replicate_succ, List.set_cons_zero, ← List.take_append_getElem hk, List.append_assoc]; rfl
theorem ks_int (p : List Sx) (h : ∀ x ∈ p, 0 ≤ x.c) (k : Nat) (x : Sx) (hx : p[k]? = some x) : x.c = ((x.c.toNat : Nat) : Int) := by
  have := h x (List.mem_of_getElem? hx); omega
theorem shapeS_ok {ks : List Nat} (h : Tr ks) (hl : ks.length ≤ 2000) : shapeS (ks.map fun q : Nat => (q : Int)) = (endsL ks, 0) := by
  have e : (ks.map fun q : Nat => (q : Int)).map Int.toNat = ks := by rw [List.map_map]; conv => rhs; rw [← List.map_id ks]
                                                                      apply List.map_congr_left; intro a _; simp
  rw [shape_else (by rw [List.length_map]; omega) (fun k x hx => by
    rw [List.getElem?_map] at hx
    cases hq : ks[k]? with
    | none => rw [hq] at hx; cases hx
    | some q => rw [hq] at hx; cases hx; exact Int.natCast_nonneg q), e, if_pos (by unfold trB; rw [decide_eq_true_iff]; exact h)]
set_option maxRecDepth 50000 in
set_option maxHeartbeats 1600000 in
theorem ends_any (v : Value) (p : List Sx) (w : World) (h : XsAt w v p) (ht : Tr (kidsX p)) (hc : ∀ x ∈ p, 0 ≤ x.c) (hl : p.length ≤ 2000) :
    Calls Tryz.prog 33 #[v] w fun e w' => ∃ r, e = .returned r ∧ IntRow w' r ((endsL (kidsX p)).map fun q : Nat => (q : Int)) ∧ Below w.heap.size w w' ∧ ∀ g, r.ownBlock = some g → w.heap.size ≤ g := by
  have HV := Lib.hid (fun W (hW : Below w.heap.size w W) => h.below hW (Nat.le_refl _))
  obtain ⟨va, vc, rfl, _⟩ := h.slice
  obtain ⟨n, hn⟩ : ∃ n, p.length = n := ⟨_, rfl⟩
  have HN := Lib.hid hn
  have HKs := Lib.hid (ks_int p hc)
  obtain ⟨ks, hks⟩ : ∃ ks, kidsX p = ks := ⟨_, rfl⟩
  have hkl : ks.length = n := by rw [← hks, kidsX_len, hn]
  have HKA : Hid (∀ (k : Nat) (x : Sx), p[k]? = some x → ks[k]? = some x.c.toNat) := Lib.hid fun k x hx => by rw [← hks]; exact kidsX_at hx
  have HSh := Lib.hid (shapeS_ok ht (by rw [kidsX_len]; exact hl))
  rw [hks] at HSh ⊢
  rw [hn] at HV hl ⊢
  have HMk := make_ints w n (by omega)
  have HO0 := Lib.hid (own_ints w n (by omega) (B := w.heap.size) (Nat.le_refl _))
  have HB0 := Lib.hid (below_b1 w (.cells (natV (List.replicate n 0)).toArray 3))
  have HK0 : Hid (natV (kdZ ks 0) = natV (List.replicate n 0)) := Lib.hid (by rw [kdZ_0, hkl])
  have HKL := Lib.hid hkl
  clear h hn hc hks hkl ht
  go_enter Tryz.func33, Tryz.ntmps33
  go_wp2_with fail
  -- MARK1
  go_loopw [13] (fun x13 wr => ∃ k : Nat, x13 = .int .i64 (k : Int) ∧ k ≤ n ∧ Hid (wr.ownsRow w.heap.size 3 1 (.slice (some ⟨w.heap.size, 0, none⟩) n n) n (natV (kdZ ks k))) ∧ Below w.heap.size w wr) (fun x13 _ => n - (intOf x13).toNat)
  case atStart => exact ⟨0, rfl, Nat.zero_le _, Lib.hid (by rw [HK0.out]; exact HO0.out), HB0.out⟩
  case round =>
    obtain ⟨k, rfl, hk, HO, hb⟩ := hrel
    have hk0 : (0 : Int) ≤ (k : Int) := Int.natCast_nonneg _
    by_cases hlt : k < n
    · obtain ⟨x, hx⟩ : ∃ x, p[k]? = some x := ⟨_, List.getElem?_eq_getElem (by rw [HN.out]; exact hlt)⟩
      obtain ⟨g, off, rfl, _, c0, c1, c2, c3, c4, c5, c6, c7⟩ := (HV.out wr hb).node hx
      have hk1 : (k : Int) < (n : Int) := by omega
      have HX := Lib.hid hx
      obtain ⟨S, hS⟩ : ∃ S, str x.s = S := ⟨_, rfl⟩
      obtain ⟨P, hP⟩ : ∃ S, str x.p = S := ⟨_, rfl⟩
      rw [hS] at c3
      rw [hP] at c4
      have HZ : Hid (x.c = ((x.c.toNat : Nat) : Int)) := Lib.hid (HKs.out k x hx)
      have hbx := World.alloc_heap_new wr (.cells #[.int .i64 x.k, .int .i64 x.c, .int .i64 x.n, .string S, .string P, .int .i64 x.f, .int .i64 x.t, .int .i64 x.o] 38)
      have HO1 : Hid ((wr.alloc (.cells #[.int .i64 x.k, .int .i64 x.c, .int .i64 x.n, .string S, .string P, .int .i64 x.f, .int .i64 x.t, .int .i64 x.o] 38)).ownsRow w.heap.size 3 1 (.slice (some ⟨w.heap.size, 0, none⟩) n n) n (natV (kdZ ks k))) := Lib.hid (HO.out.alloc _)
      have hba : Below w.heap.size w (wr.alloc (.cells #[.int .i64 x.k, .int .i64 x.c, .int .i64 x.n, .string S, .string P, .int .i64 x.f, .int .i64 x.t, .int .i64 x.o] 38)) := hb.alloc hb.size _
      have hfz := HO1.out.frozenAt k
      obtain ⟨z, hz⟩ : ∃ z, (kdZ ks k)[k]? = some z := ⟨_, List.getElem?_eq_getElem (by rw [kdZ_len ks (by rw [HKL.out]; exact hk), HKL.out]; exact hlt)⟩
      have hcz := own_cell HO1.out (natV_at hz)
      have HNx : Hid (natV ((kdZ ks k).set k x.c.toNat) = natV (kdZ ks (k + 1))) := Lib.hid (by rw [kdZ_set (HKA.out k x hx)])
      have HSt : Hid (((wr.alloc (.cells #[.int .i64 x.k, .int .i64 x.c, .int .i64 x.n, .string S, .string P, .int .i64 x.f, .int .i64 x.t, .int .i64 x.o] 38)).setCell ⟨w.heap.size, k, none⟩ (.int .i64 x.c)).ownsRow w.heap.size 3 1 (.slice (some ⟨w.heap.size, 0, none⟩) n n) n (natV (kdZ ks (k + 1)))) := Lib.hid (by
        have h1 := (HO1.out.stored k (.int .i64 x.c)).1
        rw [HZ.out, natV_set, HNx.out, ← HZ.out] at h1; exact h1)
      have HBS : Hid (Below w.heap.size w ((wr.alloc (.cells #[.int .i64 x.k, .int .i64 x.c, .int .i64 x.n, .string S, .string P, .int .i64 x.f, .int .i64 x.t, .int .i64 x.o] 38)).setCell ⟨w.heap.size, k, none⟩ (.int .i64 x.c))) := Lib.hid (hba.setCell (by show w.heap.size ≤ w.heap.size; exact Nat.le_refl _) _)
      clear hx hS hP hba hz
      go_wp2_with fail
      -- MARK2
      exact ⟨⟨k + 1, by go_num, by omega, HSt, HBS.out⟩, by simp [intOf]; omega⟩
    · obtain rfl : k = n := by omega
      have HR : Hid (IntRow wr (.slice (some ⟨w.heap.size, 0, none⟩) k k) (ks.map fun q : Nat => (q : Int))) := Lib.hid (by
        refine ⟨_, k, by rw [List.length_map, HKL.out], ?_⟩
        by_cases h0 : k = 0
        · left; rw [List.map_eq_nil_iff]; exact List.length_eq_zero_iff.1 (by rw [HKL.out, h0])
        · right
          refine ⟨w.heap.size, 0, rfl, ?_, fun j q hj => ?_⟩
          · rcases own_form HO.out with ⟨e, _⟩ | ⟨g, c, e, _, hg⟩
            · cases e
            · cases e; exact hg
          · have h1 := HO.out
            rw [← HKL.out, kdZ_end, HKL.out] at h1
            rw [List.getElem?_map] at hj
            cases hq : ks[j]? with
            | none => rw [hq] at hj; cases hj
            | some z =>
              rw [hq] at hj; cases hj
              rw [Nat.zero_add]
              exact own_cell h1 (natV_at hq))
      have CS := Lib.hid (Shape_own _ _ wr HR.out)
      go_wp2_with fail
      -- MARK3
      refine CS.out.mono ?_
      rintro e w3 ⟨r, rfl, h1, h2, h3⟩
      rw [HSh.out] at h1
      rw [HSh.out]
      have HR3 := Lib.hid h1
      have HB3 := Lib.hid (below_step hb h2)
      have HG3 := Lib.hid (fun g e => Nat.le_trans hb.size (h3 g e))
      clear h1 h2 h3
      go_wp2_with fail
      go_ret
      exact ⟨_, rfl, HR3.out, HB3.out, HG3.out⟩
theorem spots_mk (a : Option Addr) (n c : Nat) (w : World) :
    Calls Tryz.prog 22 #[.slice a n c] w fun e w' => e = .returned (.func (.func 32) #[] #[.pointer (some ⟨w.heap.size, 0, none⟩)]) ∧
      w' = w.alloc (.cells #[.slice a n c] 22) := by
  have hmf : ∀ (fn : Fn) (first cap : Array Value) (w : World), (Instr.makeFunc fn first cap).run Tryz.prog w = .ok (.func fn first cap) w := fun _ _ _ _ => rfl
  go_enter Tryz.func22, Tryz.ntmps22
  go_wp2
  go_ret
  exact ⟨rfl, rfl⟩
theorem ckL_hd (p : List Sx) : hdP p = if (ckL p).2 ≠ 0 then ckL p else match p with
  | [] => (0, 0)
  | x :: t => if x.c = 0 then (0, 6) else match t with
    | [] => (0, 0)
    | y :: _ => if y.k ≠ 3 then (1, 6) else (0, 0) := by
  unfold hdP ckL
  by_cases h : (chkX p).2 = 0
  · have h' : ¬ ((chkX p).2 ≠ 0) := fun e => e h
    simp only [if_neg h']
    cases p with
    | nil => rfl
    | cons x t =>
      by_cases hk : x.k = 4
      · have hk' : ¬ (x.k ≠ 4) := fun e => e hk
        simp only [if_neg hk', if_neg (show ¬ ((0 : Int) ≠ 0) from fun e => e rfl)]
        cases t <;> rfl
      · simp [hk]
  · simp only [if_pos (show (chkX p).2 ≠ 0 from h)]
set_option maxRecDepth 50000 in
set_option maxHeartbeats 1600000 in
theorem checkHead_any (v : Value) (l : List Sx) (w : World) (h : XsAt w v l) (hs : SmX l) (hi : InX l) (T : STabs w) :
    Calls Tryz.prog 25 #[v] w fun e w' => e = .returned (two64 (hdP l)) ∧ Below w.heap.size w w' := by
  have C := Lib.hid (checkList_any v l w h hs hi T)
  have HV := Lib.hid (fun W (hW : Below w.heap.size w W) => h.below hW (Nat.le_refl _))
  have HD := Lib.hid (ckL_hd l)
  have HP : Hid ((ckL l).2 = 0 → (chkX l).2 = 0) := Lib.hid fun h0 => by
    unfold ckL at h0
    by_cases h1 : (chkX l).2 = 0
    · exact h1
    · rw [if_pos h1] at h0; exact h0
  obtain ⟨⟨r1, r2⟩, hr⟩ : ∃ r, ckL l = r := ⟨_, rfl⟩
  rw [hr] at C HD HP
  unfold two64 at C
  simp only at C HD HP
  obtain ⟨va, vc, rfl, hc⟩ := h.slice
  obtain ⟨n, hn⟩ : ∃ n, l.length = n := ⟨_, rfl⟩
  by_cases h0 : r2 = 0
  · subst h0
    have hck := HP.out rfl
    have hne : l ≠ [] := (chkX_tree hck).2.1
    obtain ⟨x, t, rfl⟩ := List.exists_cons_of_ne_nil hne
    have hxc := chkX_kids hck x (by simp)
    have htr := (chkX_tree hck).1
    have hn1 : (0 : Int) < (n : Int) := by have : 0 < n := by rw [← hn]; simp
                                           omega
    rw [if_neg (by simp)] at HD
    simp only at HD
    by_cases hc0 : x.c = 0
    · rw [if_pos hc0] at HD
      have hcx : (x.c == 0) = true := by simp [hc0]
      obtain ⟨R, hR⟩ : ∃ R, hdP (x :: t) = R := ⟨_, rfl⟩
      rw [hR] at HD ⊢
      rw [hn] at C HV hc ⊢
      clear h hs hi T hr hne hn hR HP hck htr hxc
      go_enter Tryz.func25, Tryz.ntmps25
      go_wp2_with fail
      refine C.out.mono ?_
      rintro e w1 ⟨rfl, hb1⟩
      obtain ⟨g, off, rfl, _, _, c1, _⟩ := (HV.out w1 hb1).node (k := 0) (x := x) rfl
      rw [Nat.zero_mul, Nat.add_zero] at c1
      go_wp2_with fail
      go_ret2
      exact ⟨by rw [HD.out]; rfl, hb1⟩
    · rw [if_neg hc0] at HD
      have hcx : (x.c == 0) = false := by simp [hc0]
      cases t with
      | nil =>
        exfalso
        have hq : ∃ q : Nat, x.c.toNat = q + 1 := ⟨x.c.toNat - 1, by omega⟩
        obtain ⟨q, hq⟩ := hq
        have h2 : eat [x.c.toNat] 1 = some [] := htr
        rw [hq] at h2
        simp [eat] at h2
      | cons y t =>
        simp only at HD
        have hn2 : (1 : Int) < (n : Int) := by have : 1 < n := by rw [← hn]; simp
                                               omega
        by_cases hy : y.k = 3
        · have hky : (y.k != 3) = false := by simp [hy]
          have HD2 : Hid (hdP (x :: y :: t) = (0, 0)) := Lib.hid (by rw [HD.out, if_neg (by simpa using hy)])
          obtain ⟨R, hR⟩ : ∃ R, hdP (x :: y :: t) = R := ⟨_, rfl⟩
          rw [hR] at HD2 ⊢
          rw [hn] at C HV hc ⊢
          clear h hs hi T hr hne hn hR HP hck htr hxc HD
          go_enter Tryz.func25, Tryz.ntmps25
          go_wp2_with fail
          refine C.out.mono ?_
          rintro e w1 ⟨rfl, hb1⟩
          obtain ⟨g, off, rfl, _, _, c1, _⟩ := (HV.out w1 hb1).node (k := 0) (x := x) rfl
          obtain ⟨g', off', e', _, d0, _⟩ := (HV.out w1 hb1).node (k := 1) (x := y) rfl
          cases e'
          rw [Nat.zero_mul, Nat.add_zero] at c1
          rw [Nat.one_mul] at d0
          go_wp2_with fail
          go_ret2
          exact ⟨by rw [HD2.out]; rfl, hb1⟩
        · have hky : (y.k != 3) = true := by simp [hy]
          have HD2 : Hid (hdP (x :: y :: t) = (1, 6)) := Lib.hid (by rw [HD.out, if_pos hy])
          obtain ⟨R, hR⟩ : ∃ R, hdP (x :: y :: t) = R := ⟨_, rfl⟩
          rw [hR] at HD2 ⊢
          rw [hn] at C HV hc ⊢
          clear h hs hi T hr hne hn hR HP hck htr hxc HD
          go_enter Tryz.func25, Tryz.ntmps25
          go_wp2_with fail
          refine C.out.mono ?_
          rintro e w1 ⟨rfl, hb1⟩
          obtain ⟨g, off, rfl, _, _, c1, _⟩ := (HV.out w1 hb1).node (k := 0) (x := x) rfl
          obtain ⟨g', off', e', _, d0, _⟩ := (HV.out w1 hb1).node (k := 1) (x := y) rfl
          cases e'
          rw [Nat.zero_mul, Nat.add_zero] at c1
          rw [Nat.one_mul] at d0
          go_wp2_with fail
          go_ret2
          exact ⟨by rw [HD2.out]; rfl, hb1⟩
  · rw [if_pos h0] at HD
    have hne : (r2 != 0) = true := bne_iff_ne.2 h0
    obtain ⟨R, hR⟩ : ∃ R, hdP l = R := ⟨_, rfl⟩
    rw [hR] at HD ⊢
    rw [hn] at C hc ⊢
    clear h hs hi T hr HV hR HP hn
    go_enter Tryz.func25, Tryz.ntmps25
    go_wp2_with fail
    refine C.out.mono ?_
    rintro e w1 ⟨rfl, hb1⟩
    go_wp2_with fail
    go_ret2
    exact ⟨by rw [HD.out]; rfl, hb1⟩
-- MARK9
end Go.Proofs.YtdiinlmeoifgjaaGreatDoor
