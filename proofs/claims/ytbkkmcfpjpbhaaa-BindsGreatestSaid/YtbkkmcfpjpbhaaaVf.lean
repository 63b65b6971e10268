/- binds.greatest, its closure, resolve. -/
import Derived.Test.YtbkkmcfpjpbhaaaVe
namespace Go.Proofs.Ytbkkmcfpjpbhaaa
open Go.RowKit Go.PlainAid

theorem below_drew {w w2 : World} (h : Below w.drew.heap.size w.drew w2) : Below w.heap.size w w2 := (Below.drew (Below.refl _ w)).trans h
set_option maxRecDepth 100000 in
set_option maxHeartbeats 3200000 in
theorem closB_any (g0 : Nat) (v : Value) (T : List Bd) (i k : Nat) (x y : Bd) (w : World) (hb0 : w.cell? ⟨g0, 0, none⟩ = some v) (hg0 : g0 < w.heap.size) (h : BsAt w v T) (hs : SmB T) (hx : T[i]? = some x) (hy : T[k]? = some y) :
    Calls Try.prog 49 #[.int .i64 (i : Int), .int .i64 (k : Int), .pointer (some ⟨g0, 0, none⟩)] w fun e w' => e = .returned (.bool (subB x.s y.s)) ∧ Below w.heap.size w w' := by
  have CW := Lib.hid (fun W => withinB_any x.s y.s W (hs x (List.mem_of_getElem? hx)).2 (hs y (List.mem_of_getElem? hy)).2)
  obtain ⟨a, c, rfl, hc⟩ := h.slice
  obtain ⟨n, hn⟩ : ∃ n, T.length = n := ⟨_, rfl⟩
  rw [hn] at hb0 h hc
  have hi1 : (i : Int) < (n : Int) := by have := (List.getElem?_eq_some_iff.1 hx).1; omega
  have hk1 : (k : Int) < (n : Int) := by have := (List.getElem?_eq_some_iff.1 hy).1; omega
  have hi0 : (0 : Int) ≤ (i : Int) := Int.natCast_nonneg _
  have hk0 : (0 : Int) ≤ (k : Int) := Int.natCast_nonneg _
  obtain ⟨g, off, rfl, hg, _, a1, _, _⟩ := h.node hx
  obtain ⟨g', off', e', hg', _, b1, _, _⟩ := h.node hy
  obtain ⟨rfl, rfl⟩ : g = g' ∧ off = off' := by have := Option.some.inj e'; injection this with h1 h2; exact ⟨h1, h2⟩
  obtain ⟨b, hbv⟩ : ∃ b, subB x.s y.s = b := ⟨_, rfl⟩
  obtain ⟨X, hX⟩ : ∃ X, str x.s = X := ⟨_, rfl⟩
  obtain ⟨Y, hY⟩ : ∃ Y, str y.s = Y := ⟨_, rfl⟩
  rw [hbv, hX, hY] at CW
  rw [hX] at a1
  rw [hY] at b1
  rw [hbv]
  clear h hs hx hy hn hbv hX hY e' hg' hc
  go_enter Try.func49, Try.ntmps49
  go_wp2
  -- MARK1
  go_region_held3 (fun w' => w'.cell? ⟨g0, 0, none⟩ = some (.slice (some ⟨g, off, none⟩) n c) ∧ w'.cell? ⟨g, off + i * 4 + 1, none⟩ = some (.string X) ∧ w'.cell? ⟨g, off + k * 4 + 1, none⟩ = some (.string Y)) (go_keep) (first | (go_at_call 47; refine (CW.out _).mono ?_; rintro e w2 ⟨rfl, hb2⟩; have z0 := (hb2.cell (p := ⟨g0, 0, none⟩) hg0).trans hb0; have z1 := (hb2.cell (p := ⟨g, off + i * 4 + 1, none⟩) hg).trans a1; have z2 := (hb2.cell (p := ⟨g, off + k * 4 + 1, none⟩) hg).trans b1))
  -- MARK2
  go_wp2
  go_ret
  exact ⟨rfl, below_drew hb2⟩
theorem NatAt.nth {w : World} {a : Option Addr} {n c : Nat} {l : List Nat} (h : NatAt w (.slice a n c) l) {k x : Nat} (hk : l[k]? = some x) :
    ∃ g off, a = some ⟨g, off, none⟩ ∧ g < w.heap.size ∧ w.cell? ⟨g, off + k, none⟩ = some (.int .i64 (x : Int)) := by
  obtain ⟨a', n', c', e, hn, hc, h⟩ := h
  obtain ⟨rfl, rfl, rfl⟩ := Value.slice.inj e
  rcases h with rfl | ⟨g, off, rfl, hg, hcell⟩
  · simp at hk
  · exact ⟨g, off, rfl, hg, hcell k x hk⟩
theorem NatAt.slice {w : World} {v : Value} {l : List Nat} (h : NatAt w v l) : ∃ a c, v = .slice a l.length c ∧ l.length ≤ c := by
  obtain ⟨a, n, c, e, hn, hc, _⟩ := h
  subst hn; exact ⟨a, c, e, hc⟩
theorem topG_take {R : Nat → Nat → Bool} {l : List Nat} {k x t : Nat} (h : l[k]? = some x) : topG R t (l.take (k + 1)) = if R (topG R t (l.take k)) x then x else topG R t (l.take k) := by
  rw [List.take_add_one, h]; exact topG_snoc R x _ t
set_option maxRecDepth 100000 in
set_option maxHeartbeats 3200000 in
theorem greatest_any (v : Value) (l : List Nat) (t0 : Nat) (R : Nat → Nat → Bool) (p : Value) (w : World) (h : NatAt w v l) (h0 : l[0]? = some t0) (hl : l.length ≤ 2000)
    (HC : Hid (∀ W, Below w.heap.size w W → ∀ i ∈ l, ∀ k ∈ l, Calls Try.prog 49 #[.int .i64 (i : Int), .int .i64 (k : Int), p] W fun e w' => e = .returned (.bool (R i k)) ∧ Below W.heap.size W w')) :
    Calls Try.prog 48 #[v, .func (.func 49) #[] #[p]] w fun e w' =>
      e = .returned (.tuple (if topB R l (topG R t0 l) then #[.int .i64 ((topG R t0 l : Nat) : Int), .bool true] else #[.int .i64 0, .bool false])) ∧ Below w.heap.size w w' := by
  have HV := Lib.hid (fun W (hW : Below w.heap.size w W) => h.below hW (Nat.le_refl _))
  obtain ⟨a, c, rfl, hc⟩ := h.slice
  obtain ⟨n, hn⟩ : ∃ n, l.length = n := ⟨_, rfl⟩
  have HN := Lib.hid hn
  have HM0 := Lib.hid (List.mem_of_getElem? h0)
  rw [hn] at HV h hl hc ⊢
  obtain ⟨g, off, rfl, hg, c0⟩ := h.nth h0
  rw [Nat.add_zero] at c0
  have hn0 : 0 < n := by have := (List.getElem?_eq_some_iff.1 h0).1; omega
  have hn0i : (0 : Int) < (n : Int) := by omega
  obtain ⟨t, ht⟩ : ∃ t, topG R t0 l = t := ⟨_, rfl⟩
  have HT := Lib.hid ht
  rw [ht]
  have HR1 : Hid (topB R l t = true → Value.tuple (if topB R l t then #[.int .i64 (t : Int), .bool true] else #[.int .i64 0, .bool false]) = .tuple #[.int .i64 (t : Int), .bool true]) := Lib.hid fun e => by rw [if_pos e]
  have HR2 : Hid (topB R l t = false → Value.tuple (if topB R l t then #[.int .i64 (t : Int), .bool true] else #[.int .i64 0, .bool false]) = .tuple #[.int .i64 0, .bool false]) := Lib.hid fun e => by rw [if_neg (by rw [e]; simp)]
  obtain ⟨RV, hRV⟩ : ∃ RV, Value.tuple (if topB R l t then #[.int .i64 (t : Int), .bool true] else #[.int .i64 0, .bool false]) = RV := ⟨_, rfl⟩
  rw [hRV] at HR1 HR2 ⊢
  clear h h0 hn ht hRV
  go_enter Try.func48, Try.ntmps48
  go_wp2_with fail
  -- MARK1
  go_loopw [4, 16] (fun x4 x16 wr => ∃ (k q : Nat), x4 = .int .i64 (q : Int) ∧ x16 = .int .i64 (k : Int) ∧ k ≤ n ∧ Hid (topG R t0 (l.take k) = q) ∧ Below w.heap.size w wr) (fun _ x16 _ => n - (intOf x16).toNat)
  case atStart => exact ⟨0, t0, rfl, rfl, Nat.zero_le _, Lib.hid (by rw [List.take_zero]; rfl), Below.refl _ _⟩
  case round =>
    obtain ⟨k, q, rfl, rfl, hk, HQ, hb⟩ := hrel
    have hk0 : (0 : Int) ≤ (k : Int) := Int.natCast_nonneg _
    have HQm : Hid (q ∈ l) := Lib.hid (by rw [← HQ.out]; exact topG_mem R _ _ _ HM0.out fun x hx => List.mem_of_mem_take hx)
    by_cases hlt : k < n
    · obtain ⟨x, hx⟩ : ∃ x, l[k]? = some x := ⟨_, List.getElem?_eq_getElem (by rw [HN.out]; exact hlt)⟩
      obtain ⟨g', off', e', _, d0⟩ := (HV.out wr hb).nth hx
      obtain ⟨rfl, rfl⟩ : g = g' ∧ off = off' := by have := Option.some.inj e'; injection this with h1 h2; exact ⟨h1, h2⟩
      have CX := Lib.hid (HC.out wr hb q HQm.out x (List.mem_of_getElem? hx))
      have HT1 := Lib.hid (topG_take (R := R) (t := t0) hx)
      have hk1 : (k : Int) < (n : Int) := by omega
      obtain ⟨b, hbv⟩ : ∃ b, R q x = b := ⟨_, rfl⟩
      rw [hbv] at CX
      rw [HQ.out, hbv] at HT1
      clear hx e' hbv
      go_wp2_with fail
      -- MARK2
      refine CX.out.mono ?_
      rintro e w1 ⟨rfl, hb1⟩
      have hbw1 := below_step hb hb1
      cases b
      · go_wp2_with fail
        exact ⟨⟨k + 1, q, rfl, by go_num, by omega, Lib.hid (by rw [HT1.out]; rfl), hbw1⟩, by simp [intOf]; omega⟩
      · go_wp2_with fail
        exact ⟨⟨k + 1, x, rfl, by go_num, by omega, Lib.hid (by rw [HT1.out]; rfl), hbw1⟩, by simp [intOf]; omega⟩
    · obtain rfl : k = n := by omega
      have hqt : q = t := by rw [← HQ.out, ← HT.out, List.take_of_length_le (by rw [HN.out]; exact Nat.le_refl _)]
      subst hqt
      clear HQ HT hk0 hk
      go_wp2_with fail
      -- MARK3
      go_loopw [4, 28] (fun x4 x28 wr => ∃ (j : Nat), x4 = .int .i64 (q : Int) ∧ x28 = .int .i64 (j : Int) ∧ j ≤ k ∧ Hid (∀ i x, i < j → l[i]? = some x → R x q = true) ∧ Below w.heap.size w wr) (fun _ x28 _ => k - (intOf x28).toNat)
      case atStart => exact ⟨0, rfl, rfl, Nat.zero_le _, Lib.hid (fun i x h => by omega), hb⟩
      case round =>
        obtain ⟨j, rfl, rfl, hj, HA, hb2⟩ := hrel
        have hj0 : (0 : Int) ≤ (j : Int) := Int.natCast_nonneg _
        by_cases hlt : j < k
        · obtain ⟨x, hx⟩ : ∃ x, l[j]? = some x := ⟨_, List.getElem?_eq_getElem (by rw [HN.out]; exact hlt)⟩
          obtain ⟨g', off', e', _, d0⟩ := (HV.out _ hb2).nth hx
          obtain ⟨rfl, rfl⟩ : g = g' ∧ off = off' := by have := Option.some.inj e'; injection this with h1 h2; exact ⟨h1, h2⟩
          have HXm := Lib.hid (List.mem_of_getElem? hx)
          have CX := Lib.hid (HC.out _ hb2 x HXm.out q HQm.out)
          have HX := Lib.hid hx
          have hj1 : (j : Int) < (k : Int) := by omega
          obtain ⟨b, hbv⟩ : ∃ b, R x q = b := ⟨_, rfl⟩
          have HBV := Lib.hid hbv
          rw [hbv] at CX
          clear hx e' hbv
          -- MARK4
          go_wp2_with fail
          -- MARK5
          refine CX.out.mono ?_
          rintro e w1 ⟨rfl, hb1⟩
          have hbw1 := below_step hb2 hb1
          cases b
          · have HF : Hid (topB R l q = false) := Lib.hid (by
              unfold topB
              rw [List.all_eq_false]
              exact ⟨x, HXm.out, by rw [HBV.out]; simp⟩)
            -- MARK6
            go_wp2_with fail
            go_ret2
            exact ⟨by rw [HR2.out HF.out]; rfl, hbw1⟩
          · have HA2 : Hid (∀ i y, i < j + 1 → l[i]? = some y → R y q = true) := Lib.hid (fun i y hi hy => by
              by_cases e : i = j
              · rw [e, HX.out] at hy; rw [← Option.some.inj hy]; exact HBV.out
              · exact HA.out i y (by omega) hy)
            go_wp2_with fail
            exact ⟨⟨j + 1, rfl, by go_num, by omega, HA2, hbw1⟩, by simp [intOf]; omega⟩
        · obtain rfl : j = k := by omega
          have HF : Hid (topB R l q = true) := Lib.hid (by
            unfold topB
            rw [List.all_eq_true]
            intro x hx
            obtain ⟨i, hi⟩ := List.mem_iff_getElem?.1 hx
            exact HA.out i x (by have := (List.getElem?_eq_some_iff.1 hi).1; have := HN.out; omega) hi)
          go_wp2_with fail
          go_ret2
          exact ⟨by rw [HR1.out HF.out]; rfl, hb2⟩
def resV (r : Nat × Int) : Value := .tuple #[.int .i64 (r.1 : Int), .int .i64 r.2]
set_option maxRecDepth 100000 in
set_option maxHeartbeats 3200000 in
theorem resolve_any (v : Value) (T : List Bd) (n s : List UInt8) (w : World) (h : BsAt w v T) (hs : SmB T) (ho : OkB T) (hs2 : s.length ≤ 100000) :
    Calls Try.prog 38 #[v, .string (str n), .string (str s)] w fun e w' => e = .returned (resV (resB T n s)) ∧ Below w.heap.size w w' := by
  have hl : T.length ≤ 2000 := by have := ho.few; omega
  obtain ⟨W0, hW0⟩ : ∃ W0, W0 = w.alloc (.cells #[v] 22) := ⟨_, rfl⟩
  have hb0 : Below w.heap.size w W0 := by rw [hW0]; exact below_b1 _ _
  have hx0 : W0.heap[w.heap.size]? = some (.cells #[v] 22 (0, 0)) := by rw [hW0]; exact World.alloc_heap_new _ _
  have hz0 : w.heap.size < W0.heap.size := by rw [hW0, World.size_alloc]; omega
  have hc0 : W0.cell? ⟨w.heap.size, 0, none⟩ = some v := by simp [World.cell?, hx0]
  have h0 : BsAt W0 v T := h.below hb0 (Nat.le_refl _)
  have CC := Lib.hid (cands_any v T n s W0 h0 hs hl hs2)
  have HCl : Hid (∀ W, Below W0.heap.size W0 W → ∀ i ∈ candB T n s, ∀ k ∈ candB T n s, Calls Try.prog 49 #[.int .i64 (i : Int), .int .i64 (k : Int), .pointer (some ⟨w.heap.size, 0, none⟩)] W fun e w' => e = .returned (.bool (relB T i k)) ∧ Below W.heap.size W w') := Lib.hid fun W hW i hi k hk => by
    obtain ⟨x, hx, _⟩ := mem_cand.1 hi
    obtain ⟨y, hy, _⟩ := mem_cand.1 hk
    have := closB_any w.heap.size v T i k x y W ((hW.cell (p := ⟨w.heap.size, 0, none⟩) hz0).trans hc0) (Nat.lt_of_lt_of_le hz0 hW.size) (h0.below hW (Nat.le_refl _)) hs hx hy
    unfold relB
    rw [setAt_at hx, setAt_at hy]; exact this
  have HR0 : Hid (candB T n s = [] → resB T n s = (0, 10)) := Lib.hid res_none
  have HR1 : Hid (∀ t, t ∈ candB T n s → resB T n s = if topB (relB T) (candB T n s) (topG (relB T) t (candB T n s)) then (topG (relB T) t (candB T n s), 0) else (0, 11)) := Lib.hid fun t ht => res_top ho ht
  have HLn : Hid ((candB T n s).length ≤ 2000) := Lib.hid (Nat.le_trans (candG_len T n s _) hl)
  obtain ⟨C, hC⟩ : ∃ C, candB T n s = C := ⟨_, rfl⟩
  obtain ⟨r, hr⟩ : ∃ r, resB T n s = r := ⟨_, rfl⟩
  rw [hC] at CC HCl HR0 HR1 HLn
  rw [hr] at HR0 HR1
  rw [hr]
  obtain ⟨NN, hNN⟩ : ∃ NN, str n = NN := ⟨_, rfl⟩
  obtain ⟨SS, hSS⟩ : ∃ SS, str s = SS := ⟨_, rfl⟩
  rw [hNN, hSS] at CC
  rw [hNN, hSS]
  have HB0 := Lib.hid hb0
  obtain ⟨a0, c0, hv, _⟩ := h.slice
  obtain ⟨n0, hn0⟩ : ∃ n0, T.length = n0 := ⟨_, rfl⟩
  rw [hn0] at hv
  subst hv
  clear h h0 hs ho hs2 hl hC hr hNN hSS hx0 hz0 hb0 hn0
  go_enter Try.func38, Try.ntmps38
  go_wp2_with fail
  -- MARK1
  refine (show Calls _ _ _ _ _ from (by rw [← hW0]; exact CC.out)).mono ?_
  rintro e w1 ⟨va, rfl, HO, hb1⟩
  have hbw1 : Below w.heap.size w w1 := HB0.out.trans (hb1.mono HB0.out.size)
  obtain ⟨av, cv, rfl⟩ := own_len HO.out
  have HNt := Lib.hid (nat_own HO.out rfl)
  cases hCe : C with
  | nil =>
    have HE := HR0.out hCe
    subst HE
    rw [List.length_nil]
    clear hCe
    go_wp2_with fail
    -- MARK2
    go_ret2
    exact ⟨rfl, hbw1⟩
  | cons t0 C' =>
    have HE := Lib.hid (HR1.out t0 (by rw [hCe]; exact List.mem_cons_self ..))
    have CG := Lib.hid (greatest_any _ C t0 (relB T) (.pointer (some ⟨w.heap.size, 0, none⟩)) w1 HNt.out (by rw [hCe]; rfl) HLn.out (Lib.hid fun W hW i hi k hk => HCl.out W (hb1.trans (hW.mono hb1.size)) i hi k hk))
    obtain ⟨q, hq⟩ : ∃ q, topG (relB T) t0 C = q := ⟨_, rfl⟩
    rw [hq] at CG HE
    obtain ⟨b, hb⟩ : ∃ b, topB (relB T) C q = b := ⟨_, rfl⟩
    rw [hb] at CG HE
    have hln : 0 < C.length := by rw [hCe]; exact Nat.zero_lt_succ _
    rw [← hCe]
    obtain ⟨m, hm⟩ : ∃ m, C.length = m := ⟨_, rfl⟩
    rw [hm] at CG hln
    rw [hm]
    clear hCe hq hb hm
    have hmz : ((m : Int) == 0) = false := by rw [beq_eq_false_iff_ne]; omega
    cases b
    · go_wp2_with fail
      -- MARK3
      refine CG.out.mono ?_
      rintro e w2 ⟨rfl, hb2⟩
      go_wp2_with fail
      go_ret2
      exact ⟨by rw [HE.out]; rfl, below_step hbw1 hb2⟩
    · go_wp2_with fail
      refine CG.out.mono ?_
      rintro e w2 ⟨rfl, hb2⟩
      go_wp2_with fail
      -- MARK4
      go_ret2
      exact ⟨by rw [HE.out]; rfl, below_step hbw1 hb2⟩
-- MARK9
end Go.Proofs.Ytbkkmcfpjpbhaaa
