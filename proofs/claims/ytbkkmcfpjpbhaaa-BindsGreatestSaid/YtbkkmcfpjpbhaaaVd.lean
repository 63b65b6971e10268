/- binds.Check. -/
import Derived.Test.YtbkkmcfpjpbhaaaVc
import Derived.Carry
namespace Go.Proofs.Ytbkkmcfpjpbhaaa
open Go.RowKit Go.PlainAid

/-- The names and sets of the first bindings. -/
def keysB (T : List Bd) (k : Nat) : List (List UInt8 × List UInt8) := (T.take k).map fun x => (x.n, x.s)
theorem keysB_succ {T : List Bd} {k : Nat} {x : Bd} (h : T[k]? = some x) : keysB T (k + 1) = keysB T k ++ [(x.n, x.s)] := by
  unfold keysB
  rw [List.take_add_one, h, List.map_append]; rfl
theorem keysB_mem {T : List Bd} {k : Nat} {x : Bd} : (x.n, x.s) ∈ keysB T k ↔ dupB T k x := by
  unfold keysB dupB
  rw [List.mem_map]
  constructor
  · rintro ⟨y, hy, e⟩
    exact ⟨y, hy, (Prod.mk.inj e).1, (Prod.mk.inj e).2⟩
  · rintro ⟨y, hy, e1, e2⟩
    exact ⟨y, hy, by rw [e1, e2]⟩
theorem keysB_sm {T : List Bd} (h : SmB T) (k : Nat) : SmL (keysB T k) := by
  intro q hq
  unfold keysB at hq
  obtain ⟨x, hx, rfl⟩ := List.mem_map.1 hq
  exact h x (List.mem_of_mem_take hx)
def chkV (T : List Bd) : Value := .tuple #[.int .i64 (chkB T).1, .int .i64 (chkB T).2]
set_option maxRecDepth 100000 in
set_option maxHeartbeats 3200000 in
theorem bcheck_any (v : Value) (T : List Bd) (w : World) (h : BsAt w v T) (hs : SmB T) :
    Calls Try.prog 12 #[v] w fun e w' => e = .returned (chkV T) ∧ Below w.heap.size w w' := by
  have HV := Lib.hid (fun W (hW : Below w.heap.size w W) => h.below hW (Nat.le_refl _))
  obtain ⟨a, c, rfl, hc⟩ := h.slice
  obtain ⟨n, hn⟩ : ∃ n, T.length = n := ⟨_, rfl⟩
  have HN := Lib.hid hn
  rw [hn] at HV hc ⊢
  have HE : Hid (∀ r, chkB T = r → chkV T = .tuple #[.int .i64 r.1, .int .i64 r.2]) := Lib.hid fun r hr => by unfold chkV; rw [hr]
  by_cases h1 : 1000 < n
  · have HW := Lib.hid (HE.out _ (chkB_long (by omega : 1000 < T.length)))
    have d0 : decide ((1000 : Int) < (n : Int)) = true := decide_eq_true (by omega)
    clear h hn hs h1 HN HE HV
    go_enter Try.func12, Try.ntmps12
    go_wp2
    go_ret2
    exact ⟨by rw [HW.out]; rfl, Below.refl _ _⟩
  have d0 : decide ((1000 : Int) < (n : Int)) = false := decide_eq_false (by omega)
  have CB := Lib.hid (fun x (hx : x ∈ T) W => checkBind_any x W (hs x hx).2)
  have HKS := Lib.hid (keysB_sm hs)
  have HS := Lib.hid hs
  have hn1 : n ≤ 1000 := by omega
  have HM0 : Hid (MapB (w.alloc (.map #[] 0)) w.heap.size (keysB T 0)) := Lib.hid (mapB_made w)
  have hmk : ∀ W, (Instr.makeMap 57 none).run Try.prog W = .ok (.map (some W.heap.size)) (W.alloc (.map #[] 0)) := fun W => by
    simp [Instr.makeMap, Result.andThen]
  clear h hn hs h1
  go_enter Try.func12, Try.ntmps12
  go_wp2_with fail
  -- MARK1
  go_loopw [15] (fun x15 wr => ∃ k : Nat, x15 = .int .i64 (k : Int) ∧ k ≤ n ∧ Hid (∀ j, j < k → wrgB T j = false) ∧ Hid (MapB wr w.heap.size (keysB T k)) ∧ Below w.heap.size w wr) (fun x15 _ => n - (intOf x15).toNat)
  case atStart => exact ⟨0, rfl, Nat.zero_le _, Lib.hid (fun j hj => by omega), HM0, below_b1 _ _⟩
  case round =>
    obtain ⟨k, rfl, hk, HB, HM, hb⟩ := hrel
    have hk0 : (0 : Int) ≤ (k : Int) := Int.natCast_nonneg _
    by_cases hlt : k < n
    · obtain ⟨x, hx⟩ : ∃ x, T[k]? = some x := ⟨_, List.getElem?_eq_getElem (by rw [HN.out]; exact hlt)⟩
      obtain ⟨g, off, rfl, hg, c0, c1, c2, c3⟩ := (HV.out wr hb).node hx
      have hxm := List.mem_of_getElem? hx
      have HX := Lib.hid hx
      have HSx := Lib.hid (HS.out x hxm)
      have CX := Lib.hid (CB.out x hxm)
      have HK1 := Lib.hid (keysB_succ hx)
      have HMe := Lib.hid (keysB_mem (T := T) (k := k) (x := x))
      have HBk := Lib.hid (wrgB_at hx)
      have HBad := Lib.hid (fun h => chkB_bad (T := T) (k := k) (x := x) (by rw [HN.out]; exact hn1) hx h HB.out)
      have hk1 : (k : Int) < (n : Int) := by omega
      obtain ⟨xn, xs, xp, xr⟩ := x
      obtain ⟨N, hN⟩ : ∃ N, str xn = N := ⟨_, rfl⟩
      obtain ⟨S, hS⟩ : ∃ S, str xs = S := ⟨_, rfl⟩
      simp only at c0 c1 c2 c3
      have CX2 : Hid (∀ W, Calls Try.prog 31 #[.agg #[.string N, .string S, .int .i64 xp, .int .i64 xr]] W fun e w' => e = .returned (.int .i64 (oneB ⟨xn, xs, xp, xr⟩)) ∧ Below W.heap.size W w') := Lib.hid fun W => by
        rw [← hN, ← hS]; exact CX.out W
      rw [hN] at c0
      rw [hS] at c1
      have hbx := World.alloc_heap_new wr (.cells #[.string N, .string S, .int .i64 xp, .int .i64 xr] 24)
      have hba : Below w.heap.size w (wr.alloc (.cells #[.string N, .string S, .int .i64 xp, .int .i64 xr] 24)) := hb.alloc hb.size _
      have hmw : w.heap.size < wr.heap.size := HM.out.lt
      clear hx hxm CX CB
      go_wp2_with fail
      -- MARK2
      refine (CX2.out _).mono ?_
      rintro e w1 ⟨rfl, hb1⟩
      have hs1 : wr.heap.size < w1.heap.size := Nat.lt_of_lt_of_le (by rw [World.size_alloc]; omega) hb1.size
      have hbx1 := (hb1.block wr.heap.size (by rw [World.size_alloc]; omega)).trans hbx
      obtain ⟨q0, q1, q2, q3⟩ := box4_facts hbx1
      have hbw1 : Below w.heap.size w w1 := hba.trans (hb1.mono hba.size)
      have HM1 : Hid (MapB w1 w.heap.size (keysB T k)) := Lib.hid ((HM.out.below (below_b1 wr _) hmw).below hb1 (by rw [World.size_alloc]; omega))
      obtain ⟨ce, hce⟩ : ∃ ce, oneB ⟨xn, xs, xp, xr⟩ = ce := ⟨_, rfl⟩
      have HCE := Lib.hid hce
      rw [hce]
      clear hbx hbx1 hce
      by_cases h0 : ce = 0
      · subst h0
        obtain ⟨W2, hW2⟩ : ∃ W2, w1.alloc (.cells #[.string N, .string S] 60) = W2 := ⟨_, rfl⟩
        have hb2 : Below w1.heap.size w1 W2 := by rw [← hW2]; exact below_b1 _ _
        have hbw2 : Below w.heap.size w W2 := hbw1.trans (hb2.mono hbw1.size)
        have hs2 : w1.heap.size < W2.heap.size := by rw [← hW2, World.size_alloc]; omega
        have HM2 : Hid (MapB W2 w.heap.size (keysB T k)) := Lib.hid (HM1.out.below hb2 (by omega))
        have hy := World.alloc_heap_new w1 (.cells #[.string N, .string S] 60)
        rw [hW2] at hy
        have z0 : W2.cell? ⟨w1.heap.size, 0, none⟩ = some (.string N) := by simp [World.cell?, hy]
        have z1 : W2.cell? ⟨w1.heap.size, 1, none⟩ = some (.string S) := by simp [World.cell?, hy]
        have hlk := look_map HM2.out (HKS.out k) (xn, xs) HSx.out.1 HSx.out.2
        have hkv : keyV (xn, xs) = .agg #[.string N, .string S] := by unfold keyV; simp only; rw [hN, hS]
        rw [hkv] at hlk
        by_cases hd : dupB T k ⟨xn, xs, xp, xr⟩
        · rw [decide_eq_true (HMe.out.2 hd)] at hlk
          have HW : Hid (chkV T = .tuple #[.int .i64 (k : Int), .int .i64 8]) := Lib.hid (HE.out _ ((HBad.out (by rw [errB_dup HCE.out hd]; decide)).trans (by rw [errB_dup HCE.out hd])))
          clear hd
          clear hy
          go_wp2_with fail
          -- MARK3
          go_ret2
          exact ⟨by rw [HW.out]; rfl, hbw2⟩
        · rw [decide_eq_false (fun h => hd (HMe.out.1 h))] at hlk
          have HBs : Hid (∀ j, j < k + 1 → wrgB T j = false) := Lib.hid (upto_succ HB.out (by rw [HBk.out, errB_ok HCE.out hd]; rfl))
          have HQ := Lib.hid (fun h => hd (HMe.out.1 h))
          clear hy hd
          go_wp2_with (first | (at_mapUpdate; refine wpList_put_map _ rfl _ _ _ _ rfl rfl w.heap.size (keysB T k) rfl HM2.out (HKS.out k) (xn, xs) HSx.out.1 HSx.out.2 HQ.out (by unfold keyV; simp only; rw [hN, hS]; rfl) rfl ?_; intro w3 hm3 hg3; rw [← HK1.out] at hm3; have HM3 := Lib.hid hm3; have hb3 : Below w.heap.size w w3 := hbw2.grown hg3 hbw2.size (fun q hq => by cases hq; exact Nat.le_refl _); clear hm3 hg3) | fail)
          -- MARK4
          exact ⟨⟨k + 1, by go_num, by omega, HBs, HM3, hb3⟩, by simp [intOf]; omega⟩
      · have hne : (ce != 0) = true := bne_iff_ne.2 h0
        have he1 : errB T k ⟨xn, xs, xp, xr⟩ = ce := by rw [errB_one (by rw [HCE.out]; exact h0), HCE.out]
        have HW : Hid (chkV T = .tuple #[.int .i64 (k : Int), .int .i64 ce]) := Lib.hid (HE.out _ ((HBad.out (by rw [he1]; exact h0)).trans (by rw [he1])))
        clear he1
        go_wp2_with fail
        go_ret2
        exact ⟨by rw [HW.out]; rfl, hbw1⟩
    · obtain rfl : k = n := by omega
      have HW : Hid (chkV T = .tuple #[.int .i64 0, .int .i64 0]) := Lib.hid (HE.out _ (chkB_good (by rw [HN.out]; exact hn1) (by rw [HN.out]; exact HB.out)))
      go_wp2_with fail
      go_ret2
      exact ⟨by rw [HW.out]; rfl, hb⟩
-- MARK9
end Go.Proofs.Ytbkkmcfpjpbhaaa
