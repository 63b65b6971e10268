/- Patterns: lists of parts, and what the examples ask. -/
import Derived.Test.YtdiinlmeoifgjaaGreatDoorHu
namespace Go.Proofs.YtdiinlmeoifgjaaGreatDoor
open Go.RowKit Go.PlainAid

theorem infoSx : (Tryz.prog.info? 38).map (fun i => (i.zero, i.size, i.bytes)) = some (some (.agg #[.int .i64 0, .int .i64 0, .int .i64 0, .string ByteArray.empty, .string ByteArray.empty, .int .i64 0, .int .i64 0, .int .i64 0]), 8, 80) := by kernel_rfl
theorem ws_new (w : World) (l : List Pw) (cs : Array Value) (t : TypeId) (n : Nat) (hn : l.length = n) (h : cs = (wcs l).toArray) : WsAt (w.alloc (.cells cs t)) (.slice (some ⟨w.heap.size, 0, none⟩) n n) l := by
  subst h
  refine ⟨_, n, n, rfl, hn.symm, Nat.le_refl _, .inr ⟨w.heap.size, 0, rfl, by rw [World.size_alloc]; exact Nat.lt_succ_self _, fun j u hj => ?_⟩⟩
  rw [Nat.zero_add]
  exact (World.cell?_alloc_at _ _ _ _ rfl).trans (by simpa using hj)
theorem ps_new (w : World) (l : List Pid) (cs : Array Value) (t : TypeId) (n : Nat) (hn : l.length = n) (h : cs = (pcs l).toArray) : PsAt (w.alloc (.cells cs t)) (.slice (some ⟨w.heap.size, 0, none⟩) n n) l := by
  subst h
  refine ⟨_, n, n, rfl, hn.symm, Nat.le_refl _, .inr ⟨w.heap.size, 0, rfl, by rw [World.size_alloc]; exact Nat.lt_succ_self _, fun j u hj => ?_⟩⟩
  rw [Nat.zero_add]
  exact (World.cell?_alloc_at _ _ _ _ rfl).trans (by simpa using hj)
theorem own_one (w : World) (x : Sx) (B : Nat) (hB : B ≤ w.heap.size) (cs : Array Value) (h : cs = (sxC x).toArray) : (w.alloc (.cells cs 38)).ownsRow B 38 8 (.slice (some ⟨w.heap.size, 0, none⟩) 1 1) 1 (xcs [x]) := by
  subst h
  refine ⟨by rw [xcs_len]; rfl, .inr ⟨_, 1, (sxC x).toArray, rfl, hB, World.alloc_heap_new _ _, Nat.le_refl _, by unfold maxLen; omega, rfl, ?_⟩⟩
  rw [xcs_one]; rfl
set_option maxRecDepth 50000 in
theorem List_nil (w : World) : Calls Tryz.prog 16 #[.slice none 0 0] w fun e w' => ∃ r, e = .returned r ∧ XsAt w' r [lstX 0] ∧ Below w.heap.size w w' := by
  have HX : Hid (∀ cs, cs = #[.int .i64 4, .int .i64 0, .int .i64 0, .string ByteArray.empty, .string ByteArray.empty, .int .i64 0, .int .i64 0, .int .i64 0] → XsAt (w.alloc (.cells cs 38)) (.slice (some ⟨w.heap.size, 0, none⟩) 1 1) [lstX 0]) := Lib.hid fun cs h => xs_one w (lstX 0) _ cs (by rw [h]; rfl)
  go_enter Tryz.func16, Tryz.ntmps16
  go_wp2_with fail
  go_loop [3, 4] (fun x3 x4 => x3 = .slice (some ⟨w.heap.size, 0, none⟩) 1 1 ∧ x4 = .int .i64 0) (fun _ _ => 0)
  case atStart => exact ⟨rfl, rfl⟩
  case round =>
    obtain ⟨rfl, rfl⟩ := hrel
    go_wp2_with fail
    go_ret
    exact ⟨_, rfl, HX.out _ rfl, below_b1 _ _⟩
set_option maxRecDepth 50000 in
set_option maxHeartbeats 3200000 in
theorem List_any (Ps : List (Value × List Sx)) (n : Nat) (hn : Ps.length = n) (w : World) (cs : Array Value) (hcs : cs = (Ps.map (·.1)).toArray) (h : ∀ q ∈ Ps, XsAt w q.1 q.2 ∧ q.2 ≠ []) (h10 : ∀ q ∈ Ps, q.2.length ≤ 10) (hl : n ≤ 10) (hpos : 0 < n) :
    Calls Tryz.prog 16 #[.slice (some ⟨w.heap.size, 0, none⟩) n n] (w.alloc (.cells cs 22)) fun e w' => ∃ r, e = .returned r ∧ XsAt w' r (lstX n :: Ps.flatMap (·.2)) ∧ Below w.heap.size w w' := by
  obtain ⟨A, hA⟩ : ∃ A, w.heap.size = A := ⟨_, rfl⟩
  obtain ⟨w0, hw0⟩ : ∃ w0, w.alloc (.cells cs 22) = w0 := ⟨_, rfl⟩
  have hs0 : w0.heap.size = A + 1 := by rw [← hw0, World.size_alloc, hA]
  have hb0 : Below A w w0 := by rw [← hw0, ← hA]; exact below_b1 _ _
  have HC : Hid (∀ W, Below (A + 1) w0 W → ∀ (k : Nat) (q : Value × List Sx), Ps[k]? = some q → W.cell? ⟨A, k, none⟩ = some q.1 ∧ XsAt W q.1 q.2 ∧ q.2 ≠ [] ∧ q.2.length ≤ 10) := Lib.hid fun W hW k q hq => by
    have hb : w0.heap[A]? = some (.cells cs 22 (0, 0)) := by rw [← hw0, ← hA]; exact World.alloc_heap_new _ _
    have h1 := (hW.block A (by omega)).trans hb
    obtain ⟨g1, g2⟩ := h q (List.mem_of_getElem? hq)
    refine ⟨?_, g1.below (hb0.trans (hW.mono (by omega))) (by omega), g2, h10 q (List.mem_of_getElem? hq)⟩
    simp [World.cell?, h1, hcs, hq]
  have HN := Lib.hid hn
  have HO0 : Hid (∀ cs', cs' = #[.int .i64 4, .int .i64 (n : Int), .int .i64 0, .string ByteArray.empty, .string ByteArray.empty, .int .i64 0, .int .i64 0, .int .i64 0] → (w0.alloc (.cells cs' 38)).ownsRow (A + 1) 38 8 (.slice (some ⟨A + 1, 0, none⟩) 1 1) 1 (xcs [lstX n])) := Lib.hid fun cs' h' => by
    have h3 := own_one w0 (lstX n) (A + 1) (by omega) cs' (by rw [h']; rfl)
    rw [hs0] at h3; exact h3
  have HFl : Hid (∀ k, k ≤ n → ((Ps.take k).flatMap (·.2)).length ≤ 10 * k) := Lib.hid fun k => by
    induction k with
    | zero => intro _; simp
    | succ k ih =>
      intro hk
      obtain ⟨q, hq⟩ : ∃ q, Ps[k]? = some q := ⟨_, List.getElem?_eq_getElem (by omega)⟩
      have e1 : ((Ps.take (k + 1)).flatMap (·.2)).length = ((Ps.take k).flatMap (·.2)).length + q.2.length := by
        rw [List.take_add_one, hq, List.flatMap_append, List.length_append]
        congr 1
        show (q.2 ++ []).length = _
        rw [List.append_nil]
      have h1 := ih (by omega)
      have h2 := h10 q (List.mem_of_getElem? hq)
      rw [e1]
      omega
  obtain ⟨i0, hi, hz0, hz1, hz2⟩ := info_parts2 infoSx
  rw [hw0, hA]
  clear h h10 hcs hw0 hn
  go_enter Tryz.func16, Tryz.ntmps16
  go_wp2_with fail
  -- MARK1
  go_loopw [3, 4] (fun x3 x4 wr => ∃ (k m : Nat), x4 = .int .i64 (k : Int) ∧ k ≤ n ∧ Hid ((lstX n :: (Ps.take k).flatMap (·.2)).length = m) ∧ m ≤ 101 ∧ Hid (wr.ownsRow (A + 1) 38 8 x3 m (xcs (lstX n :: (Ps.take k).flatMap (·.2)))) ∧ Below (A + 1) w0 wr) (fun _ x4 _ => n - (intOf x4).toNat)
  case atStart => exact ⟨0, 1, rfl, Nat.zero_le _, Lib.hid rfl, by omega, Lib.hid (HO0.out _ rfl), by rw [← hs0]; exact below_b1 _ _⟩
  case round =>
    obtain ⟨k, m, rfl, hk, HM, hm, HO, hb⟩ := hrel
    obtain ⟨va, vc, rfl⟩ := own_len HO.out
    have hk0 : (0 : Int) ≤ (k : Int) := Int.natCast_nonneg _
    by_cases hlt : k < n
    · obtain ⟨q, hq⟩ : ∃ q, Ps[k]? = some q := ⟨_, List.getElem?_eq_getElem (by rw [HN.out]; exact hlt)⟩
      obtain ⟨c0, hX, hne, h10q⟩ := HC.out wr hb k q hq
      obtain ⟨a', n', c', e', hn', hc', hx⟩ := hX
      rcases hx with hx | ⟨g, off, rfl, hg, hcell⟩
      · exact absurd hx hne
      rw [e'] at c0
      have hk1 : (k : Int) < (n : Int) := by omega
      have HTk : Hid ((Ps.take (k + 1)).flatMap (·.2) = (Ps.take k).flatMap (·.2) ++ q.2) := Lib.hid (by rw [List.take_add_one, hq, List.flatMap_append]; simp)
      have hln : (xcs q.2).length = n' * 8 := by rw [xcs_len, hn']
      have hcl : ∀ j u, (xcs q.2)[j]? = some u → wr.cell? ((⟨g, off, none⟩ : Addr).add j) = some u := fun j u hj => by rw [Go.WideShapes.add_plain]; exact hcell j u hj
      have hone := one_xcs q.2
      obtain ⟨news, hnews⟩ : ∃ l, xcs q.2 = l := ⟨_, rfl⟩
      have HNw : Hid (xcs (lstX n :: (Ps.take k).flatMap (·.2)) ++ news = xcs (lstX n :: (Ps.take (k + 1)).flatMap (·.2))) := Lib.hid (by rw [HTk.out, ← hnews, ← xcs_app]; rfl)
      have HMn : Hid ((lstX n :: (Ps.take (k + 1)).flatMap (·.2)).length = m + n') := Lib.hid (by rw [HTk.out, hn', ← HM.out]; simp; omega)
      have hmn : m + n' ≤ 101 := by
        have h1 := HFl.out (k + 1) (by omega)
        have h2 := HMn.out
        rw [List.length_cons] at h2; omega
      have hbs : A + 1 ≤ wr.heap.size := by have := hb.size; omega
      have hn10 : n' ≤ 10 := by omega
      rw [hnews] at hln hcl hone
      clear hq hne h10q e' hn' hcell hnews
      go_wp2_with (at_builtin; refine wpList_append_own _ rfl _ _ 22 rfl (A + 1) 38 i0 (.agg #[.int .i64 0, .int .i64 0, .int .i64 0, .string ByteArray.empty, .string ByteArray.empty, .int .i64 0, .int .i64 0, .int .i64 0]) 8 80 Tryz.underlying22 hi hz0 hz1 hz2 rfl (by decide) _ _ _ rfl HO.out ⟨g, off, none⟩ n' c' news rfl hln hcl hone (by unfold maxLen; omega) (by omega) hbs ?_; intro v4 w4 hown4 hgrow4 _; rw [HNw.out] at hown4; have hb4 : Below (A + 1) w0 w4 := hb.grown hgrow4 hbs (fun q hq => (HO.out.lt q hq).1); have HO4 := Lib.hid hown4; clear hown4 hgrow4)
      -- MARK2
      exact ⟨⟨k + 1, m + n', by go_num, by omega, HMn, hmn, HO4, hb4⟩, by simp [intOf]; omega⟩
    · obtain rfl : k = n := by omega
      have hd : decide ((k : Int) < (k : Int)) = false := decide_eq_false (by omega)
      have hnl : ¬ k < k := Nat.lt_irrefl _
      have HX : Hid (XsAt wr (.slice va m vc) (lstX k :: Ps.flatMap (·.2))) := Lib.hid (by
        have h1 := HO.out
        have h2 := HM.out
        rw [List.take_of_length_le (Nat.le_of_eq HN.out)] at h1 h2
        exact xs_own h1 h2)
      have HB : Hid (Below A w wr) := Lib.hid (hb0.trans (hb.mono (by omega)))
      have HA := Lib.hid hA
      clear hA
      go_wp2_with fail
      go_ret
      exact ⟨_, rfl, HX.out, HB.out⟩
theorem results_boxV {fn : Func} {p : Tmp} (h : fn.results = #[.cell p 45]) (tmps : Array Value) (W : World) (n : Nat) (a b c : Value) (tt : TypeId) (hp : tmps.getD p undef = .pointer (some ⟨n, 0, none⟩)) (hb : W.heap[n]? = some (.cells #[a, b, c] tt (0, 0))) :
    (results fn tmps).run Tryz.prog W = .ok (.agg #[a, b, c]) W := by
  obtain ⟨c0, c1, c2, _⟩ := box3F hb
  have hp' : tmps[p]?.getD undef = .pointer (some ⟨n, 0, none⟩) := by simpa using hp
  simp [results, h, hp', go_sem, c0, c1, c2]
theorem v_any (S : ByteArray) (d : Int) (w : World) :
    Calls Tryz.prog 17 #[.string S, .int .i64 d] w fun e w' => e = .returned (.agg #[.string S, .string ByteArray.empty, .int .i64 d]) ∧ Below w.heap.size w w' := by
  go_enter Tryz.func17, Tryz.ntmps17
  go_wp2_with fail
  -- MARK3
  refine bodyPost_ret (results_boxV rfl _ _ w.heap.size _ _ _ _ rfl (World.alloc_heap_new _ _)) rfl ?_
  exact ⟨rfl, below_b1 _ _⟩
set_option maxRecDepth 50000 in
theorem isP_any (v u z : Value) (p : List Sx) (L : List Pid) (vs : List Pv) (w : World) (h : XsAt w v p) (hs : SmX p) (hi : InX p) (T : STabs w) (hu : PsAt w u L) (hsl : SmL L) (hll : L.length ≤ 100000) (hz : WsAt w z (toW vs)) (hR : rdP p L = (vs, 0, 0)) (hv : vs.length ≤ 100000) :
    Calls Tryz.prog 15 #[v, u, z] w fun e w' => e = .returned (.bool true) ∧ Below w.heap.size w w' := by
  have C := Lib.hid (Vars_any v u p L w h hs hi T hu hsl hll)
  have HZ := Lib.hid (fun W (hW : Below w.heap.size w W) => hz.below hW (Nat.le_refl _))
  have CS := Lib.hid (fun a W (ha : WsAt W a (toW vs)) (hW : Below w.heap.size w W) => SameVars_any a z (toW vs) (toW vs) W ha (hz.below hW (Nat.le_refl _)) (by rw [toW_len]; exact hv) (by rw [toW_len]; exact hv))
  obtain ⟨va, vc, rfl, _⟩ := h.slice
  obtain ⟨ua, uc, rfl, _⟩ := hu.slice
  obtain ⟨za, zc, rfl, _⟩ := hz.slice
  have HV : Hid (VarsV p L w = fun e w' => ∃ v, e = .returned (.tuple #[v, .int .i64 0]) ∧ WsAt w' v (toW vs) ∧ Below w.heap.size w w') := Lib.hid (by unfold VarsV; rw [hR])
  rw [HV.out] at C
  obtain ⟨n, hn⟩ : ∃ n, p.length = n := ⟨_, rfl⟩
  obtain ⟨m, hm⟩ : ∃ n, L.length = n := ⟨_, rfl⟩
  obtain ⟨q, hq⟩ : ∃ n, (toW vs).length = n := ⟨_, rfl⟩
  rw [hn, hm] at C
  rw [hq] at CS
  rw [hn, hm, hq]
  clear h hs hi T hu hsl hll hz hR hv hn hm hq HV HZ
  go_enter Tryz.func15, Tryz.ntmps15
  go_wp2_with fail
  refine C.out.mono ?_
  rintro e w1 ⟨r, rfl, hr, hb1⟩
  have CS1 := Lib.hid (CS.out r w1 hr hb1)
  obtain ⟨ra, rc, rfl, _⟩ := hr.slice
  clear hr
  go_wp2_with fail
  refine CS1.out.mono ?_
  rintro e w2 ⟨rfl, hb2⟩
  go_wp2_with fail
  go_ret
  exact ⟨ret_bool (by simp), below_step hb1 hb2⟩
set_option maxRecDepth 50000 in
theorem hasP_any (v : Value) (p : List Sx) (node er : Int) (w : World) (h : XsAt w v p) (hs : SmX p) (hi : InX p) (T : STabs w) (hR : (rdP p []).2 = (node, er)) :
    Calls Tryz.prog 19 #[v, .int .i64 node, .int .i64 er] w fun e w' => e = .returned (.bool true) ∧ Below w.heap.size w w' := by
  have C := Lib.hid (Check_any v (.slice none 0 0) p [] w h hs hi T (ps_nil _ _ _) (fun q hq => by cases hq) (Nat.zero_le _))
  obtain ⟨va, vc, rfl, _⟩ := h.slice
  unfold two64 at C
  rw [hR] at C
  obtain ⟨n, hn⟩ : ∃ n, p.length = n := ⟨_, rfl⟩
  rw [hn] at C ⊢
  have h1 : (node == node) = true := beq_self_eq_true _
  have h2 : (er == er) = true := beq_self_eq_true _
  clear h hs hi T hR hn
  go_enter Tryz.func19, Tryz.ntmps19
  go_wp2_with fail
  refine C.out.mono ?_
  rintro e w1 ⟨rfl, hb1⟩
  go_wp2_with fail
  go_ret
  exact ⟨rfl, hb1⟩
-- MARK9
end Go.Proofs.YtdiinlmeoifgjaaGreatDoor
