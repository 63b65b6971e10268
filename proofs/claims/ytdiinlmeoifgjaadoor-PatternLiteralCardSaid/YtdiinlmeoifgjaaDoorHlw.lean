/- The law PatternLiteral. -/
import Derived.Test.YtdiinlmeoifgjaaDoorHll
import Derived.Lib.AppendZeros
import Derived.Deep.Upon
namespace Go.Proofs.YtdiinlmeoifgjaaDoor
open Go.RowKit Go.PlainAid

/-- append to an own row, of a slice that may be nil: as a step of a region that draws its order. -/
theorem step_append_ownN {P : Program} {ops : Array Oper} {o : Oper} {a : Act} {w : World} {K : Act → World → Prop} {Q : Exit → Act → World → Prop} {E : Prop} (hgd : o.guard = none) (s x : Operand) (t : TypeId)
    (ho : o.op = .call { callee := .builtin .append, args := #[s, x], argTypes := #[t, t] })
    (base : Nat) (e : TypeId) (i : TypeInfo) (z : Value) (size bytes : Nat) (ht : P.underlying t = some (.slice e)) (hi : P.info? e = some i) (hz : i.zero = some z)
    (hsize : i.size = size) (hby : i.bytes = bytes) (hzs : z.cells.size = size) (hsz : 0 < size)
    (v : Value) (n : Nat) (xs : List Value) (hs : a.eval s = v) (hown : w.ownsRow base e size v n xs)
    (ua : Option Addr) (m c : Nat) (news : List Value) (hx : a.eval x = .slice ua m c) (hl : news.length = m * size) (hnews : ∀ ad, ua = some ad → ∀ j u, news[j]? = some u → w.cell? (ad.add j) = some u) (hnil : ua = none → m = 0) (h1 : ∀ u ∈ news, u.oneCell' = true)
    (h63 : n + m ≤ maxLen) (hbytes : (n + m) * bytes ≤ 140737488355328) (hbase : base ≤ w.heap.size)
    (h : ∀ v' w', w'.ownsRow base e size v' (n + m) (xs ++ news) → w.grownBy w' v.ownBlock → (v' = .slice none 0 0 ↔ v = .slice none 0 0 ∧ m = 0) → K (a.put o.dst v') w') :
    if Region.wanted o (yielded ops a.tmps) = true then Oper.wp P o a w K Q else E := by
  cases ua with
  | some ad => exact step_append_own hgd s x t ho base e i z size bytes ht hi hz hsize hby hzs hsz v n xs hs hown ad m c news hx hl (hnews ad rfl) h1 h63 hbytes hbase h
  | none =>
    obtain rfl := hnil rfl
    rw [Nat.zero_mul] at hl
    obtain rfl := List.length_eq_zero_iff.1 hl
    have hw : Region.wanted o (yielded ops a.tmps) = true := by simp [Region.wanted, hgd]
    rw [if_pos hw]
    have hsl : ∃ ba sc, v = .slice ba n sc ∧ n ≤ sc := by
      rcases hown.2 with ⟨rfl, rfl⟩ | ⟨g, cap, cur, rfl, _, _, hnc, _⟩
      · exact ⟨none, 0, rfl, Nat.le_refl _⟩
      · exact ⟨_, cap, rfl, hnc⟩
    obtain ⟨ba, sc, rfl, hsc⟩ := hsl
    refine Lib.wp_append_run w s x t t ho _ _ hs hx _ _ (run_append_nothing w t t o.type e i ht hi ba n sc hsc _ (Src.ofNil w ht c)) (h _ _ ?_ ⟨rfl, rfl, rfl, Nat.le_refl _, fun _ _ _ => rfl⟩ ?_)
    · rw [List.append_nil, Nat.add_zero]; exact hown
    · exact ⟨fun e => ⟨e, rfl⟩, fun e => e.1⟩
theorem ps_srcN {w : World} {ua : Option Addr} {m c : Nat} {l : List Pid} (h : PsAt w (.slice ua m c) l) : ∀ ad, ua = some ad → ∀ (j : Nat) (u : Value), (pcs l)[j]? = some u → w.cell? (ad.add j) = some u := fun ad e => by subst e; exact ps_src h
theorem ps_noneN {w : World} {ua : Option Addr} {m c : Nat} {l : List Pid} (h : PsAt w (.slice ua m c) l) : ua = none → m = 0 := fun e => by
  subst e
  obtain ⟨a, n, c', e, hn, hc, h⟩ := h
  obtain ⟨rfl, rfl, rfl⟩ := Value.slice.inj e
  rcases h with rfl | ⟨g, off, e, _⟩
  · exact hn
  · cases e
set_option maxRecDepth 50000 in
set_option maxHeartbeats 6400000 in
theorem lawLi_any (v u : Value) (p : List Sx) (L : List Pid) (z : Nat) (w : World) (h : XsAt w v p) (hi : InX p) (hu : PsAt w u L) (hz : z < 65536) (T : STabs w) :
    Calls Tryd.prog 7 #[v, u, .int .u16 (z : Int)] w fun e w' => e = .returned (.bool true) ∧ Below w.heap.size w w' := by
  have CL := Lib.hid (Large_any v p w h)
  have HV := Lib.hid (fun W (hW : Below w.heap.size w W) => h.below hW (Nat.le_refl _))
  have HU := Lib.hid (fun W (hW : Below w.heap.size w W) => hu.below hW (Nat.le_refl _))
  have CW := Lib.hid (fun W (hW : Below w.heap.size w W) => wide_any u L W (HU.out W hW))
  have CS := Lib.hid (fun W (hW : Below w.heap.size w W) => shown_any W (T.below hW))
  have CV := Lib.hid (fun (hs : SmX p) (hsl : SmL L) (hll : L.length ≤ 100000) W (hW : Below w.heap.size w W) => Vars_any v u p L W (HV.out W hW) hs hi (T.below hW) (HU.out W hW) hsl hll)
  have CV2 := Lib.hid (fun (hs : SmX p) u2 (L2 : List Pid) (hsl : SmL L2) (hll : L2.length ≤ 100000) W (hW : Below w.heap.size w W) (h2 : PsAt W u2 L2) => Vars_any v u2 p L2 W (HV.out W hW) hs hi (T.below hW) h2 hsl hll)
  have HM := Lib.hid (fun q => @rdP_more p L q)
  have HAl := Lib.hid (rdP_len p L)
  obtain ⟨va, vc, rfl, _⟩ := h.slice
  obtain ⟨ua, uc, rfl, hucap⟩ := hu.slice
  have HUN := Lib.hid (ps_noneN hu)
  obtain ⟨n, hn⟩ : ∃ n, p.length = n := ⟨_, rfl⟩
  obtain ⟨m, hm⟩ : ∃ n, L.length = n := ⟨_, rfl⟩
  have HN := Lib.hid hn
  have HLN := Lib.hid hm
  rw [hn] at CL HV CV CV2 ⊢
  rw [hm] at HU CW CV hucap HUN ⊢
  unfold VarsV at CV
  obtain ⟨⟨A, ai, ae⟩, hA⟩ : ∃ r, rdP p L = r := ⟨_, rfl⟩
  rw [hA] at CV HM HAl
  simp only at CV HM HAl
  rw [hn] at HAl
  unfold BigR at CL CW
  clear h hu hn hm hA T hi
  go_enter Tryd.func7, Tryd.ntmps7
  go_wp2_with fail
  refine CL.out.mono ?_
  rintro e w1 ⟨b, rfl, HP, hb1⟩
  cases b
  case true =>
    go_wp2_with fail
    refine (CS.out w1 hb1).mono ?_
    rintro e w2 ⟨rfl, hb2⟩
    go_wp2_with fail
    go_ret
    exact ⟨rfl, below_step hb1 hb2⟩
  obtain ⟨hn120, hsm⟩ := HP rfl
  have HS : Hid (SmX p) := Lib.hid fun x hx => by have := hsm x hx; omega
  clear HP hsm
  go_wp2_with fail
  refine (CW.out w1 hb1).mono ?_
  rintro e w2 ⟨b, rfl, HP, hb2⟩
  have hw2 := below_step hb1 hb2
  cases b
  case true =>
    go_wp2_with fail
    refine (CS.out w2 hw2).mono ?_
    rintro e w3 ⟨rfl, hb3⟩
    go_wp2_with fail
    go_ret
    exact ⟨rfl, below_step hw2 hb3⟩
  obtain ⟨hm30, hsl⟩ := HP rfl
  have HSL : Hid (SmL L) := Lib.hid fun x hx => by have := hsl x hx; omega
  clear HP hsl
  by_cases hn0 : n = 0
  · have hd : ((n : Int) == 0) = true := by rw [hn0]; rfl
    go_wp2_with fail
    refine (CS.out w2 hw2).mono ?_
    rintro e w3 ⟨rfl, hb3⟩
    go_wp2_with fail
    go_ret
    exact ⟨rfl, below_step hw2 hb3⟩
  have hd : ((n : Int) == 0) = false := beq_eq_false_iff_ne.2 (by omega)
  go_wp2_with fail
  refine (CV.out HS.out HSL.out (by omega) w2 hw2).mono ?_
  rintro e w3 ⟨r, rfl, hr, hb3⟩
  have hw3 := below_step hw2 hb3
  have HR := Lib.hid hr
  obtain ⟨ra, rc, rfl, _⟩ := hr.slice
  rw [toW_len] at HR ⊢
  clear hr CV CL CW
  by_cases he : ae = 0
  case neg =>
    have hne : (ae != 0) = true := bne_iff_ne.2 he
    go_wp2_with fail
    refine (CS.out w3 hw3).mono ?_
    rintro e w4 ⟨rfl, hb4⟩
    go_wp2_with fail
    go_ret
    exact ⟨rfl, below_step hw3 hb4⟩
  subst he
  have hmod : Int.tmod (z : Int) (n : Int) = ((z % n : Nat) : Int) := by rw [Int.ofNat_tmod]
  obtain ⟨k, hk⟩ : ∃ k, z % n = k := ⟨_, rfl⟩
  have hkn : k < n := by rw [← hk]; exact Nat.mod_lt _ (by omega)
  rw [hk] at hmod
  obtain ⟨x, hx⟩ : ∃ x, p[k]? = some x := ⟨_, List.getElem?_eq_getElem (by rw [HN.out]; exact hkn)⟩
  obtain ⟨g1, o1, rfl, hg1, c0, c1, c2, c3, c4, c5, c6, c7⟩ := (HV.out w3 hw3).node hx
  have hxs := HS.out x (List.mem_of_getElem? hx)
  have CD := Lib.hid (fun W => Dots_any x W)
  have CB := Lib.hid (fun W => Blank_any x W)
  obtain ⟨x0, x1, x2, x3, x4, x5, x6, x7⟩ := x
  simp only at hxs
  have hsl2 : SmL (L ++ [(x3, x4)]) := fun y hy => by
    rcases List.mem_append.1 hy with hy | hy
    · exact HSL.out y hy
    · rw [List.mem_singleton.1 hy]; exact hxs
  have HR2 := HM.out (x3, x4) rfl
  have hAl := HAl.out (by omega)
  have CVq := Lib.hid (fun u2 W hW h2 => by
    have := CV2.out HS.out u2 (L ++ [(x3, x4)]) hsl2 (by rw [List.length_append, HLN.out]; show m + 1 ≤ _; omega) W hW h2
    unfold VarsV at this
    rw [HR2] at this
    exact this)
  have HPC : Hid (pcs L ++ [.string (str x3), .string (str x4)] = pcs (L ++ [(x3, x4)])) := Lib.hid (by rw [pcs_app, pcs_one]; rfl)
  clear HM HAl hxs hsl2 HR2 CV2
  simp only [sxA_open] at CD CB c0 c1 c2 c3 c4 c5 c6 c7
  obtain ⟨X, hX⟩ : ∃ S, str x3 = S := ⟨_, rfl⟩
  obtain ⟨Y, hY⟩ : ∃ S, str x4 = S := ⟨_, rfl⟩
  have HX := Lib.hid hX
  have HY := Lib.hid hY
  rw [hX] at CD CB c3 HPC
  rw [hY] at CD CB c4 HPC
  obtain ⟨bd, hbd⟩ : ∃ b, dotsX ⟨x0, x1, x2, x3, x4, x5, x6, x7⟩ = b := ⟨_, rfl⟩
  obtain ⟨bk, hbk⟩ : ∃ b, blkX ⟨x0, x1, x2, x3, x4, x5, x6, x7⟩ = b := ⟨_, rfl⟩
  rw [hbd] at CD
  rw [hbk] at CB
  clear hX hY hk hd hx hbd hbk
  go_upto_region 7 with (fail)
  -- MARK1
  clear c0 c1 c2 c3 c4 c5 c6 c7
  have hx4 := World.alloc_heap_new w3 (.cells #[.int .i64 x0, .int .i64 x1, .int .i64 x2, .string X, .string Y, .int .i64 x5, .int .i64 x6, .int .i64 x7] 49)
  have hb4 : Below w3.heap.size w3 (w3.alloc (.cells #[.int .i64 x0, .int .i64 x1, .int .i64 x2, .string X, .string Y, .int .i64 x5, .int .i64 x6, .int .i64 x7] 49)) := below_b1 w3 _
  have hz4 : (w3.alloc (.cells #[.int .i64 x0, .int .i64 x1, .int .i64 x2, .string X, .string Y, .int .i64 x5, .int .i64 x6, .int .i64 x7] 49)).heap.size = w3.heap.size + 1 := World.size_alloc _ _
  generalize hW4 : w3.alloc (.cells #[.int .i64 x0, .int .i64 x1, .int .i64 x2, .string X, .string Y, .int .i64 x5, .int .i64 x6, .int .i64 x7] 49) = W4 at *
  clear hW4
  have h8 := box8F hx4
  obtain ⟨q0, q1, q2, q3, q4, q5, q6, q7⟩ := h8
  go_upto_region 8 with (fail)
  clear q0 q1 q2 q3 q4 q5 q6 q7
  have hx5 := World.alloc_heap_new W4 (.cells #[.string X, .string Y] 32)
  have hb5 : Below W4.heap.size W4 (W4.alloc (.cells #[.string X, .string Y] 32)) := below_b1 W4 _
  have hz5 : (W4.alloc (.cells #[.string X, .string Y] 32)).heap.size = W4.heap.size + 1 := World.size_alloc _ _
  generalize hW5 : W4.alloc (.cells #[.string X, .string Y] 32) = W5 at *
  clear hW5
  have hw4 := below_step hw3 hb4
  have hw5 := below_step hw4 hb5
  have hx45 := (hb5.block w3.heap.size (by omega)).trans hx4
  have HB4 := Lib.hid (fun W (hW : Below W5.heap.size W5 W) => box8F ((hW.block w3.heap.size (by omega)).trans hx45))
  have HB5 : Hid (∀ W, Below W5.heap.size W5 W → W.cell? ⟨w3.heap.size + 1, 0, none⟩ = some (.string X) ∧ W.cell? ⟨w3.heap.size + 1, 1, none⟩ = some (.string Y)) := Lib.hid (fun W hW => by
    have hh := box2F ((hW.block W4.heap.size (by omega)).trans hx5)
    rw [hz4] at hh
    exact ⟨hh.1, hh.2.1⟩)
  clear hx4 hx5 hx45
  obtain ⟨q0, q1, q2, q3, q4, q5, q6, q7⟩ := HB4.out _ (Below.refl _ _)
  go_wp2_with fail
  refine (CD.out W5).mono ?_
  rintro e w6 ⟨rfl, hb6⟩
  clear q0 q1 q2 q3 q4 q5 q6 q7
  cases bd
  case true =>
    go_wp2_with fail
    refine (CS.out w6 (below_step hw5 hb6)).mono ?_
    rintro e w7 ⟨rfl, hb7⟩
    go_wp2_with fail
    go_ret
    exact ⟨rfl, below_step (below_step hw5 hb6) hb7⟩
  obtain ⟨q0, q1, q2, q3, q4, q5, q6, q7⟩ := HB4.out _ hb6
  go_wp2_with fail
  refine (CB.out w6).mono ?_
  rintro e w7 ⟨rfl, hb7⟩
  have hb57 := below_step hb6 hb7
  have hw7 := below_step hw5 hb57
  clear q0 q1 q2 q3 q4 q5 q6 q7 hb6 hb7
  cases bk
  case true =>
    go_wp2_with fail
    refine (CS.out w7 hw7).mono ?_
    rintro e w8 ⟨rfl, hb8⟩
    go_wp2_with fail
    go_ret
    exact ⟨rfl, below_step hw7 hb8⟩
  go_upto_region 10 with (fail)
  -- MARK2
  obtain ⟨r0, r1⟩ := HB5.out _ hb57
  have HK5 : Hid (∀ W, Below w7.heap.size w7 W → W.cell? ⟨w3.heap.size + 1, 0, none⟩ = some (.string X) ∧ W.cell? ⟨w3.heap.size + 1, 1, none⟩ = some (.string Y)) := Lib.hid (fun W hW => HB5.out W (below_step hb57 hW))
  have hs7 := hw7.size
  obtain ⟨i0, hi0, hz0, hz1, hz2⟩ := info_parts2 infoPi
  have hbE : Below w7.heap.size w7 (w7.alloc (.cells #[] 32)).drew := (below_b1 w7 _).drew
  have HbE := Lib.hid hbE
  have hsE := hbE.size
  have HE0 : Hid ((w7.alloc (.cells #[] 32)).drew.ownsRow w7.heap.size 32 2 (.slice (some ⟨w7.heap.size, 0, none⟩) 0 0) 0 []) := Lib.hid (own_below (emp_rowP w7.heap.size w7 (Nat.le_refl _)) (Below.refl _ _).drew)
  have hbI : Below w7.heap.size w7 ((w7.alloc (.cells #[] 32)).alloc (.cells #[.string X, .string Y] 32)).drew := ((below_b1 w7 _).alloc (below_b1 w7 _).size _).drew
  have HbI := Lib.hid hbI
  have hsI := hbI.size
  have HE1 : Hid (((w7.alloc (.cells #[] 32)).alloc (.cells #[.string X, .string Y] 32)).drew.ownsRow w7.heap.size 32 2 (.slice (some ⟨w7.heap.size, 0, none⟩) 0 0) 0 []) := Lib.hid (own_below (emp_rowP w7.heap.size w7 (Nat.le_refl _)) (below_b1 (w7.alloc (.cells #[] 32)) (.cells #[.string X, .string Y] 32)).drew)
  have HI1 : Hid (((w7.alloc (.cells #[] 32)).alloc (.cells #[.string X, .string Y] 32)).drew.heap[w7.heap.size + 1]? = some (.cells #[.string X, .string Y] 32 (0, 0))) := Lib.hid (by
    have := World.alloc_heap_new (w7.alloc (.cells #[] 32)) (.cells #[.string X, .string Y] 32)
    rw [World.size_alloc] at this
    exact this)
  have hbJ : Below w7.heap.size w7 ((w7.alloc (.cells #[.string X, .string Y] 32)).alloc (.cells #[] 32)).drew := ((below_b1 w7 _).alloc (below_b1 w7 _).size _).drew
  have HbJ := Lib.hid hbJ
  have hsJ := hbJ.size
  have HE2 : Hid (((w7.alloc (.cells #[.string X, .string Y] 32)).alloc (.cells #[] 32)).drew.ownsRow w7.heap.size 32 2 (.slice (some ⟨w7.heap.size + 1, 0, none⟩) 0 0) 0 []) := Lib.hid (by
    have h1 := own_below (emp_rowP w7.heap.size (w7.alloc (.cells #[.string X, .string Y] 32)) (below_b1 w7 _).size) (Below.refl _ _).drew
    rw [World.size_alloc] at h1; exact h1)
  have HI2 : Hid (((w7.alloc (.cells #[.string X, .string Y] 32)).alloc (.cells #[] 32)).drew.heap[w7.heap.size]? = some (.cells #[.string X, .string Y] 32 (0, 0))) := Lib.hid (by
    have h1 := World.alloc_heap_new w7 (.cells #[.string X, .string Y] 32)
    have h2 := (below_b1 (w7.alloc (.cells #[.string X, .string Y] 32)) (.cells #[] 32)).block w7.heap.size (by rw [World.size_alloc]; omega)
    exact h2.trans h1)
  clear hbE hbI hbJ
  go_region_held3 (fun w' => w'.cell? ⟨w3.heap.size + 1, 0, none⟩ = some (.string X) ∧ w'.cell? ⟨w3.heap.size + 1, 1, none⟩ = some (.string Y)) (first | exact HK5.out _ (by assumption) | go_keep) (first
    | (refine step_append_ownN rfl _ _ 25 rfl w7.heap.size 32 i0 (.agg #[.string ByteArray.empty, .string ByteArray.empty]) 2 32 Tryd.underlying25 hi0 hz0 hz1 hz2 rfl (by decide) _ _ _ rfl HE0.out ua m uc (pcs L) rfl (by rw [pcs_len, HLN.out]) (ps_srcN (HU.out _ (below_step hw7 HbE.out))) HUN.out (one_pcs L) (by unfold maxLen; omega) (by omega) hsE ?_; intro v4 w4 hown4 hgrow4 _; rw [List.nil_append, Nat.zero_add] at hown4; obtain ⟨b4, cb4, rfl⟩ := own_lenR hown4; have hb74 : Below w7.heap.size w7 w4 := HbE.out.grown hgrow4 hsE (fun k hk => (HE0.out.lt k hk).1); have HO4 := Lib.hid hown4; clear hown4 hgrow4)
    | (refine step_append_ownN rfl _ _ 25 rfl w7.heap.size 32 i0 (.agg #[.string ByteArray.empty, .string ByteArray.empty]) 2 32 Tryd.underlying25 hi0 hz0 hz1 hz2 rfl (by decide) _ _ _ rfl HE1.out ua m uc (pcs L) rfl (by rw [pcs_len, HLN.out]) (ps_srcN (HU.out _ (below_step hw7 HbI.out))) HUN.out (one_pcs L) (by unfold maxLen; omega) (by omega) hsI ?_; intro v4 w4 hown4 hgrow4 _; rw [List.nil_append, Nat.zero_add] at hown4; obtain ⟨b4, cb4, rfl⟩ := own_lenR hown4; have hb74 : Below w7.heap.size w7 w4 := HbI.out.grown hgrow4 hsI (fun k hk => (HE1.out.lt k hk).1); have HI4 := Lib.hid (kept_cells hgrow4 HI1.out (fun e => by have e' : some (w7.heap.size + 1) = some w7.heap.size := e; have := Option.some.inj e'; omega)); have HO4 := Lib.hid hown4; clear hown4 hgrow4)
    | (refine step_append_ownN rfl _ _ 25 rfl w7.heap.size 32 i0 (.agg #[.string ByteArray.empty, .string ByteArray.empty]) 2 32 Tryd.underlying25 hi0 hz0 hz1 hz2 rfl (by decide) _ _ _ rfl HE2.out ua m uc (pcs L) rfl (by rw [pcs_len, HLN.out]) (ps_srcN (HU.out _ (below_step hw7 HbJ.out))) HUN.out (one_pcs L) (by unfold maxLen; omega) (by omega) hsJ ?_; intro v4 w4 hown4 hgrow4 _; rw [List.nil_append, Nat.zero_add] at hown4; obtain ⟨b4, cb4, rfl⟩ := own_lenR hown4; have hb74 : Below w7.heap.size w7 w4 := HbJ.out.grown hgrow4 hsJ (fun k hk => (HE2.out.lt k hk).1); have HI4 := Lib.hid (kept_cells hgrow4 HI2.out (fun e => by have e' : some w7.heap.size = some (w7.heap.size + 1) := e; have := Option.some.inj e'; omega)); have HO4 := Lib.hid hown4; clear hown4 hgrow4)
    | (refine step_append_own rfl _ _ 25 rfl w7.heap.size 32 i0 (.agg #[.string ByteArray.empty, .string ByteArray.empty]) 2 32 Tryd.underlying25 hi0 hz0 hz1 hz2 rfl (by decide) _ m (pcs L) rfl (HO4.out.alloc _) ⟨w4.heap.size, 0, none⟩ 1 1 [.string X, .string Y] rfl rfl (new_cells w4 [.string X, .string Y] _) (by simp [Value.oneCell']) (by unfold maxLen; omega) (by omega) (hb74.alloc hb74.size _).size ?_; intro v5 w8 hown5 hgrow5 _; rw [HPC.out] at hown5; obtain ⟨b5, cb5, rfl⟩ := own_lenR hown5; have hb75 : Below w7.heap.size w7 w8 := (hb74.alloc hb74.size _).grown hgrow5 (hb74.alloc hb74.size _).size (fun k hk => (HO4.out.lt k hk).1); have HO5 := Lib.hid hown5; clear hown5 hgrow5)
    | (refine step_append_own rfl _ _ 25 rfl w7.heap.size 32 i0 (.agg #[.string ByteArray.empty, .string ByteArray.empty]) 2 32 Tryd.underlying25 hi0 hz0 hz1 hz2 rfl (by decide) _ m (pcs L) rfl HO4.out ⟨w7.heap.size + 1, 0, none⟩ 1 1 [.string X, .string Y] rfl rfl HI4.out (by simp [Value.oneCell']) (by unfold maxLen; omega) (by omega) hb74.size ?_; intro v5 w8 hown5 hgrow5 _; rw [HPC.out] at hown5; obtain ⟨b5, cb5, rfl⟩ := own_lenR hown5; have hb75 : Below w7.heap.size w7 w8 := hb74.grown hgrow5 hb74.size (fun k hk => (HO4.out.lt k hk).1); have HO5 := Lib.hid hown5; clear hown5 hgrow5)
    | (refine step_append_own rfl _ _ 25 rfl w7.heap.size 32 i0 (.agg #[.string ByteArray.empty, .string ByteArray.empty]) 2 32 Tryd.underlying25 hi0 hz0 hz1 hz2 rfl (by decide) _ m (pcs L) rfl HO4.out ⟨w7.heap.size, 0, none⟩ 1 1 [.string X, .string Y] rfl rfl HI4.out (by simp [Value.oneCell']) (by unfold maxLen; omega) (by omega) hb74.size ?_; intro v5 w8 hown5 hgrow5 _; rw [HPC.out] at hown5; obtain ⟨b5, cb5, rfl⟩ := own_lenR hown5; have hb75 : Below w7.heap.size w7 w8 := hb74.grown hgrow5 hb74.size (fun k hk => (HO4.out.lt k hk).1); have HO5 := Lib.hid hown5; clear hown5 hgrow5)
    | (go_at_call 26; refine (CVq.out _ _ (below_step hw7 hb75) (ps_own HO5.out (by rw [List.length_append, HLN.out]; rfl))).mono ?_; rintro e w9 ⟨r2, rfl, hr2, hb9⟩; have hb79 := below_step hb75 hb9; have HR3 := Lib.hid hr2; clear hr2))
  -- MARK3
  all_goals
    have hw9 := below_step hw7 hb79
    have hb39 := below_step (below_step (below_step hb4 hb5) hb57) hb79
    have HA9 : Hid (∀ W, Below w9.heap.size w9 W → WsAt W (.slice ra A.length rc) (toW A)) := Lib.hid (fun W hW => HR.out.below (below_step hb39 hW) (Nat.le_refl _))
    have HB9 : Hid (∀ W, Below w9.heap.size w9 W → W.cell? ⟨w3.heap.size + 1, 0, none⟩ = some (.string X) ∧ W.cell? ⟨w3.heap.size + 1, 1, none⟩ = some (.string Y)) := Lib.hid (fun W hW => HB5.out W (below_step (below_step hb57 hb79) hW))
    have HF9 := Lib.hid (fun W (hW : Below w9.heap.size w9 W) => HR3.out.below hW (Nat.le_refl _))
    have CS9 := Lib.hid (fun W (hW : Below w9.heap.size w9 W) => CS.out W (below_step hw9 hW))
    clear hb4 hb5 hb57 hb79 hb39 HR HR3 HB4 HB5 HK5 CD CB CS CVq hw3 hw4 hw5 hw7
    go_wp2_with fail
  -- MARK4
  all_goals
    have HLq := Lib.hid (fun j (x : Pv) (hx : A[j]? = some x) => (show (toW A)[j]? = some (x.1, (x.2 : Int)) by unfold toW; rw [List.getElem?_map, hx]; rfl))
    have HLA : Hid (∀ k, k < A.length → ∃ x, A[k]? = some x) := Lib.hid fun k hk => ⟨_, List.getElem?_eq_getElem hk⟩
    have HFt : Hid (∀ k x, A[k]? = some x → (A.take (k + 1)).filter (notQ (x3, x4)) = (A.take k).filter (notQ (x3, x4)) ++ if x.1 = (x3, x4) then [] else [x]) := Lib.hid fun k x hx => by
      rw [List.take_add_one, hx, List.filter_append]
      by_cases e : x.1 = (x3, x4)
      · rw [if_pos e]; simp [notQ, e]
      · rw [if_neg e]; simp [notQ, e]
    have HFe : Hid ((A.take A.length).filter (notQ (x3, x4)) = A.filter (notQ (x3, x4))) := Lib.hid (by rw [List.take_length])
    have HFl : Hid ((A.filter (notQ (x3, x4))).length ≤ 100000) := Lib.hid (Nat.le_trans (List.length_filter_le _ _) (by omega))
    generalize hna : A.length = na at *
    clear hna
    obtain ⟨iv, hiv, hv0, hv1, hv2⟩ := info_parts2 infoPv
    clear hi0 hz0 hz1 hz2
    go_loopw [12, 13] (fun x12 x13 wr => ∃ (j mm : Nat) (b : Option Addr) (c : Nat), x12 = .slice b mm c ∧ x13 = .int .i64 (j : Int) ∧ j ≤ na ∧ mm ≤ j ∧ Hid (((A.take j).filter (notQ (x3, x4))).length = mm) ∧ Hid (wr.ownsRow w9.heap.size 34 3 (.slice b mm c) mm (vcs ((A.take j).filter (notQ (x3, x4))))) ∧ Below w9.heap.size w9 wr) (fun _ x13 _ => na - (intOf x13).toNat)
    case atStart => exact ⟨0, 0, none, 0, rfl, rfl, Nat.zero_le _, Nat.le_refl _, Lib.hid rfl, Lib.hid ⟨by simp [vcs], .inl ⟨rfl, rfl⟩⟩, Below.refl _ _⟩
    case round =>
      obtain ⟨j, mm, b, c, rfl, rfl, hj, hmj, HM, HO, hb⟩ := hrel
      have hj0 : (0 : Int) ≤ (j : Int) := Int.natCast_nonneg _
      by_cases hlt : j < na
      · have hd1 : decide ((j : Int) < (na : Int)) = true := decide_eq_true (by omega)
        have hj1 : (j : Int) < (na : Int) := by omega
        obtain ⟨y, hy⟩ := HLA.out j hlt
        obtain ⟨g2, o2, rfl, hg2, d0, d1, d2⟩ := (HA9.out wr hb).node (HLq.out j y hy)
        obtain ⟨r0, r1⟩ := HB9.out wr hb
        have HNx := HFt.out j y hy
        have hy' := HLq.out j y hy
        have HDc : Hid (∀ W, Below w9.heap.size w9 W → W.cell? ⟨g2, o2 + j * 3, none⟩ = some (.string (str y.1.1)) ∧ W.cell? ⟨g2, o2 + j * 3 + 1, none⟩ = some (.string (str y.1.2)) ∧ W.cell? ⟨g2, o2 + j * 3 + 2, none⟩ = some (.int .i64 (y.2 : Int))) := Lib.hid fun W hW => by
          obtain ⟨g3, o3, e3, _, f0, f1, f2⟩ := (HA9.out W hW).node hy'
          cases e3; exact ⟨f0, f1, f2⟩
        clear hy'
        obtain ⟨⟨y1, y2⟩, yd⟩ := y
        simp only at d0 d1 d2 HNx HDc
        have hq := pid_ne y1 y2 x3 x4
        obtain ⟨bq, hbq⟩ : ∃ bq, decide (((y1, y2) : Pid) = (x3, x4)) = bq := ⟨_, rfl⟩
        have HQ : Hid (((y1, y2) : Pid) = (x3, x4) ↔ bq = true) := Lib.hid (by rw [← hbq, decide_eq_true_iff])
        have HV1 : Hid (pvC ((y1, y2), yd) = [.string (str y1), .string (str y2), .int .i64 (yd : Int)]) := Lib.hid rfl
        have HNx := Lib.hid HNx
        rw [hbq, HX.out, HY.out] at hq
        obtain ⟨Y0, hY0⟩ : ∃ S, str y1 = S := ⟨_, rfl⟩
        obtain ⟨Y1, hY1⟩ : ∃ S, str y2 = S := ⟨_, rfl⟩
        rw [hY0] at d0 hq HV1 HDc
        rw [hY1] at d1 hq HV1 HDc
        clear hy hbq hY0 hY1
        cases bq
        · have HT : Hid ((A.take (j + 1)).filter (notQ (x3, x4)) = (A.take j).filter (notQ (x3, x4)) ++ [((y1, y2), yd)]) := Lib.hid (by rw [HNx.out, if_neg (fun e => by have := HQ.out.1 e; cases this)])
          have HTv : Hid (vcs ((A.take (j + 1)).filter (notQ (x3, x4))) = vcs ((A.take j).filter (notQ (x3, x4))) ++ [.string Y0, .string Y1, .int .i64 (yd : Int)]) := Lib.hid (by rw [HT.out, vcs_app, vcs_one, HV1.out])
          have HTl : Hid (((A.take (j + 1)).filter (notQ (x3, x4))).length = mm + 1) := Lib.hid (by rw [HT.out, List.length_append, HM.out]; rfl)
          simp only [Bool.not_false] at hq
          go_wp2_with fail
          go_quiet (fail)
          -- MARK5
          have hrf := Below.refl wr.heap.size wr
          have hbd : Below wr.heap.size wr (wr.drewN nq) := ⟨hrf.os, hrf.tape, hrf.output, hrf.size, hrf.block⟩
          have HOd := Lib.hid (own_below HO.out hbd)
          have hwd := below_step hb hbd
          clear hrf hbd d0 d1 d2 HO hb r0 r1
          generalize wr.drewN nq = wd at *
          obtain ⟨d0, d1, d2⟩ := HDc.out wd hwd
          have hsd := hwd.size
          go_wp2_with (at_builtin; refine wpList_append_own _ rfl _ _ 30 rfl w9.heap.size 34 iv (.agg #[.string ByteArray.empty, .string ByteArray.empty, .int .i64 0]) 3 40 Tryd.underlying30 hiv hv0 hv1 hv2 rfl (by decide) _ _ _ rfl (HOd.out.alloc _) ⟨wd.heap.size, 0, none⟩ 1 1 [.string Y0, .string Y1, .int .i64 (yd : Int)] rfl rfl (new_cells wd [.string Y0, .string Y1, .int .i64 (yd : Int)] _) (by simp [Value.oneCell']) (by unfold maxLen; omega) (by omega) (by rw [World.size_alloc]; omega) ?_; intro v4 wA hown4 hgrow4 _; rw [← HTv.out] at hown4; obtain ⟨b4, cb4, rfl⟩ := own_lenR hown4; have hbA : Below w9.heap.size w9 wA := (hwd.alloc hwd.size _).grown hgrow4 (by rw [World.size_alloc]; omega) (fun k hk => (HOd.out.lt k hk).1); have HO4 := Lib.hid hown4; clear hown4 hgrow4)
          -- MARK8
          exact ⟨⟨j + 1, mm + 1, b4, cb4, rfl, by go_num, by omega, by omega, HTl, HO4, hbA⟩, by simp [intOf]; omega⟩
        · have HT : Hid ((A.take (j + 1)).filter (notQ (x3, x4)) = (A.take j).filter (notQ (x3, x4))) := Lib.hid (by rw [HNx.out, if_pos (HQ.out.2 rfl), List.append_nil])
          have HOs := HO.out
          rw [← HT.out] at HOs
          have HMs := HM.out
          rw [← HT.out] at HMs
          have HOh := Lib.hid HOs
          have HMh := Lib.hid HMs
          clear HOs HMs
          simp only [Bool.not_true] at hq
          have hrf := Below.refl wr.heap.size wr
          go_wp2_with fail
          go_quiet (fail)
          go_wp2_with fail
          -- MARK6
          exact ⟨⟨j + 1, mm, b, c, rfl, by go_num, by omega, by omega, HMh, Lib.hid (own_below HOh.out ⟨hrf.os, hrf.tape, hrf.output, hrf.size, hrf.block⟩), ⟨hb.os, hb.tape, hb.output, hb.size, hb.block⟩⟩, by simp [intOf]; omega⟩
      · obtain rfl : j = na := by omega
        have hd1 : decide ((j : Int) < (j : Int)) = false := decide_eq_false (by omega)
        have HW : Hid (WsAt wr (.slice b mm c) (toW (A.filter (notQ (x3, x4))))) := Lib.hid (by
          have h1 := ws_own HO.out HM.out
          rw [HFe.out] at h1; exact h1)
        have CSm := Lib.hid (SameVars_any r2 (.slice b mm c) _ _ wr (HF9.out wr hb) HW.out (by rw [toW_len]; exact HFl.out) (by rw [toW_len]; exact HFl.out))
        rw [decide_eq_true rfl] at CSm
        go_wp2_with fail
        -- MARK7
        refine CSm.out.mono ?_
        rintro e w10 ⟨rfl, hb10⟩
        go_wp2_with fail
        refine (CS9.out w10 (below_step hb hb10)).mono ?_
        rintro e w11 ⟨rfl, hb11⟩
        go_wp2_with fail
        go_ret
        exact ⟨rfl, below_step (below_step hw9 (below_step hb hb10)) hb11⟩
theorem u16_bdH {a : Int} (h : (Lit.int .u16 a).wf = true) : 0 ≤ a ∧ a ≤ 65535 := by
  have h' : (decide (IntKind.u16.min ≤ a) && decide (a ≤ IntKind.u16.max)) = true := h
  have h1 : IntKind.u16.min = 0 := rfl
  have h2 : IntKind.u16.max = 65535 := rfl
  rw [h1, h2, Bool.and_eq_true, decide_eq_true_iff, decide_eq_true_iff] at h'
  exact h'
theorem lawLi_arg (v u : Value) (p : List Sx) (L : List Pid) (a : Int) (hw : (Lit.int .u16 a).wf = true) (w : World) (h : XsAt w v p) (hi : InX p) (hu : PsAt w u L) (T : STabs w) :
    Calls Tryd.prog 7 #[v, u, .int .u16 a] w fun e w' => e = .returned (.bool true) ∧ Below w.heap.size w w' := by
  obtain ⟨h0, h1⟩ := u16_bdH hw
  obtain ⟨z, rfl⟩ : ∃ z : Nat, a = (z : Int) := ⟨a.toNat, by omega⟩
  exact lawLi_any v u p L z w h hi hu (by omega) T
-- MARK9
end Go.Proofs.YtdiinlmeoifgjaaDoor
