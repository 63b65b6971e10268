/- The law SpansEdits, walked. -/
import Derived.Test.YtbajikkjkiacnaaDoorPbox
import Derived.Test.YtbajikkjkiacnaaDoorPargs
import Derived.Test.YtbajikkjkiacnaaDoorPme
namespace Go.Proofs.YtbajikkjkiacnaaDoor
open Go.RowKit Go.PlainAid

theorem four_box (w : World) (a b c d : Value) (t : TypeId) : (w.alloc (.cells #[a, b, c, d] t)).heap[w.heap.size]? = some (.cells #[a, b, c, d] t (0, 0)) := World.alloc_heap_new _ _
theorem four_facts {W : World} {n : Nat} {a b c d : Value} {t : TypeId} (h : W.heap[n]? = some (.cells #[a, b, c, d] t (0, 0))) :
    W.cell? ⟨n, 0, none⟩ = some a ∧ W.cell? ⟨n, 1, none⟩ = some b ∧ W.cell? ⟨n, 2, none⟩ = some c ∧ W.cell? ⟨n, 3, none⟩ = some d := by
  refine ⟨?_, ?_, ?_, ?_⟩ <;> simp [World.cell?, h]

set_option maxRecDepth 100000 in
set_option maxHeartbeats 25600000 in
theorem edE_go (g off n c : Nat) (l : List UInt8) (ps : ByteArray) (sa sb ca cb ta tb : Nat) (e3 : Int) (bf bh : Bool) (w : World) (T : PTabs w) (h : BytesAt w (.slice (some ⟨g, off, none⟩) n c) l) (hn : n = l.length) (hcap : n ≤ c) (hb : n ≤ 100) (hp : ps.size ≤ 50)
    (s1 : sa < sb) (s2 : sb ≤ n) (c1 : ca ≤ cb) (c2 : cb ≤ n) (hS : shiftS ((sa : Int), (sb : Int)) ((ca : Int), (cb : Int)) (ps.size : Int) = (((ta : Int), (tb : Int)), e3)) (h1 : beS ((ca : Int), (cb : Int)) (sa, sb) = bf) (h2 : beS ((sa : Int), (sb : Int)) (ca, cb) = bh)
    (ht : ta ≤ tb) (ht2 : tb ≤ (editL l ps.data.toList ca cb).length) 
    (hcase : (e3 = 4 ∧ max sa ca < min sb cb ∧ (ca < sa ∨ sb < cb)) ∨ (e3 = 0 ∧ (bf = true ∨ bh = true) ∧ cutL (editL l ps.data.toList ca cb) ta tb = cutL l sa sb) ∨
      (e3 = 0 ∧ bf = false ∧ bh = false ∧ sa ≤ ca ∧ cb ≤ sb ∧ cutL (editL l ps.data.toList ca cb) ta tb = cutL l sa ca ++ ps.data.toList ++ cutL l cb sb)) :
    Calls Tryd.prog 8 #[.slice (some ⟨g, off, none⟩) n c, .string ps, .agg #[.int .i64 sa, .int .i64 sb, .int .i64 ca, .int .i64 cb]] w fun e w' => e = .returned (.bool true) ∧ Below w.heap.size w w' := by
  have CA : Hid (∀ W, Below w.heap.size w W → Calls Tryd.prog 12 #[] W fun e w' => e = .returned (.bool true) ∧ Below W.heap.size W w') := Lib.hid fun W hb => awake_any W (T.below hb)
  have k1 : okS ((sa : Int), (sb : Int)) = true := by rw [okS_iff]; simp only; omega
  have k2 : okS ((ca : Int), (cb : Int)) = true := by rw [okS_iff]; simp only; omega
  obtain ⟨es, hes⟩ : ∃ es, str (editL l ps.data.toList ca cb) = es := ⟨_, rfl⟩
  obtain ⟨vs, hvs⟩ : ∃ vs, str (cutL l sa sb) = vs := ⟨_, rfl⟩
  have hsz : es.size = (editL l ps.data.toList ca cb).length := by rw [← hes, str_size]
  have hmm : es.size ≤ 300 := by
    rw [hsz, editL_len c1 (by omega)]
    have : ps.data.toList.length = ps.size := Array.length_toList
    omega
  have KC : Hid (∀ x p q : Nat, p ≤ q ∧ q ≤ x → ∀ W, Calls Tryd.prog 21 #[.int .i64 (x : Int), .agg #[.int .i64 (p : Int), .int .i64 (q : Int)]] W fun e w' => e = .returned (.int .i64 0) ∧ Below W.heap.size W w') := Lib.hid fun x p q hx W => by
    have := check_spans x p q W
    unfold checkS isS at this; simp only at this
    rw [decide_eq_true (by omega), if_neg (by simp), if_neg (by omega)] at this; exact this
  have K3 : Hid (∀ W, Calls Tryd.prog 23 #[.agg #[.int .i64 (sa : Int), .int .i64 (sb : Int)], .agg #[.int .i64 (ca : Int), .int .i64 (cb : Int)], .int .i64 (ps.size : Int)] W fun e w' => e = .returned (.tuple #[.agg #[.int .i64 (ta : Int), .int .i64 (tb : Int)], .int .i64 e3]) ∧ Below W.heap.size W w') := Lib.hid fun W => by
    have := Shift_any sa sb ca cb ps.size W; rw [hS] at this; exact this
  have KB : Hid (∀ p q r s : Nat, ∀ o, beS ((p : Int), (q : Int)) (r, s) = o ∧ okS ((p : Int), (q : Int)) = true ∧ okS ((r : Int), (s : Int)) = true → ∀ W, Calls Tryd.prog 19 #[.agg #[.int .i64 (p : Int), .int .i64 (q : Int)], .agg #[.int .i64 (r : Int), .int .i64 (s : Int)]] W fun e w' => e = .returned (.tuple #[.bool o, .int .i64 0]) ∧ Below W.heap.size W w') := Lib.hid fun p q r s o hx W => by
    have := Before_any p q r s W
    unfold beforeS at this; rw [hx.2.1, hx.2.2, if_neg (by simp), hx.1] at this; exact this
  have K1 := Lib.hid (KC.out n sa sb ⟨by omega, s2⟩)
  have K2 := Lib.hid (KC.out n ca cb ⟨c1, c2⟩)
  have K6 := Lib.hid (KC.out es.size ta tb ⟨ht, by omega⟩)
  have K4 := Lib.hid (KB.out ca cb sa sb bf ⟨h1, k2, k1⟩)
  have K5 := Lib.hid (KB.out sa sb ca cb bh ⟨h2, k1, k2⟩)
  have HV1 : Hid (∀ W, Below w.heap.size w W → (convert 43 9 (.slice (some ⟨g, off, none⟩) ca c)).run Tryd.prog W = .ok (.string (str (l.take ca))) W) := Lib.hid fun W hb => conv_row (take_at (RowAt.below h hb (Nat.le_refl _)) (by omega))
  have HV2 : Hid (∀ W, Below w.heap.size w W → (convert 43 9 (.slice (if c = cb then some ⟨g, off, none⟩ else some ⟨g, off + cb, none⟩) (n - cb) (c - cb))).run Tryd.prog W = .ok (.string (str (l.drop cb))) W) := Lib.hid fun W hb => by
    have := conv_row (drop_at (RowAt.below h hb (Nat.le_refl _)) c2 hcap)
    rw [Option.map_some, Go.WideShapes.add_plain] at this; exact this
  have HV3 : Hid (∀ W, Below w.heap.size w W → (convert 43 9 (.slice (some ⟨g, off + sa, none⟩) (sb - sa) (c - sa))).run Tryd.prog W = .ok (.string vs) W) := Lib.hid fun W hb => by
    have h3 := drop_at (take_at (RowAt.below h hb (Nat.le_refl _)) s2) (show sa ≤ sb by omega) (by omega)
    rw [if_neg (by omega), Option.map_some, Go.WideShapes.add_plain, List.drop_take] at h3
    rw [← hvs]; exact conv_row h3
  have HF : Hid ((str (l.take ca) ++ ps ++ str (l.drop cb)) = es) := Lib.hid (by rw [← hes, ← str_data ps, str_app, str_app]; rfl)
  replace hcase : (e3 = 4 ∧ max sa ca < min sb cb ∧ (ca < sa ∨ sb < cb)) ∨ (e3 = 0 ∧ (bf = true ∨ bh = true) ∧ es.extract ta tb = vs) ∨
      (e3 = 0 ∧ bf = false ∧ bh = false ∧ sa ≤ ca ∧ cb ≤ sb ∧ es.extract ta tb = str (cutL l sa ca) ++ ps ++ str (cutL l cb sb)) := by
    rw [← hes, ← hvs, ext_str]
    rcases hcase with h | ⟨h3, h4, h5⟩ | ⟨h3, h4, h5, h6, h7, h8⟩
    · exact .inl h
    · exact .inr (.inl ⟨h3, h4, by rw [h5]⟩)
    · refine .inr (.inr ⟨h3, h4, h5, h6, h7, ?_⟩)
      rw [h8, ← str_app, ← str_app, str_data]
  have HCASE := Lib.hid hcase
  have HV4 : Hid (sa ≤ ca → ∀ W, Below w.heap.size w W → (convert 43 9 (.slice (some ⟨g, off + sa, none⟩) (ca - sa) (c - sa))).run Tryd.prog W = .ok (.string (str (cutL l sa ca))) W) := Lib.hid fun h0 W hb => by
    have h3 := drop_at (take_at (i := ca) (RowAt.below h hb (Nat.le_refl _)) (by omega)) h0 (by omega)
    rw [if_neg (by omega), Option.map_some, Go.WideShapes.add_plain, List.drop_take] at h3
    exact conv_row h3
  have HV5 : Hid (cb ≤ sb → ∀ W, Below w.heap.size w W → (convert 43 9 (.slice (if c = cb then some ⟨g, off, none⟩ else some ⟨g, off + cb, none⟩) (sb - cb) (c - cb))).run Tryd.prog W = .ok (.string (str (cutL l cb sb))) W) := Lib.hid fun h0 W hb => by
    have h3 := drop_at (take_at (RowAt.below h hb (Nat.le_refl _)) s2) h0 (by omega)
    rw [Option.map_some, Go.WideShapes.add_plain, List.drop_take] at h3
    exact conv_row h3
  obtain ⟨tk, htk⟩ : ∃ tk, str (l.take ca) = tk := ⟨_, rfl⟩
  obtain ⟨dr, hdr⟩ : ∃ dr, str (l.drop cb) = dr := ⟨_, rfl⟩
  have htks : tk.size ≤ 100 := by rw [← htk, str_size, List.length_take]; omega
  have hdrs : dr.size ≤ 100 := by rw [← hdr, str_size, List.length_drop]; omega
  rw [htk] at HV1 HF
  rw [hdr] at HV2 HF
  obtain ⟨W0, hW0⟩ : ∃ W0, W0 = w.alloc (.cells #[.int .i64 sa, .int .i64 sb, .int .i64 ca, .int .i64 cb] 59) := ⟨_, rfl⟩
  have hw0 : Below w.heap.size w W0 := by subst hW0; exact below_a1 _ _
  obtain ⟨f0, f1, f2, f3⟩ := four_facts (show W0.heap[w.heap.size]? = some (.cells #[.int .i64 sa, .int .i64 sb, .int .i64 ca, .int .i64 cb] 59 (0, 0)) by subst hW0; exact four_box _ _ _ _ _ _)
  have hte : tb ≤ es.size := by omega
  have hs0 : w.heap.size < W0.heap.size := by subst hW0; simp only [World.size_alloc]; omega
  have hd1 : decide ((100 : Int) < (n : Int)) = false := decide_eq_false (by omega)
  have hd2 : decide ((50 : Int) < (ps.size : Int)) = false := decide_eq_false (by omega)
  have hd3 : ((sa : Int) == (sb : Int)) = false := by rw [beq_eq_false_iff_ne]; omega
  have e1 : decide ((sa : Int) < 0) = false := decide_eq_false (by omega)
  have e2 : decide ((sb : Int) < (sa : Int)) = false := decide_eq_false (by omega)
  have e3 : decide ((n : Int) < (sb : Int)) = false := decide_eq_false (by omega)
  have e4 : decide ((ca : Int) < 0) = false := decide_eq_false (by omega)
  have e5 : decide ((cb : Int) < (ca : Int)) = false := decide_eq_false (by omega)
  have e6 : decide ((n : Int) < (cb : Int)) = false := decide_eq_false (by omega)
  clear T h hS h1 h2 hcase hn k1 k2 hes hvs hsz ht2 htk hdr KC KB
  go_enter Tryd.func8, Tryd.ntmps8
  go_upto_region 1 with (fail)
  rw [← hW0]
  clear hW0
  go_cut [7, 8] (fun s7 s8 wx => ∃ p7 p8, s7 = .pointer (some ⟨p7, 0, none⟩) ∧ s8 = .pointer (some ⟨p8, 0, none⟩) ∧ wx.heap[p7]? = some (.cells #[.int .i64 sa, .int .i64 sb] 25 (0, 0)) ∧ wx.heap[p8]? = some (.cells #[.int .i64 ca, .int .i64 cb] 25 (0, 0)) ∧ Below w.heap.size w wx)
  case first =>
    go_region
    all_goals go_wp2
    all_goals go_meet
    all_goals refine ⟨_, _, rfl, rfl, ?_, ?_, ?_⟩
    all_goals first
      | exact bothA _ _ _ _
      | exact bothB _ _ _ _
      | exact bothC hw0 _ _
  case rest =>
    obtain ⟨p7, p8, rfl, rfl, ha, hb2, hBc⟩ := hcut
    clear f0 f1 f2 f3 hw0
    have hla := (Array.getElem?_eq_some_iff.1 ha).1
    have hlb := (Array.getElem?_eq_some_iff.1 hb2).1
    have HX : Hid (∀ W, Below wc.heap.size wc W → W.cell? ⟨p7, 0, none⟩ = some (.int .i64 sa) ∧ W.cell? ⟨p7, 1, none⟩ = some (.int .i64 sb) ∧ W.cell? ⟨p8, 0, none⟩ = some (.int .i64 ca) ∧ W.cell? ⟨p8, 1, none⟩ = some (.int .i64 cb)) := Lib.hid fun W hW => by
      obtain ⟨a0, a1, _, _⟩ := box_facts ((hW.block _ hla).trans ha)
      obtain ⟨b0, b1, _, _⟩ := box_facts ((hW.block _ hlb).trans hb2)
      exact ⟨a0, a1, b0, b1⟩
    clear ha hb2 hla hlb
    obtain ⟨wo, hwo⟩ : ∃ q, q = wc := ⟨_, rfl⟩
    subst hwo
    have hC := Below.refl wo.heap.size wo
    obtain ⟨a0, a1, b0, b1⟩ := HX.out _ hC
    go_wp2_with fail
    -- MARK2
    refine (K1.out _).mono ?_
    rintro e w1 ⟨rfl, hb1⟩
    have hC := hC.trans (hb1.mono hC.size)
    obtain ⟨a0, a1, b0, b1⟩ := HX.out _ hC
    go_wp2_with fail
    refine (K2.out _).mono ?_
    rintro e w2 ⟨rfl, hb2⟩
    have hC := hC.trans (hb2.mono hC.size)
    obtain ⟨a0, a1, b0, b1⟩ := HX.out _ hC
    -- MARK3
    go_upto_region 4 with (fail)
    -- MARK4
    clear hb1 hb2 K1 K2 hd1 hd2 hd3
    go_upto_region 6 with (fail)
    clear e1 e2 e3 e4 e5 e6
    have hB := hBc.trans (hC.mono hBc.size)
    have hv1 : ∀ k, (convert 43 9 (.slice (some ⟨g, off, none⟩) ca c)).run Tryd.prog (w2.drewN k) = .ok (.string tk) (w2.drewN k) := fun k => HV1.out _ (hB.trans ((below_drewN w2 k).mono hB.size))
    have i1 : (0 : Int) ≤ (ca : Int) := Int.natCast_nonneg _
    have i2 : (ca : Int) ≤ (c : Int) := by omega
    have i3 : (0 : Int) ≤ (cb : Int) := Int.natCast_nonneg _
    have i4 : (cb : Int) ≤ (n : Int) := by omega
    have i5 : (n : Int) ≤ (c : Int) := by omega
    go_cut [9] (fun s9 wx => s9 = .string es ∧ Below wo.heap.size wo wx)
    case first =>
      have hs1 : ∀ W, (Op.stringOp .add tk ps).run Tryd.prog W = .ok (.string (tk ++ ps)) W := fun W => run_string_add_sum W _ _ (by omega)
      have hs2 : ∀ W, (Op.stringOp .add (tk ++ ps) dr).run Tryd.prog W = .ok (.string ((tk ++ ps) ++ dr)) W := fun W => run_string_add_sum W _ _ (by rw [ByteArray.size_append]; omega)
      by_cases hcc : c = cb
      · obtain rfl : n = c := by omega
        subst hcc
        have hv2 : ∀ k, (convert 43 9 (.slice (some ⟨g, off, none⟩) 0 0)).run Tryd.prog (w2.drewN k) = .ok (.string dr) (w2.drewN k) := fun k => by
          have := HV2.out _ (hB.trans ((below_drewN w2 k).mono hB.size))
          rw [if_pos rfl, Nat.sub_self] at this; exact this
        -- MARK6
        go_quiet (fail)
        go_wp2
        go_meet
        exact ⟨by rw [HF.out], hC.trans ((below_drewN w2 _).mono hC.size)⟩
      · have hv2 : ∀ k, (convert 43 9 (.slice (some ⟨g, off + cb, none⟩) (n - cb) (c - cb))).run Tryd.prog (w2.drewN k) = .ok (.string dr) (w2.drewN k) := fun k => by
          have := HV2.out _ (hB.trans ((below_drewN w2 k).mono hB.size))
          rw [if_neg hcc] at this; exact this
        go_quiet (fail)
        go_wp2
        go_meet
        exact ⟨by rw [HF.out], hC.trans ((below_drewN w2 _).mono hC.size)⟩
    case rest =>
      obtain ⟨rfl, hC⟩ := hcut
      clear hv1 HF HV1 HV2 i2 i3 i4 i5
      have hsA : ((sa : Int) < (n : Int)) := by omega
      obtain ⟨a0, a1, b0, b1⟩ := HX.out _ hC
      go_wp2_with fail
      -- MARK7
      refine (K3.out _).mono ?_
      rintro e w3 ⟨rfl, hb3⟩
      have hC3 := hC.trans (hb3.mono hC.size)
      obtain ⟨W4, hW4⟩ : ∃ W4, W4 = w3.alloc (.cells #[.int .i64 ta, .int .i64 tb] 25) := ⟨_, rfl⟩
      have hC4 : Below wo.heap.size wo W4 := by subst hW4; exact hC3.alloc hC3.size _
      have HT : Hid (∀ W, Below W4.heap.size W4 W → W.cell? ⟨w3.heap.size, 0, none⟩ = some (.int .i64 ta) ∧ W.cell? ⟨w3.heap.size, 1, none⟩ = some (.int .i64 tb)) := Lib.hid fun W hW => by
        obtain ⟨q0, q1, _⟩ := one_cells w3 W ta tb 25 (by subst hW4; exact hW)
        exact ⟨q0, q1⟩
      have hD := Below.refl W4.heap.size W4
      obtain ⟨a0, a1, b0, b1⟩ := HX.out _ hC4
      obtain ⟨t0, t1⟩ := HT.out _ hD
      rcases HCASE.out with ⟨rfl, hl1, hl2⟩ | hrest
      · have hB4 := hBc.trans (hC4.mono hBc.size)
        have g1 : decide (max (sa : Int) (ca : Int) < min (sb : Int) (cb : Int)) = true := decide_eq_true (by omega)
        have g2 : decide ((ca : Int) < (sa : Int)) = true ∨ (decide ((ca : Int) < (sa : Int)) = false ∧ decide ((sb : Int) < (cb : Int)) = true) := by
          by_cases hq : ca < sa
          · exact .inl (decide_eq_true (by omega))
          · exact .inr ⟨decide_eq_false (by omega), decide_eq_true (by omega)⟩
        rw [hW4] at a0 a1 b0 b1 t0 t1
        rcases g2 with g2 | ⟨g2, g3⟩ <;> (
          go_wp2_with (go_at_call 12; rw [← hW4]; refine (CA.out _ hB4).mono ?_; rintro e w5 ⟨rfl, hb5⟩)
          all_goals first
            | (go_ret; exact ⟨rfl, hB4.trans (hb5.mono hB4.size)⟩)
            | (exfalso; omega))
      · have he3 : e3 = 0 := by rcases hrest with ⟨h, _⟩ | ⟨h, _⟩ <;> exact h
        subst he3
        have HR : Hid (((bf = true ∨ bh = true) ∧ es.extract ta tb = vs) ∨ (bf = false ∧ bh = false ∧ sa ≤ ca ∧ cb ≤ sb ∧ es.extract ta tb = str (cutL l sa ca) ++ ps ++ str (cutL l cb sb))) := Lib.hid (by
          rcases hrest with ⟨_, h⟩ | ⟨_, h⟩
          · exact .inl h
          · exact .inr h)
        have hB4 := hBc.trans (hC4.mono hBc.size)
        have hv3 := HV3.out W4 hB4
        have hcs : ¬ c = sa := by omega
        have j1 : (0 : Int) ≤ (sa : Int) := Int.natCast_nonneg _
        have j2 : (sa : Int) ≤ (sb : Int) := by omega
        have j3 : (sb : Int) ≤ (c : Int) := by omega
        rw [hW4] at a0 a1 b0 b1 t0 t1 hv3
        clear hrest
        go_wp2_with fail
        rw [← hW4]
        clear a0 a1 b0 b1 t0 t1 hv3 HV3 hW4
        refine (K4.out _).mono ?_
        rintro e w5 ⟨rfl, hb5⟩
        have hC5 := hC4.trans (hb5.mono hC4.size)
        have hD5 := hD.trans (hb5.mono hD.size)
        obtain ⟨a0, a1, b0, b1⟩ := HX.out _ hC5
        go_wp2_with fail
        refine (K5.out _).mono ?_
        rintro e w6 ⟨rfl, hb6⟩
        have hC6 := hC5.trans (hb6.mono hC5.size)
        have hD6 := hD5.trans (hb6.mono hD5.size)
        obtain ⟨t0, t1⟩ := HT.out _ hD6
        go_wp2_with fail
        refine (K6.out _).mono ?_
        rintro e w7 ⟨rfl, hb7⟩
        have hC7 := hC6.trans (hb7.mono hC6.size)
        have hD7 := hD6.trans (hb7.mono hD6.size)
        have hB7 := hBc.trans (hC7.mono hBc.size)
        clear a0 a1 b0 b1 t0 t1 hb3 hb5 hb6 hb7 hC hC3 hC5 hC6 hD5 hD6
        obtain ⟨a0, a1, b0, b1⟩ := HX.out _ hC7
        obtain ⟨t0, t1⟩ := HT.out _ hD7
        have r1 : (0 : Int) ≤ (ta : Int) := Int.natCast_nonneg _
        have r2 : (ta : Int) ≤ (tb : Int) := by omega
        have r3 : (tb : Int) ≤ (es.size : Int) := by omega
        rcases HR.out with ⟨hq1, hq2⟩ | ⟨rfl, rfl, hq1, hq2, hq3⟩
        · cases bf <;> cases bh
          · rcases hq1 with hq1 | hq1 <;> cases hq1
          all_goals
            clear hq1
            go_wp2_with (go_at_call 12; refine (CA.out _ hB7).mono ?_; rintro e w8 ⟨rfl, hb8⟩)
            -- MARK9
            go_ret
            exact ⟨rfl, hB7.trans (hb8.mono hB7.size)⟩
        · have x1 : decide ((ca : Int) < (sa : Int)) = false := decide_eq_false (by omega)
          have x2 : decide ((sb : Int) < (cb : Int)) = false := decide_eq_false (by omega)
          have HQ3 := Lib.hid hq3
          obtain ⟨v1, hw1⟩ : ∃ v1, str (cutL l sa ca) = v1 := ⟨_, rfl⟩
          obtain ⟨v2, hw2⟩ : ∃ v2, str (cutL l cb sb) = v2 := ⟨_, rfl⟩
          have hs1 : v1.size ≤ 100 := by rw [← hw1, str_size]; unfold cutL; exact Nat.le_trans (List.length_take_le _ _) (by omega)
          have hs2 : v2.size ≤ 100 := by rw [← hw2, str_size]; unfold cutL; exact Nat.le_trans (List.length_take_le _ _) (by omega)
          rw [hw1] at HV4 HQ3
          rw [hw2] at HV5 HQ3
          have ho1 : ∀ W, (Op.stringOp .add v1 ps).run Tryd.prog W = .ok (.string (v1 ++ ps)) W := fun W => run_string_add_sum W _ _ (by omega)
          have ho2 : ∀ W, (Op.stringOp .add (v1 ++ ps) v2).run Tryd.prog W = .ok (.string ((v1 ++ ps) ++ v2)) W := fun W => run_string_add_sum W _ _ (by rw [ByteArray.size_append]; omega)
          clear hq3 hw1 hw2
          go_upto_region 19 with (fail)
          clear x1 x2
          have hv4 : ∀ k, (convert 43 9 (.slice (some ⟨g, off + sa, none⟩) (ca - sa) (c - sa))).run Tryd.prog (w7.drewN k) = .ok (.string v1) (w7.drewN k) := fun k => HV4.out hq1 _ (hB7.trans ((below_drewN w7 k).mono hB7.size))
          have j4 : (sa : Int) ≤ (ca : Int) := by omega
          have j5 : (ca : Int) ≤ (c : Int) := by omega
          have j6 : (0 : Int) ≤ (cb : Int) := Int.natCast_nonneg _
          have j7 : (cb : Int) ≤ (sb : Int) := by omega
          go_cut [13] (fun s13 wx => s13 = .string ((v1 ++ ps) ++ v2) ∧ Below w7.heap.size w7 wx)
          case first =>
            by_cases hcc : c = cb
            · obtain rfl : sb = c := by omega
              subst hcc
              have hv5 : ∀ k, (convert 43 9 (.slice (some ⟨g, off, none⟩) 0 0)).run Tryd.prog (w7.drewN k) = .ok (.string v2) (w7.drewN k) := fun k => by
                have := HV5.out (Nat.le_refl _) _ (hB7.trans ((below_drewN w7 k).mono hB7.size))
                rw [if_pos rfl, Nat.sub_self] at this; exact this
              go_quiet (fail)
              go_wp2
              go_meet
              exact ⟨rfl, below_drewN _ _⟩
            · have hv5 : ∀ k, (convert 43 9 (.slice (some ⟨g, off + cb, none⟩) (sb - cb) (c - cb))).run Tryd.prog (w7.drewN k) = .ok (.string v2) (w7.drewN k) := fun k => by
                have := HV5.out hq2 _ (hB7.trans ((below_drewN w7 k).mono hB7.size))
                rw [if_neg hcc] at this; exact this
              go_quiet (fail)
              go_wp2
              go_meet
              exact ⟨rfl, below_drewN _ _⟩
          case rest =>
            obtain ⟨rfl, hE⟩ := hcut
            have hB8 := hB7.trans (hE.mono hB7.size)
            obtain ⟨t0, t1⟩ := HT.out _ (hD7.trans (hE.mono hD7.size))
            have hq3 := HQ3.out
            clear hv4 ho1 ho2
            go_wp2_with (go_at_call 12; refine (CA.out _ hB8).mono ?_; rintro e w8 ⟨rfl, hb8⟩)
            go_ret
            exact ⟨rfl, hB8.trans (hb8.mono hB8.size)⟩
end Go.Proofs.YtbajikkjkiacnaaDoor
