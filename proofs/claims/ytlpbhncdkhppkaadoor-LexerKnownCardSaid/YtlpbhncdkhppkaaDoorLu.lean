/- The reference's Print. -/
import Derived.Test.YtlpbhncdkhppkaaDoorLe
import Derived.Test.YtlpbhncdkhppkaaDoorLo
namespace Go.Proofs.YtlpbhncdkhppkaaDoor
open Go.RowKit Go.PlainAid

theorem bad0 : ∀ l : List Tok, (badT l).2 = 0 → ∀ t ∈ l, ck t = 0 := by
  intro l
  induction l with
  | nil => intro _ t ht; cases ht
  | cons a r ih =>
    intro h t ht
    unfold badT at h
    by_cases h1 : ck a ≠ 0
    · rw [if_pos h1] at h; exact absurd h h1
    · rw [if_neg h1] at h
      by_cases h2 : (badT r).2 = 0
      · rcases List.mem_cons.1 ht with rfl | ht
        · exact Classical.not_not.1 h1
        · exact ih h2 t ht
      · rw [if_neg h2] at h; exact absurd h h2
theorem ap_2 (k : Int) : apB k 2 = false := by unfold apB; split <;> rfl
theorem ap_in {k j : Int} (h : k = 1 ∨ k = 3 ∨ k = 4) : apB k j = false := by unfold apB; rw [if_pos h]
theorem ap_t {k j : Int} (h1 : k ≠ 1) (h3 : k ≠ 3) (h4 : k ≠ 4) (hj : j ≠ 2) : apB k j = true := by unfold apB; rw [if_neg (by omega)]; exact bne_iff_ne.2 hj
set_option maxRecDepth 50000 in
set_option maxHeartbeats 6400000 in
theorem rPrint_any (v : Value) (l : List Tok) (w : World) (h : TksAt w v l) (hl : l.length ≤ 1000000) (hB : TkB l) :
    Calls Tryd.prog 30 #[v] w fun e w' => e = .returned (prV l) ∧ Below w.heap.size w w' := by
  obtain ⟨a, c, rfl⟩ := h.slice
  obtain ⟨n, hn⟩ : ∃ n, l.length = n := ⟨_, rfl⟩
  have HN := Lib.hid hn
  have HC : Hid (∀ (k : Nat) (t : Tok), l[k]? = some t → ∃ g off, a = some ⟨g, off, none⟩ ∧ ∀ W, Below w.heap.size w W → W.cell? ⟨g, off + k * 5, none⟩ = some (.int .i64 t.1) ∧ W.cell? ⟨g, off + k * 5 + 1, none⟩ = some (.int .i64 t.2.1) ∧ W.cell? ⟨g, off + k * 5 + 2, none⟩ = some (.int .i64 t.2.2.1) ∧
      W.cell? ⟨g, off + k * 5 + 3, none⟩ = some (.int .i64 t.2.2.2.1) ∧ W.cell? ⟨g, off + k * 5 + 4, none⟩ = some (.string (str t.2.2.2.2))) := Lib.hid fun k t ht => by
    obtain ⟨g, off, cap, e, hg, hc⟩ := h.some (by intro e; rw [e] at ht; cases ht)
    obtain ⟨rfl, _, rfl⟩ := Value.slice.inj e
    obtain ⟨d0, d1, d2, d3, d4⟩ := tcs_at l ht
    refine ⟨g, off, rfl, fun W hW => ?_⟩
    have F : ∀ j u, (tcs l)[j]? = some u → W.cell? ⟨g, off + j, none⟩ = some u := fun j u hj => (hW.cell (p := ⟨g, off + j, none⟩) hg).trans (hc j u hj)
    exact ⟨F _ _ d0, F _ _ d1, F _ _ d2, F _ _ d3, F _ _ d4⟩
  have CC := Lib.hid (fun (t : Tok) (ht : t ∈ l) W => rCheck_any t.1 t.2.1 t.2.2.1 t.2.2.2.1 t.2.2.2.2 W (hB t ht).2)
  have CT := Lib.hid (fun (t : Tok) (ht : t ∈ l) W (hc : ck t = 0) => rtext_any t.1 t.2.1 t.2.2.1 t.2.2.2.1 t.2.2.2.2 W (hB t ht).1 hc)
  have HL := Lib.hid (fun (t : Tok) (ht : t ∈ l) => tx_le (hB t ht))
  have HST := Lib.hid (badAt_start l)
  have HPA := Lib.hid (fun k t => prG_at k l none t)
  have HPV : Hid (∀ r, prS l = r → prV l = .tuple #[.string (str r.1), .int .i64 (r.2.1 : Int), .int .i64 r.2.2]) := Lib.hid fun r hr => by unfold prV; rw [hr]
  rw [hn] at hl ⊢
  clear h hB hn
  go_enter Tryd.func30, Tryd.ntmps30
  go_wp2_with fail
  -- MARK1
  go_loopw [5] (fun x5 wr => ∃ k : Nat, x5 = .int .i64 (k : Int) ∧ k ≤ n ∧ Hid (BadAt l k) ∧ Below w.heap.size w wr) (fun x5 _ => n - (intOf x5).toNat)
  case atStart => exact ⟨0, rfl, Nat.zero_le _, HST, Below.refl _ _⟩
  case round =>
    obtain ⟨k, rfl, hk, HA, hb⟩ := hrel
    have hk0 : (0 : Int) ≤ (k : Int) := Int.natCast_nonneg _
    by_cases hlt : k < n
    · obtain ⟨t, ht⟩ : ∃ t, l[k]? = some t := ⟨_, List.getElem?_eq_getElem (by rw [HN.out]; exact hlt)⟩
      obtain ⟨g, off, rfl, hcell⟩ := HC.out k t ht
      obtain ⟨c0, c1, c2, c3, c4⟩ := hcell wr hb
      have C := Lib.hid (CC.out t (List.mem_of_getElem? ht))
      have HSt := Lib.hid (fun hc => badAt_step HA.out ht hc)
      have HBd := Lib.hid (fun hc => badAt_bad HA.out ht hc)
      obtain ⟨er, her⟩ : ∃ er, ck t = er := ⟨_, rfl⟩
      have her' : ckT t.1 t.2.2.2.1 t.2.2.2.2 = er := her
      rw [her'] at C
      rw [her] at HSt HBd
      obtain ⟨t0, t1, t2, t3, t4⟩ := t
      simp only at c0 c1 c2 c3 c4 C
      have hk1 : (k : Int) < (n : Int) := by omega
      clear ht hcell her her'
      by_cases he : er = 0
      · subst he
        have HS2 := Lib.hid (HSt.out rfl)
        clear HBd HSt
        go_wp2_with fail
        -- MARK2
        refine (C.out wr).mono ?_
        rintro e w2 ⟨rfl, hb2⟩
        go_wp2_with fail
        go_roundw
        case rel => exact ⟨k + 1, by go_num, by omega, HS2, hb.trans (hb2.mono hb.size)⟩
        case measure => simp [intOf]; omega
      · have HV := Lib.hid (HPV.out _ (HBd.out he))
        have hne : (er != 0) = true := bne_iff_ne.2 he
        clear HBd HSt he
        go_wp2_with fail
        refine (C.out wr).mono ?_
        rintro e w2 ⟨rfl, hb2⟩
        go_wp2_with fail
        -- MARK3
        go_ret3
        exact ⟨by rw [HV.out]; rfl, hb.trans (hb2.mono hb.size)⟩
    · obtain rfl : k = n := by omega
      have HB0 := Lib.hid (badAt_end HA.out (Nat.le_of_eq HN.out))
      have hd0 : decide ((k : Int) < (k : Int)) = false := decide_eq_false (Int.lt_irrefl _)
      obtain ⟨Wb, hWb⟩ : ∃ Wb, Wb = wr := ⟨_, rfl⟩
      subst hWb
      go_wp2_with fail
      -- MARK4
      go_loopw [7, 8] (fun x7 x8 wq => ∃ (j m : Nat) (b : Option Addr) (cb : Nat), x7 = .slice b m cb ∧ x8 = .int .i64 (j : Int) ∧ j ≤ k ∧ m ≤ j * 1000001 ∧ Hid ((prG none (l.take j)).length = m) ∧ Hid (wq.ownsRow Wb.heap.size 5 1 (.slice b m cb) m ((prG none (l.take j)).map bc)) ∧ Below Wb.heap.size Wb wq) (fun _ x8 _ => k - (intOf x8).toNat)
      case atStart => exact ⟨0, 0, none, 0, rfl, rfl, Nat.zero_le _, Nat.zero_le _, Lib.hid rfl, Lib.hid (own_nil _ _ _ _), Below.refl _ _⟩
      case round =>
        obtain ⟨j, m, b, cb, rfl, rfl, hj, hm, HM, HO, hbq⟩ := hrel
        have hbw := hb.trans (hbq.mono hb.size)
        have hj0 : (0 : Int) ≤ (j : Int) := Int.natCast_nonneg _
        by_cases hlt : j < k
        · obtain ⟨t, ht⟩ : ∃ t, l[j]? = some t := ⟨_, List.getElem?_eq_getElem (by rw [HN.out]; exact hlt)⟩
          obtain ⟨g, off, ha, hcell⟩ := HC.out j t ht
          subst ha
          obtain ⟨c0, c1, c2, c3, c4⟩ := hcell wr hbw
          have HCl := Lib.hid hcell
          have hck := bad0 l HB0.out t (List.mem_of_getElem? ht)
          have C := Lib.hid (fun W => CT.out t (List.mem_of_getElem? ht) W hck)
          have HX := Lib.hid (HPA.out j t ht)
          have HXl := Lib.hid (HL.out t (List.mem_of_getElem? ht))
          have hj1 : (j : Int) < (k : Int) := by omega
          obtain ⟨y, hy⟩ : ∃ y, tx t = y := ⟨_, rfl⟩
          have HY := Lib.hid hy
          have HTy : Hid (txT t.1 t.2.2.2.1 t.2.2.2.2 = y) := Lib.hid hy
          have hyl : y.length ≤ 1000000 := by rw [← hy]; exact HXl.out
          obtain ⟨i0, hi, hz0, hz1, hz2⟩ := info_parts2 infoU8
          clear hy hck HXl
          have HOV : Hid (wr.ownsRow Wb.heap.size 5 1 (.slice b m cb) m ((prG none (l.take j) ++ []).map bc)) := Lib.hid (by rw [List.append_nil]; exact HO.out)
          have HMV : Hid ((prG none (l.take j) ++ []).length = m) := Lib.hid (by rw [List.append_nil]; exact HM.out)
          have HSz : Hid (∀ o, Wb.heap.size ≤ (wr.alloc o).heap.size) := Lib.hid (fun o => by simp only [World.size_alloc]; have := hbq.size; omega)
          have hbs := hb.size
          have HG : Hid (∀ o w3, (wr.alloc o).grownBy w3 (Value.slice b m cb).ownBlock → Below w.heap.size w w3 ∧ Below Wb.heap.size Wb w3) := Lib.hid (by
            intro o w3 hg3
            exact ⟨(hbw.alloc hbw.size o).grown hg3 (by simp only [World.size_alloc]; have := hbw.size; omega) (fun q hq => by have := (HO.out.lt _ hq).1; omega),
              (hbq.alloc hbq.size o).grown hg3 (by simp only [World.size_alloc]; have := hbq.size; omega) (fun q hq => (HO.out.lt _ hq).1)⟩)
          have HMX : Hid ((prG none (l.take j) ++ [32]).length = m + 1) := Lib.hid (by rw [List.length_append, HM.out]; rfl)
          have HLX : Hid ((prG none (l.take j)).map bc ++ [.int .u8 32] = (prG none (l.take j) ++ [32]).map bc) := Lib.hid (by rw [List.map_append]; rfl)
          by_cases hjz : j = 0
          · have HSep : Hid (sepO (prevK l j none) t.1 = []) := Lib.hid (by unfold prevK; rw [if_pos hjz]; rfl)
            have hdz : decide ((0 : Int) < (j : Int)) = false := decide_eq_false (by omega)
            have hdz2 : ¬ (0 : Int) < (j : Int) := by omega
            have hdz3 : ¬ 0 < j := by omega
            clear hjz hcell ht
            obtain ⟨t0, t1, t2, t3, t4⟩ := t
            simp only at c0 c1 c2 c3 c4 C HSep HTy
            go_wp2_with fail
            -- MARK5
            refine (C.out _).mono ?_
            rintro e w5 ⟨rfl, hb5⟩
            have HO5 := Lib.hid (own_below HOV.out hb5)
            rw [HTy.out]
            go_wp2_with (at_builtin; refine Lib.wpList_append_own_string _ rfl _ _ 22 9 rfl Wb.heap.size 5 i0 Tryd.underlying22 Tryd.underlying9 hi hz0 hz1 hz2 _ _ _ rfl HO5.out _ rfl (by unfold maxLen; rw [str_size]; omega) (by rw [str_size]; omega) (by have := hbq.size; have := hb5.size; omega) ?_; intro v6 w6 hown6 hgrow6 _; rw [str_size] at hown6; obtain ⟨b6, cb6, rfl⟩ := own_len hown6; have hbg6 := (hbq.trans (hb5.mono hbq.size)).grown hgrow6 (by have := hbq.size; have := hb5.size; omega) (fun q hq => (HO5.out.lt _ hq).1))
            -- MARK6
            have HL6 : Hid (prG none (l.take (j + 1)) = (prG none (l.take j) ++ []) ++ y) := Lib.hid (by rw [HX.out, HY.out, HSep.out, List.append_assoc])
            have HO6 : Hid (w6.ownsRow Wb.heap.size 5 1 (.slice b6 (m + y.length) cb6) (m + y.length) ((prG none (l.take (j + 1))).map bc)) := Lib.hid (by rw [HL6.out, List.map_append]; exact hown6)
            go_roundw
            case rel => exact ⟨j + 1, m + y.length, b6, cb6, rfl, by go_num, by omega, by omega, Lib.hid (by rw [HL6.out, List.length_append, HMV.out]), HO6, hbg6⟩
            case measure => simp [intOf]; omega
          · obtain ⟨s, hs⟩ : ∃ s, l[j - 1]? = some s := ⟨_, List.getElem?_eq_getElem (by rw [HN.out]; omega)⟩
            obtain ⟨g', off', ha, hcell'⟩ := HC.out (j - 1) s hs
            obtain ⟨rfl, rfl⟩ : g' = g ∧ off' = off := by cases ha; exact ⟨rfl, rfl⟩
            obtain ⟨e0, e1, e2, e3, e4⟩ := hcell' wr hbw
            have HSp : Hid (sepO (prevK l j none) t.1 = if apB s.1 t.1 = true then [32] else []) := Lib.hid (by unfold prevK; rw [if_neg hjz, hs]; rfl)
            have hdz : decide ((0 : Int) < (j : Int)) = true := decide_eq_true (by omega)
            have hw1 : IntKind.i64.wrap ((j : Int) - 1) = (j : Int) - 1 := by rw [IntKind.wrap_i64]; omega
            have hi1 : (0 : Int) ≤ (j : Int) - 1 := by omega
            have hi2 : (j : Int) - 1 < (k : Int) := by omega
            have hi3 : ((j : Int) - 1).toNat = j - 1 := by omega
            have hi4 : (1 : Int) ≤ (j : Int) := by omega
            have hdz2 : 0 < j := by omega
            clear hcell hcell' ha hs ht hjz e1 e2 e3 e4
            obtain ⟨t0, t1, t2, t3, t4⟩ := t
            simp only at c0 c1 c2 c3 c4 C HSp HTy HCl
            obtain ⟨s0, s1, s2, s3, s4⟩ := s
            simp only at e0 HSp
            by_cases ht2 : t0 = 2
            · subst ht2
              have HSep : Hid (sepO (prevK l j none) 2 = []) := Lib.hid (by rw [HSp.out, ap_2]; rfl)
              go_wp2_with fail
              -- MARK5
              refine (C.out _).mono ?_
              rintro e w5 ⟨rfl, hb5⟩
              have HO5 := Lib.hid (own_below HOV.out hb5)
              rw [HTy.out]
              go_wp2_with (at_builtin; refine Lib.wpList_append_own_string _ rfl _ _ 22 9 rfl Wb.heap.size 5 i0 Tryd.underlying22 Tryd.underlying9 hi hz0 hz1 hz2 _ _ _ rfl HO5.out _ rfl (by unfold maxLen; rw [str_size]; omega) (by rw [str_size]; omega) (by have := hbq.size; have := hb5.size; omega) ?_; intro v6 w6 hown6 hgrow6 _; rw [str_size] at hown6; obtain ⟨b6, cb6, rfl⟩ := own_len hown6; have hbg6 := (hbq.trans (hb5.mono hbq.size)).grown hgrow6 (by have := hbq.size; have := hb5.size; omega) (fun q hq => (HO5.out.lt _ hq).1))
              -- MARK6
              have HL6 : Hid (prG none (l.take (j + 1)) = (prG none (l.take j) ++ []) ++ y) := Lib.hid (by rw [HX.out, HY.out, HSep.out, List.append_assoc])
              have HO6 : Hid (w6.ownsRow Wb.heap.size 5 1 (.slice b6 (m + y.length) cb6) (m + y.length) ((prG none (l.take (j + 1))).map bc)) := Lib.hid (by rw [HL6.out, List.map_append]; exact hown6)
              go_roundw
              case rel => exact ⟨j + 1, m + y.length, b6, cb6, rfl, by go_num, by omega, by omega, Lib.hid (by rw [HL6.out, List.length_append, HMV.out]), HO6, hbg6⟩
              case measure => simp [intOf]; omega
            have gt2 : (t0 != 2) = true := bne_iff_ne.2 ht2
            by_cases hs1 : s0 = 1
            · subst hs1
              have HSep : Hid (sepO (prevK l j none) t0 = []) := Lib.hid (by rw [HSp.out, ap_in (.inl rfl)]; rfl)
              clear ht2
              go_wp2_with fail
              -- MARK5
              refine (C.out _).mono ?_
              rintro e w5 ⟨rfl, hb5⟩
              have HO5 := Lib.hid (own_below HOV.out hb5)
              rw [HTy.out]
              go_wp2_with (at_builtin; refine Lib.wpList_append_own_string _ rfl _ _ 22 9 rfl Wb.heap.size 5 i0 Tryd.underlying22 Tryd.underlying9 hi hz0 hz1 hz2 _ _ _ rfl HO5.out _ rfl (by unfold maxLen; rw [str_size]; omega) (by rw [str_size]; omega) (by have := hbq.size; have := hb5.size; omega) ?_; intro v6 w6 hown6 hgrow6 _; rw [str_size] at hown6; obtain ⟨b6, cb6, rfl⟩ := own_len hown6; have hbg6 := (hbq.trans (hb5.mono hbq.size)).grown hgrow6 (by have := hbq.size; have := hb5.size; omega) (fun q hq => (HO5.out.lt _ hq).1))
              -- MARK6
              have HL6 : Hid (prG none (l.take (j + 1)) = (prG none (l.take j) ++ []) ++ y) := Lib.hid (by rw [HX.out, HY.out, HSep.out, List.append_assoc])
              have HO6 : Hid (w6.ownsRow Wb.heap.size 5 1 (.slice b6 (m + y.length) cb6) (m + y.length) ((prG none (l.take (j + 1))).map bc)) := Lib.hid (by rw [HL6.out, List.map_append]; exact hown6)
              go_roundw
              case rel => exact ⟨j + 1, m + y.length, b6, cb6, rfl, by go_num, by omega, by omega, Lib.hid (by rw [HL6.out, List.length_append, HMV.out]), HO6, hbg6⟩
              case measure => simp [intOf]; omega
            have gs1 : (s0 != 1) = true := bne_iff_ne.2 hs1
            by_cases hs3 : s0 = 3
            · subst hs3
              have HSep : Hid (sepO (prevK l j none) t0 = []) := Lib.hid (by rw [HSp.out, ap_in (.inr (.inl rfl))]; rfl)
              clear ht2 hs1
              go_wp2_with fail
              -- MARK5
              refine (C.out _).mono ?_
              rintro e w5 ⟨rfl, hb5⟩
              have HO5 := Lib.hid (own_below HOV.out hb5)
              rw [HTy.out]
              go_wp2_with (at_builtin; refine Lib.wpList_append_own_string _ rfl _ _ 22 9 rfl Wb.heap.size 5 i0 Tryd.underlying22 Tryd.underlying9 hi hz0 hz1 hz2 _ _ _ rfl HO5.out _ rfl (by unfold maxLen; rw [str_size]; omega) (by rw [str_size]; omega) (by have := hbq.size; have := hb5.size; omega) ?_; intro v6 w6 hown6 hgrow6 _; rw [str_size] at hown6; obtain ⟨b6, cb6, rfl⟩ := own_len hown6; have hbg6 := (hbq.trans (hb5.mono hbq.size)).grown hgrow6 (by have := hbq.size; have := hb5.size; omega) (fun q hq => (HO5.out.lt _ hq).1))
              -- MARK6
              have HL6 : Hid (prG none (l.take (j + 1)) = (prG none (l.take j) ++ []) ++ y) := Lib.hid (by rw [HX.out, HY.out, HSep.out, List.append_assoc])
              have HO6 : Hid (w6.ownsRow Wb.heap.size 5 1 (.slice b6 (m + y.length) cb6) (m + y.length) ((prG none (l.take (j + 1))).map bc)) := Lib.hid (by rw [HL6.out, List.map_append]; exact hown6)
              go_roundw
              case rel => exact ⟨j + 1, m + y.length, b6, cb6, rfl, by go_num, by omega, by omega, Lib.hid (by rw [HL6.out, List.length_append, HMV.out]), HO6, hbg6⟩
              case measure => simp [intOf]; omega
            have gs3 : (s0 != 3) = true := bne_iff_ne.2 hs3
            by_cases hs4 : s0 = 4
            · subst hs4
              have HSep : Hid (sepO (prevK l j none) t0 = []) := Lib.hid (by rw [HSp.out, ap_in (.inr (.inr rfl))]; rfl)
              clear ht2 hs1 hs3
              go_wp2_with fail
              -- MARK5
              refine (C.out _).mono ?_
              rintro e w5 ⟨rfl, hb5⟩
              have HO5 := Lib.hid (own_below HOV.out hb5)
              rw [HTy.out]
              go_wp2_with (at_builtin; refine Lib.wpList_append_own_string _ rfl _ _ 22 9 rfl Wb.heap.size 5 i0 Tryd.underlying22 Tryd.underlying9 hi hz0 hz1 hz2 _ _ _ rfl HO5.out _ rfl (by unfold maxLen; rw [str_size]; omega) (by rw [str_size]; omega) (by have := hbq.size; have := hb5.size; omega) ?_; intro v6 w6 hown6 hgrow6 _; rw [str_size] at hown6; obtain ⟨b6, cb6, rfl⟩ := own_len hown6; have hbg6 := (hbq.trans (hb5.mono hbq.size)).grown hgrow6 (by have := hbq.size; have := hb5.size; omega) (fun q hq => (HO5.out.lt _ hq).1))
              -- MARK6
              have HL6 : Hid (prG none (l.take (j + 1)) = (prG none (l.take j) ++ []) ++ y) := Lib.hid (by rw [HX.out, HY.out, HSep.out, List.append_assoc])
              have HO6 : Hid (w6.ownsRow Wb.heap.size 5 1 (.slice b6 (m + y.length) cb6) (m + y.length) ((prG none (l.take (j + 1))).map bc)) := Lib.hid (by rw [HL6.out, List.map_append]; exact hown6)
              go_roundw
              case rel => exact ⟨j + 1, m + y.length, b6, cb6, rfl, by go_num, by omega, by omega, Lib.hid (by rw [HL6.out, List.length_append, HMV.out]), HO6, hbg6⟩
              case measure => simp [intOf]; omega
            have gs4 : (s0 != 4) = true := bne_iff_ne.2 hs4
            have HSep : Hid (sepO (prevK l j none) t0 = [32]) := Lib.hid (by rw [HSp.out, ap_t hs1 hs3 hs4 ht2]; rfl)
            clear ht2 hs1 hs3 hs4
            go_wp2_with (at_builtin; refine wpList_append_own _ rfl _ _ 22 rfl Wb.heap.size 5 i0 (.int .u8 0) 1 1 Tryd.underlying22 hi hz0 hz1 hz2 rfl (by decide) _ _ _ rfl (HO.out.alloc _) ⟨wr.heap.size, 0, none⟩ 1 1 [.int .u8 32] rfl rfl (new_cellsT _ _ _ _ rfl) (by simp [Value.oneCell']) (by unfold maxLen; omega) (by omega) (HSz.out _) ?_; intro v3 w3 hown3 hgrow3 _; obtain ⟨b3, cb3, rfl⟩ := own_len hown3; obtain ⟨hVw, hVb⟩ := HG.out _ _ hgrow3; obtain ⟨c0, c1, c2, c3, c4⟩ := HCl.out w3 hVw)
            -- MARK7
            have HOX : Hid (w3.ownsRow Wb.heap.size 5 1 (.slice b3 (m + 1) cb3) (m + 1) ((prG none (l.take j) ++ [32]).map bc)) := Lib.hid (by rw [← HLX.out]; exact hown3)
            refine (C.out _).mono ?_
            rintro e w5 ⟨rfl, hb5⟩
            have HO5 := Lib.hid (own_below HOX.out hb5)
            rw [HTy.out]
            go_wp2_with (at_builtin; refine Lib.wpList_append_own_string _ rfl _ _ 22 9 rfl Wb.heap.size 5 i0 Tryd.underlying22 Tryd.underlying9 hi hz0 hz1 hz2 _ _ _ rfl HO5.out _ rfl (by unfold maxLen; rw [str_size]; omega) (by rw [str_size]; omega) (by have := hVb.size; have := hb5.size; omega) ?_; intro v6 w6 hown6 hgrow6 _; rw [str_size] at hown6; obtain ⟨b6, cb6, rfl⟩ := own_len hown6; have hbg6 := (hVb.trans (hb5.mono hVb.size)).grown hgrow6 (by have := hVb.size; have := hb5.size; omega) (fun q hq => (HO5.out.lt _ hq).1))
            -- MARK8
            have HL6 : Hid (prG none (l.take (j + 1)) = (prG none (l.take j) ++ [32]) ++ y) := Lib.hid (by rw [HX.out, HY.out, HSep.out, List.append_assoc])
            have HO6 : Hid (w6.ownsRow Wb.heap.size 5 1 (.slice b6 (m + 1 + y.length) cb6) (m + 1 + y.length) ((prG none (l.take (j + 1))).map bc)) := Lib.hid (by rw [HL6.out, List.map_append]; exact hown6)
            go_roundw
            case rel => exact ⟨j + 1, m + 1 + y.length, b6, cb6, rfl, by go_num, by omega, by omega, Lib.hid (by rw [HL6.out, List.length_append, HMX.out]), HO6, hbg6⟩
            case measure => simp [intOf]; omega
        · obtain rfl : j = k := by omega
          have hd1 : decide ((j : Int) < (j : Int)) = false := decide_eq_false (Int.lt_irrefl _)
          have hall : l.take j = l := List.take_of_length_le (Nat.le_of_eq HN.out)
          have HM2 : Hid ((prG none l).length = m) := Lib.hid (by have h1 := HM.out; rw [hall] at h1; exact h1)
          by_cases hbig : 8000 < m
          · have HV2 : Hid (prV l = .tuple #[.string (str []), .int .i64 0, .int .i64 3]) := Lib.hid (by
              refine HPV.out ([], 0, 3) ?_
              unfold prS
              rw [if_neg (by rw [HB0.out]; simp), HM2.out, if_pos hbig])
            have hdl : decide ((8000 : Int) < (m : Int)) = true := decide_eq_true (by omega)
            clear hall hd0 hbig
            go_wp2_with fail
            go_ret3
            exact ⟨by rw [HV2.out]; rfl, hbw⟩
          · have HV2 : Hid (prV l = .tuple #[.string (str (prG none l)), .int .i64 0, .int .i64 0]) := Lib.hid (by
              refine HPV.out (prG none l, 0, 0) ?_
              unfold prS
              rw [if_neg (by rw [HB0.out]; simp), HM2.out, if_neg hbig])
            have hdl : decide ((8000 : Int) < (m : Int)) = false := decide_eq_false (by omega)
            have HO2 : Hid (wr.ownsRow Wb.heap.size 5 1 (.slice b m cb) m ((prG none l).map bc)) := Lib.hid (by have := HO.out; rw [hall] at this; exact this)
            have hcv := conv_own Tryd.underlying22 Tryd.underlying5 HO2.out 9 Tryd.underlying9
            clear hall hd0 hbig
            go_wp2_with fail
            -- MARK10
            go_ret3
            exact ⟨by rw [HV2.out]; rfl, hbw⟩
end Go.Proofs.YtlpbhncdkhppkaaDoor
