/- The law DataPuts. -/
import Derived.Test.YtkngkajojcmmlaaDoorDsub2
import Derived.Test.YtkngkajojcmmlaaDoorDrsh
namespace Go.Proofs.YtkngkajojcmmlaaDoor
open Go.RowKit Go.PlainAid

theorem u16_bd {a : Int} (h : (Lit.int .u16 a).wf = true) : 0 ≤ a ∧ a ≤ 65535 := by
  have h' : (decide (IntKind.u16.min ≤ a) && decide (a ≤ IntKind.u16.max)) = true := h
  have h1 : IntKind.u16.min = 0 := rfl
  have h2 : IntKind.u16.max = 65535 := rfl
  rw [h1, h2, Bool.and_eq_true, decide_eq_true_iff, decide_eq_true_iff] at h'
  exact h'
theorem puts_kids {t s : List Nd} {i : Nat} : kidsL (putS t i s) = (kidsL t).take i ++ (kidsL s ++ (kidsL t).drop (endN (kidsL t) i)) := by
  unfold putS; rw [kidsL_app, kidsL_app, kidsL_take, kidsL_drop]
theorem puts_end {t s : List Nd} {i : Nat} (hs : Tr (kidsL s)) (hi : i ≤ t.length) : endN (kidsL (putS t i s)) i = i + s.length := by
  have h1 : (kidsL (putS t i s)).drop i = kidsL s ++ (kidsL t).drop (endN (kidsL t) i) := by
    rw [puts_kids, List.drop_append_of_le_length (by rw [List.length_take, kidsL_len]; omega), List.drop_of_length_le (by rw [List.length_take]; omega), List.nil_append]
  have h2 := eat_behind (kidsL s) 1 [] ((kidsL t).drop (endN (kidsL t) i)) hs
  rw [List.nil_append] at h2
  unfold endN
  rw [h1, h2]
  show (kidsL (putS t i s)).length - _ = _
  rw [puts_kids, List.length_append, List.length_append, List.length_take, kidsL_len, kidsL_len]
  unfold endN
  omega
theorem puts_sub {t s : List Nd} {i : Nat} (hs : Tr (kidsL s)) (hi : i ≤ t.length) : subS (putS t i s) i = s := by
  unfold subS
  rw [puts_end hs hi]
  unfold putS
  rw [← List.append_assoc, List.take_append_of_le_length (by rw [List.length_append, List.length_take]; omega), List.take_of_length_le (by rw [List.length_append, List.length_take]; omega), List.drop_append_of_le_length (by rw [List.length_take]; omega), List.drop_of_length_le (by rw [List.length_take]; omega), List.nil_append]
theorem puts_take {t s : List Nd} {i : Nat} (hi : i ≤ t.length) : (putS t i s).take i = t.take i := by
  unfold putS
  rw [List.take_append_of_le_length (by rw [List.length_take]; omega), List.take_of_length_le (by rw [List.length_take]; omega)]
theorem puts_len {t s : List Nd} {i q : Nat} (hq : endN (kidsL t) i = q) (hi : i ≤ t.length) : (putS t i s).length = i + (s.length + (t.length - q)) := by
  unfold putS; rw [List.length_append, List.length_append, List.length_take, List.length_drop, hq, Nat.min_eq_left hi]
theorem nds_take {w : World} {a : Option Addr} {n c : Nat} {l : List Nd} (h : NdsAt w (.slice a n c) l) (hl : l.length = n) {i : Nat} (hi : i ≤ n) (c' : Nat) : NdsAt w (.slice a i c') (l.take i) := by
  rcases h with ⟨a', cc, e, rfl⟩ | ⟨g, off, cap, e, hg, hc⟩
  · cases e
    have : i = 0 := by simp at hl; omega
    subst this
    exact .inl ⟨_, _, rfl, rfl⟩
  · cases e
    refine .inr ⟨g, off, c', by rw [List.length_take, hl, Nat.min_eq_left hi], hg, fun j u hj => hc j u ?_⟩
    rw [dcs_take] at hj
    rw [List.getElem?_take] at hj
    split at hj
    · exact hj
    · cases hj

set_option maxRecDepth 50000 in
set_option maxHeartbeats 3200000 in
theorem lawPu_bad (v vs : Value) (t s : List Nd) (z : Nat) (w : World) (h : NdsAt w v t) (hs : NdsAt w vs s) (KB : KidsB t) (T : STabs w) (hc : (chkT symS t).2 ≠ 0) :
    Calls Tryd.prog 8 #[v, vs, .int .u16 (z : Int)] w fun e w' => e = .returned (.bool true) ∧ Below w.heap.size w w' := by
  have CS := Lib.hid (fun W (hW : Below w.heap.size w W) => shown_any W (T.below hW))
  have C1 := Lib.hid (Check_any symS v t w h (Lib.hid (symAll_of T)) (Lib.hid KB))
  have CF1 := Lib.hid (fun W (hW : Below w.heap.size w W) => dfar_any v t W (h.below hW (Nat.le_refl _)))
  have CF2 := Lib.hid (fun W (hW : Below w.heap.size w W) => dfar_any vs s W (hs.below hW (Nat.le_refl _)))
  unfold chkTV at C1
  obtain ⟨a1, c1, rfl⟩ := h.slice
  obtain ⟨a2, c2, rfl⟩ := hs.slice
  obtain ⟨i, e, hie⟩ : ∃ i e, chkT symS t = (i, e) := ⟨_, _, rfl⟩
  rw [hie] at C1 hc
  have hne : (e != 0) = true := bne_iff_ne.2 hc
  clear h hs KB T hie hc
  go_enter Tryd.func8, Tryd.ntmps8
  go_wp2_with fail
  refine C1.out.mono ?_
  rintro e' w1 ⟨rfl, hb1⟩
  go_wp2_with fail
  refine (CF1.out w1 hb1).mono ?_
  rintro e' w2 ⟨bf, rfl, _, hb2⟩
  have hB2 := hb1.trans (hb2.mono hb1.size)
  cases bf with
  | true =>
    go_wp2_with fail
    refine (CS.out w2 hB2).mono ?_
    rintro e' w3 ⟨rfl, hb3⟩
    go_wp2_with fail
    go_ret
    exact ⟨rfl, hB2.trans (hb3.mono hB2.size)⟩
  | false =>
    go_wp2_with fail
    refine (CF2.out w2 hB2).mono ?_
    rintro e' w3 ⟨bg, rfl, _, hb3⟩
    have hB3 := hB2.trans (hb3.mono hB2.size)
    cases bg <;> (
      go_wp2_with fail
      refine (CS.out w3 hB3).mono ?_
      rintro e' w4 ⟨rfl, hb4⟩
      go_wp2_with fail
      go_ret
      exact ⟨rfl, hB3.trans (hb4.mono hB3.size)⟩)

theorem puts_facts {t s : List Nd} {i : Nat} (hc : (chkT symS t).2 = 0) (hi : i < t.length) (hp : putE symS t (i : Int) s = 0) :
    (chkT symS s).2 = 0 ∧ (chkT symS (putS t i s)).2 = 0 ∧ atE symS t (i : Int) = 0 ∧ atE symS (putS t i s) (i : Int) = 0 ∧ s ≠ [] := by
  have ha : atE symS t (i : Int) = 0 := atE_in hc (by omega)
  unfold putE at hp
  rw [if_neg (by rw [hc]; simp)] at hp
  by_cases hs : (chkT symS s).2 = 0
  · rw [if_neg (by rw [hs]; simp), if_neg (by rw [ha]; simp), Int.toNat_natCast] at hp
    obtain ⟨s1, s2, s3, _, _⟩ := chkT_ok hs
    refine ⟨hs, hp, ha, atE_in hp ?_, s2⟩
    rw [puts_len rfl (Nat.le_of_lt hi)]
    have := List.length_pos_iff.2 s2
    omega
  · rw [if_pos hs] at hp; exact absurd hp hs

set_option maxRecDepth 50000 in
set_option maxHeartbeats 3200000 in
theorem lawPu_ok (v vs : Value) (t s : List Nd) (z : Nat) (w : World) (h : NdsAt w v t) (hs : NdsAt w vs s) (KB : KidsB t) (KBs : KidsB s) (hcv : capOk v) (T : STabs w) (hz : z ≤ 65535) (hc : (chkT symS t).2 = 0) :
    Calls Tryd.prog 8 #[v, vs, .int .u16 (z : Int)] w fun e w' => e = .returned (.bool true) ∧ Below w.heap.size w w' := by
  obtain ⟨t1, t2, t3, _, hce⟩ := chkT_ok hc
  have ht0 := List.length_pos_iff.2 t2
  obtain ⟨i, hi⟩ : ∃ i, z % t.length = i := ⟨_, rfl⟩
  have hin : i < t.length := by rw [← hi]; exact Nat.mod_lt _ ht0
  have CS := Lib.hid (fun W (hW : Below w.heap.size w W) => shown_any W (T.below hW))
  have C1 := Lib.hid (Check_any symS v t w h (Lib.hid (symAll_of T)) (Lib.hid KB))
  have CF1 := Lib.hid (fun W (hW : Below w.heap.size w W) => dfar_any v t W (h.below hW (Nat.le_refl _)))
  have CF2 := Lib.hid (fun W (hW : Below w.heap.size w W) => dfar_any vs s W (hs.below hW (Nat.le_refl _)))
  have HK : Hid (∀ x ∈ [t, s], KidsB x) := Lib.hid (by
    intro x hx
    rcases List.mem_cons.1 hx with e | hx
    · rw [e]; exact KB
    · rw [show x = s by simpa using hx]; exact KBs)
  have HKt := Lib.hid KB
  have HKp : Hid (KidsB (putS t i s)) := Lib.hid (kidsB_put KB KBs)
  have CP := Lib.hid (fun W (hW : Below w.heap.size w W) => Put_any symS v vs t s (i : Int) W (h.below hW (Nat.le_refl _)) (hs.below hW (Nat.le_refl _)) (Lib.hid (symAll_of (T.below hW))) HK hcv)
  have CZ := Lib.hid (fun W (hW : Below w.heap.size w W) => Size_any symS v t (i : Int) W (h.below hW (Nat.le_refl _)) (Lib.hid (symAll_of (T.below hW))) HKt)
  have CU := Lib.hid (fun W u (hW : Below w.heap.size w W) (hu : NdsAt W u (putS t i s)) (hcu : capOk u) => Sub_any symS u (putS t i s) (i : Int) W hu (Lib.hid (symAll_of (T.below hW))) HKp hcu)
  have CC := Lib.hid (fun W u (hW : Below w.heap.size w W) (hu : NdsAt W u (putS t i s)) => Check_any symS u (putS t i s) W hu (Lib.hid (symAll_of (T.below hW))) HKp)
  have CM := Lib.hid (fun W v1 v2 (l : List Nd) (h1 : NdsAt W v1 l) (h2 : NdsAt W v2 l) (hl : l.length ≤ 1000000) => same4_eq v1 v2 l W h1 h2 hl)
  have HF := Lib.hid (fun hp => puts_facts (s := s) hc hin hp)
  have CU' : Hid (putE symS t (i : Int) s = 0 → ∀ W u, Below w.heap.size w W → NdsAt W u (putS t i s) → capOk u → Calls Tryd.prog 31 #[u, .int .i64 (i : Int)] W fun e w' => ∃ a c, e = .returned (.tuple #[.slice a s.length c, .int .i64 0]) ∧ NdsAt w' (.slice a s.length c) s ∧ Below W.heap.size W w') := Lib.hid fun hp W u hW hu hcu => by
    obtain ⟨f1, f2, f3, f4, f5⟩ := HF.out hp
    refine (CU.out W u hW hu hcu).mono ?_
    rintro e w' ⟨_, h2, h3⟩
    obtain ⟨a, c, rfl, hN, _⟩ := h2 f4
    rw [Int.toNat_natCast, puts_sub (chkT_ok f1).1 (Nat.le_of_lt hin)] at hN ⊢
    exact ⟨a, c, rfl, hN, h3⟩
  have CZ' : Hid (∀ W, Below w.heap.size w W → Calls Tryd.prog 18 #[v, .int .i64 (i : Int)] W fun e w' => e = .returned (.tuple #[.int .i64 ((endN (kidsL t) i : Int) - (i : Int)), .int .i64 0]) ∧ Below W.heap.size W w') := Lib.hid fun W hW => by
    have := CZ.out W hW
    unfold sizeV at this
    rw [atE_in hc (by omega), if_pos rfl, Int.toNat_natCast] at this
    exact this
  have CC' : Hid (putE symS t (i : Int) s = 0 → ∀ W u, Below w.heap.size w W → NdsAt W u (putS t i s) → Calls Tryd.prog 14 #[u] W fun e w' => e = .returned (.tuple #[.int .i64 0, .int .i64 0]) ∧ Below W.heap.size W w') := Lib.hid fun hp W u hW hu => by
    have := CC.out W u hW hu
    unfold chkTV at this
    rw [(chkT_ok (HF.out hp).2.1).2.2.2.2] at this
    exact this
  have HL : Hid (putE symS t (i : Int) s = 0 → putS t i s ≠ [] ∧ (putS t i s).take i = t.take i ∧ (putS t i s).length ≤ 400) := Lib.hid fun hp => by
    obtain ⟨f1, f2, f3, f4, f5⟩ := HF.out hp
    exact ⟨(chkT_ok f2).2.1, puts_take (Nat.le_of_lt hin), (chkT_ok f2).2.2.1⟩
  have HLen : Hid (∀ q, endN (kidsL t) i = q → (putS t i s).length = i + (s.length + (t.length - q))) := Lib.hid fun q hq => puts_len hq (Nat.le_of_lt hin)
  obtain ⟨e1, e2⟩ := t1.end_bd (p := i) (by rw [kidsL_len]; exact hin)
  rw [kidsL_len] at e2
  clear CU CZ CC HF
  have HT := Lib.hid h
  have HS := Lib.hid hs
  unfold PutV at CP
  unfold chkTV at C1
  rw [hce] at C1
  obtain ⟨q, hq⟩ : ∃ q, endN (kidsL t) i = q := ⟨_, rfl⟩
  have hLen := HLen.out q hq
  rw [hq] at CZ' e1 e2
  obtain ⟨n, hn⟩ : ∃ n, t.length = n := ⟨_, rfl⟩
  obtain ⟨m, hm⟩ : ∃ m, s.length = m := ⟨_, rfl⟩
  have HN := Lib.hid hn
  have HM := Lib.hid hm
  obtain ⟨pe, hpe⟩ : ∃ pe, putE symS t (i : Int) s = pe := ⟨_, rfl⟩
  have HPE := Lib.hid hpe
  rw [hpe] at CP CU' CC' HL
  obtain ⟨U, hU⟩ : ∃ U, putS t i s = U := ⟨_, rfl⟩
  rw [hU] at CU' CC' HL hLen
  have CP' : Hid (∀ W, Below w.heap.size w W → Calls Tryd.prog 36 #[v, .int .i64 (i : Int), vs] W fun e w' => ∃ u, e = .returned (.tuple #[u, .int .i64 pe]) ∧ (pe ≠ 0 → u = .slice none 0 0) ∧ (pe = 0 → NdsAt w' u U ∧ capOk u) ∧ Below W.heap.size W w') := Lib.hid fun W hW => by
    have := CP.out W hW
    rw [Int.toNat_natCast, hU] at this
    exact this
  obtain ⟨gt, ot, c1, rfl, _, _⟩ := h.some t2
  obtain ⟨a2, c2, rfl⟩ := hs.slice
  have hc1 : n ≤ c1 := by rw [← hn]; exact hcv _ _ _ rfl
  rw [hn] at C1 CF1 CP' CZ' HT hin ht0 hi t3 hLen e2
  rw [hm] at CF2 CP' HS CU' hLen
  rw [hn, hm]
  have hn0 : ((n : Int) == 0) = false := beq_eq_false_iff_ne.2 (by omega)
  have hn1 : (n : Int) ≠ 0 := by omega
  have hrem : (z : Int).tmod (n : Int) = (i : Int) := by rw [← hi]; exact (Int.ofNat_tmod z n).symm
  clear h hs KB KBs T hc hce t1 t2 hcv hq hn hm hpe hi HK HKt HKp CP HLen hU HPE
  go_enter Tryd.func8, Tryd.ntmps8
  go_wp2_with fail
  refine C1.out.mono ?_
  rintro e' w1 ⟨rfl, hb1⟩
  go_wp2_with fail
  refine (CF1.out w1 hb1).mono ?_
  rintro e' w2 ⟨bf, rfl, _, hb2⟩
  have hB2 := hb1.trans (hb2.mono hb1.size)
  cases bf with
  | true =>
    go_wp2_with fail
    refine (CS.out w2 hB2).mono ?_
    rintro e' w3 ⟨rfl, hb3⟩
    go_wp2_with fail
    go_ret
    exact ⟨rfl, hB2.trans (hb3.mono hB2.size)⟩
  | false =>
    go_wp2_with fail
    refine (CF2.out w2 hB2).mono ?_
    rintro e' w3 ⟨bg, rfl, hfar, hb3⟩
    have hB3 := hB2.trans (hb3.mono hB2.size)
    cases bg with
    | true =>
      go_wp2_with fail
      refine (CS.out w3 hB3).mono ?_
      rintro e' w4 ⟨rfl, hb4⟩
      go_wp2_with fail
      go_ret
      exact ⟨rfl, hB3.trans (hb4.mono hB3.size)⟩
    | false =>
      have hm4 : m ≤ 410 := by rw [← HM.out]; exact (hfar rfl).1
      clear hfar
      go_wp2_with fail
      -- MARK1
      refine (CP'.out w3 hB3).mono ?_
      rintro e' w4 ⟨u, rfl, hu1, hu2, hb4⟩
      have hB4 := hB3.trans (hb4.mono hB3.size)
      by_cases hp : pe = 0
      · obtain ⟨hN, hcu⟩ := hu2 hp
        obtain ⟨hU1, hU2, hU3⟩ := HL.out hp
        have CU := Lib.hid (CU'.out hp)
        have CC := Lib.hid (CC'.out hp)
        clear hu1 hu2 CU' CC' HL
        subst hp
        have HN4 := Lib.hid hN
        obtain ⟨gu, ou, cu, rfl, _, _⟩ := hN.some hU1
        have HCU := Lib.hid hcu
        obtain ⟨L, hL⟩ : ∃ L, U.length = L := ⟨_, rfl⟩
        have hcu2 : L ≤ cu := by rw [← hL]; exact hcu _ _ _ rfl
        rw [hL] at HN4 HCU hU3 hLen ⊢
        have HLL := Lib.hid hL
        have HTk := Lib.hid hU2
        have hbq : ((L : Int) == (n : Int) - ((q : Int) - (i : Int)) + (m : Int)) = true := beq_iff_eq.2 (by omega)
        have hiL : i ≤ L := by omega
        have hdg : decide ((i : Int) ≤ (L : Int)) = true := decide_eq_true (by omega)
        have hx1 : (i : Int) ≤ (cu : Int) := by omega
        have hx2 : (i : Int) ≤ (c1 : Int) := by omega
        have hx3 : (i : Int) < (q : Int) := by omega
        have hx4 : (q : Int) ≤ (n : Int) := by omega
        have hx5 : (0 : Int) ≤ (i : Int) := Int.natCast_nonneg _
        clear hN hcu hL hU1 hU2 hLen hrem hz
        go_wp2_with fail
        -- MARK2
        refine (CU.out w4 _ hB4 HN4.out HCU.out).mono ?_
        rintro e' w5 ⟨a5, c5, rfl, hN5, hb5⟩
        have hB5 := hB4.trans (hb5.mono hB4.size)
        have HN5 := Lib.hid hN5
        clear hN5
        go_wp2_with fail
        -- MARK4
        refine (CZ'.out w5 hB5).mono ?_
        rintro e' w6 ⟨rfl, hb6⟩
        have hB6 := hB5.trans (hb6.mono hB5.size)
        go_wp2_with fail
        -- MARK5
        refine (CC.out w6 _ hB6 ((HN4.out.below hb5 (Nat.le_refl _)).below hb6 (Nat.le_refl _))).mono ?_
        rintro e' w7 ⟨rfl, hb7⟩
        have hB7 := hB6.trans (hb7.mono hB6.size)
        have hb47 := hb5.trans ((hb6.trans (hb7.mono hb6.size)).mono hb5.size)
        have HN7 := Lib.hid (HN4.out.below hb47 (Nat.le_refl _))
        have HS5 := Lib.hid (HN5.out.below (hb6.trans (hb7.mono hb6.size)) (Nat.le_refl _))
        go_wp2_with fail
        have HSo := Lib.hid (HS.out.below hB7 (Nat.le_refl _))
        have hBd := hB7.drew
        have HUt := Lib.hid (nds_take HN7.out HLL.out hiL cu)
        have HTt : Hid (NdsAt w7 (.slice (some ⟨gt, ot, none⟩) i c1) (U.take i)) := Lib.hid (by rw [HTk.out]; exact nds_take (HT.out.below hB7 (Nat.le_refl _)) HN.out (Nat.le_of_lt hin) c1)
        have hms : s.length ≤ 1000000 := by rw [HM.out]; omega
        have hmu : (U.take i).length ≤ 1000000 := by rw [List.length_take]; omega
        have HMS := Lib.hid hms
        have HMU := Lib.hid hmu
        have e3 : IntKind.i64.wrap ((n : Int) - ((q : Int) - (i : Int))) = (n : Int) - ((q : Int) - (i : Int)) := by rw [IntKind.wrap_i64]; omega
        have e4 : IntKind.i64.wrap ((n : Int) - ((q : Int) - (i : Int)) + (m : Int)) = (n : Int) - ((q : Int) - (i : Int)) + (m : Int) := by rw [IntKind.wrap_i64]; omega
        clear hms hmu HN7 hb47 CU CC CP' CZ' C1 CF1 CF2 HN4 HN5 HCU HS HT HN HM HLL HTk
        have htr : True := trivial
        have HD1 : Hid (NdsAt w7.drew (.slice a5 m c5) s) := HS5
        have HD2 : Hid (NdsAt w7.drew (.slice a2 m c2) s) := HSo
        have HD3 : Hid (NdsAt w7.drew (.slice (some ⟨gu, ou, none⟩) i cu) (U.take i)) := HUt
        have HD4 : Hid (NdsAt w7.drew (.slice (some ⟨gt, ot, none⟩) i c1) (U.take i)) := HTt
        -- MARK6
        go_region_held3 (fun w' => w'.heap.size = w'.heap.size) (go_keep) (first
          | ((go_at_call 35; refine (CM.out w8 _ _ (U.take i) (HD3.out.below hb8 (Nat.le_refl _)) (HD4.out.below hb8 (Nat.le_refl _)) HMU.out).mono ?_; rintro e' w9 ⟨rfl, hb9⟩; have hB9 := hB8.trans (hb9.mono hB8.size)))
          | ((go_at_call 35; refine (CM.out w7.drew _ _ s HD1.out HD2.out HMS.out).mono ?_; rintro e' w8 ⟨rfl, hb8⟩; have hB8 := hBd.trans (hb8.mono hBd.size)))
          | ((go_at_call 13; refine (CS.out w9 hB9).mono ?_; rintro e' w10 ⟨rfl, hb10⟩; have hB10 := hB9.trans (hb10.mono hB9.size))))
        -- MARK7
        all_goals go_wp2
        all_goals go_ret
        all_goals exact ⟨rfl, hB10⟩
      · obtain rfl := hu1 hp
        have hne : (pe != 0) = true := bne_iff_ne.2 hp
        clear hu1 hu2 hp
        go_wp2_with fail
        -- MK3
        refine (CS.out w4 hB4).mono ?_
        rintro e' w5 ⟨rfl, hb5⟩
        go_wp2_with fail
        go_ret
        exact ⟨rfl, hB4.trans (hb5.mono hB4.size)⟩
theorem lawPu_arg (v vs : Value) (t s : List Nd) (a : Int) (hw : (Lit.int .u16 a).wf = true) (w : World) (h : NdsAt w v t) (hs : NdsAt w vs s) (KB : KidsB t) (KBs : KidsB s) (hcv : capOk v) (T : STabs w) :
    Calls Tryd.prog 8 #[v, vs, .int .u16 a] w fun e w' => e = .returned (.bool true) ∧ Below w.heap.size w w' := by
  obtain ⟨h0, h1⟩ := u16_bd hw
  obtain ⟨z, rfl⟩ : ∃ z : Nat, a = (z : Int) := ⟨a.toNat, by omega⟩
  by_cases hc : (chkT symS t).2 = 0
  · exact lawPu_ok v vs t s z w h hs KB KBs hcv T (by omega) hc
  · exact lawPu_bad v vs t s z w h hs KB T hc
end Go.Proofs.YtkngkajojcmmlaaDoor
