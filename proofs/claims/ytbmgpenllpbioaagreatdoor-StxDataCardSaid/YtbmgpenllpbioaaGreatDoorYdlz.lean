/- The law StxData. -/
import Derived.Test.YtbmgpenllpbioaaGreatDoorYdm
import Derived.Test.YtbmgpenllpbioaaGreatDoorYf
import Derived.Test.YtbmgpenllpbioaaGreatDoorYaw
import Derived.BigQuiet
namespace Go.Proofs.YtbmgpenllpbioaaGreatDoor
open Go.RowKit Go.PlainAid

/-- What the calls of StxData return. -/
structure GivesDa (n : Nat) (av ta sa : Option Addr) (nt ns cv tc sc : Nat) (l : List Sx) (t : List Nd) (sp : List (Int × Int)) (A : List Sx) (na : Nat) (ea : Int) (D : List Nd) (nd : Nat) (ed : Int) (Q : List (Int × Int)) (nq : Nat) (eq : Int) (w : World) : Prop where
  o1 : ∀ W, Below w.heap.size w W → Calls Tryz.prog 26 #[.agg #[.slice ta nt tc, .slice sa ns sc]] W (ChgR A na ea W)
  o2 : ∀ W, Below w.heap.size w W → Calls Tryz.prog 27 #[.agg #[.slice ta nt tc, .slice sa ns sc]] W (ChgR A na ea W)
  d1 : ∀ W, Below w.heap.size w W → Calls Tryz.prog 28 #[.slice av n cv] W (NdR D nd ed W)
  d2 : ∀ W, Below w.heap.size w W → Calls Tryz.prog 29 #[.slice av n cv] W (NdR D nd ed W)
  s1 : ∀ W, Below w.heap.size w W → Calls Tryz.prog 31 #[.slice av n cv] W (SpR Q nq eq W)
  s2 : ∀ W, Below w.heap.size w W → Calls Tryz.prog 32 #[.slice av n cv] W (SpR Q nq eq W)
  b1 : ea = 0 → ∀ W va, Below w.heap.size w W → XsAt W va A → Calls Tryz.prog 28 #[va] W (NdR t nt 0 W)
  b2 : ea = 0 → ∀ W va, Below w.heap.size w W → XsAt W va A → Calls Tryz.prog 31 #[va] W (SpR sp ns 0 W)
  sz : A.length ≤ 1000000 ∧ D.length ≤ 1000000 ∧ Q.length ≤ 1000000 ∧ t.length ≤ 1000000 ∧ sp.length ≤ 1000000
theorem ofX_sm {t : List Nd} {sp : List (Int × Int)} (h : ∀ x ∈ t, x.2.2.2.length ≤ 100000) : SmX (ofX t sp).1 := by
  unfold ofX
  split
  · intro x hx; cases hx
  · split
    · intro x hx; cases hx
    · split
      · intro x hx; cases hx
      · intro x hx
        obtain ⟨i, hi, rfl⟩ := List.getElem_of_mem hx
        simp only [List.getElem_zipWith]
        exact ⟨h _ (List.getElem_mem _), Nat.zero_le _⟩
theorem ofX_in {t : List Nd} {sp : List (Int × Int)} (h : KidsB t) : InX (ofX t sp).1 := by
  unfold ofX
  split
  · intro x hx; cases hx
  · split
    · intro x hx; cases hx
    · split
      · intro x hx; cases hx
      · intro x hx
        obtain ⟨i, hi, rfl⟩ := List.getElem_of_mem hx
        simp only [List.getElem_zipWith]
        exact h _ (List.getElem_mem _)
theorem ofX_le (t : List Nd) (sp : List (Int × Int)) : (ofX t sp).1.length ≤ t.length := by
  unfold ofX
  split
  · exact Nat.zero_le _
  · split
    · exact Nat.zero_le _
    · split
      · exact Nat.zero_le _
      · simp only [List.length_zipWith]; omega
theorem dataX_le (l : List Sx) : (dataX l).1.length ≤ l.length := by
  unfold dataX; split
  · exact Nat.zero_le _
  · simp
theorem spansX_le (l : List Sx) : (spansX l).1.length ≤ l.length := by
  unfold spansX; split
  · exact Nat.zero_le _
  · simp
theorem ndR_of {r : List Nd × Int} {L : List Nd} {er : Int} {n : Nat} (h : r = (L, er)) (hn : L.length = n) {W : World} {e : Ending} {W' : World} (hc : NdR r.1 r.1.length r.2 W e W') : NdR L n er W e W' := by
  subst h; subst hn; exact hc
theorem spR_of {r : List (Int × Int) × Int} {L : List (Int × Int)} {er : Int} {n : Nat} (h : r = (L, er)) (hn : L.length = n) {W : World} {e : Ending} {W' : World} (hc : SpR r.1 r.1.length r.2 W e W') : SpR L n er W e W' := by
  subst h; subst hn; exact hc
theorem givesDa {n nt ns : Nat} {av ta sa : Option Addr} {cv tc sc : Nat} {l : List Sx} {t : List Nd} {sp : List (Int × Int)} {w : World} (h : XsAt w (.slice av n cv) l) (ht : NdsAt w (.slice ta nt tc) t) (hsp : SpAt w (.slice sa ns sc) sp) (hs : SmX l) (hi : InX l) (KB : KidsB t) (hst : ∀ x ∈ t, x.2.2.2.length ≤ 100000) (T : STabs w) (hnt : t.length = nt) (hns : sp.length = ns) (hl : l.length ≤ 2010) (hl2 : nt ≤ 100) (hl3 : ns ≤ 100) :
    GivesDa n av ta sa nt ns cv tc sc l t sp (ofX t sp).1 (ofX t sp).1.length (ofX t sp).2 (dataX l).1 (dataX l).1.length (dataX l).2 (spansX l).1 (spansX l).1.length (spansX l).2 w := by
  have hv : ∀ W, Below w.heap.size w W → XsAt W (.slice av n cv) l := fun W hW => h.below hW (Nat.le_refl _)
  have hA := ofX_le t sp
  refine ⟨?_, ?_, ?_, ?_, ?_, ?_, ?_, ?_, ?_⟩
  · exact fun W hW => Of_any _ _ t sp W (ht.below hW (Nat.le_refl _)) (hsp.below hW (Nat.le_refl _)) KB (T.below hW)
  · exact fun W hW => rOf_any _ _ t sp W (ht.below hW (Nat.le_refl _)) (hsp.below hW (Nat.le_refl _)) KB
  · exact fun W hW => Data_any _ l W (hv W hW) hs hi (T.below hW)
  · exact fun W hW => rData_any _ l W (hv W hW) hs hi
  · exact fun W hW => Spans_any _ l W (hv W hW) hs hi (T.below hW)
  · exact fun W hW => rSpans_any _ l W (hv W hW) hs hi
  · exact fun he W va hW ha => (Data_any va _ W ha (ofX_sm hst) (ofX_in KB) (T.below hW)).mono fun e W' hc => ndR_of (ofX_back he).1 hnt hc
  · exact fun he W va hW ha => (Spans_any va _ W ha (ofX_sm hst) (ofX_in KB) (T.below hW)).mono fun e W' hc => spR_of (ofX_back he).2 hns hc
  · have := dataX_le l
    have := spansX_le l
    exact ⟨by omega, by omega, by omega, by omega, by omega⟩
set_option maxRecDepth 100000 in
set_option maxHeartbeats 12800000 in
/-- Behind the loop: all is small. -/
theorem lawDa_go (n nt ns na nd nq : Nat) (av ta sa : Option Addr) (cv tc sc : Nat) (l : List Sx) (t : List Nd) (sp : List (Int × Int)) (A : List Sx) (ea : Int) (D : List Nd) (ed : Int) (Q : List (Int × Int)) (eq : Int) (w : World) (ht : NdsAt w (.slice ta nt tc) t) (hsp : SpAt w (.slice sa ns sc) sp) (hnt : t.length = nt)
    (CF : Calls Tryz.prog 10 #[.slice av n cv] (w.alloc (.cells #[.slice ta nt tc, .slice sa ns sc] 47)) (FarV l (w.alloc (.cells #[.slice ta nt tc, .slice sa ns sc] 47))))
    (CAw : ∀ W, Below w.heap.size w W → Calls Tryz.prog 11 #[] W fun e w' => e = .returned (.bool true) ∧ Below W.heap.size W w')
    (HG : NearX l → nt ≤ 100 → ns ≤ 100 → (∀ x ∈ t, x.2.2.2.length ≤ 200) → GivesDa n av ta sa nt ns cv tc sc l t sp A na ea D nd ed Q nq eq w) :
    Calls Tryz.prog 5 #[.agg #[.slice ta nt tc, .slice sa ns sc], .slice av n cv] w fun e w' => e = .returned (.bool true) ∧ Below w.heap.size w w' := by
  replace CF := Lib.hid CF
  replace CAw := Lib.hid CAw
  replace HG := Lib.hid HG
  have HT := Lib.hid (fun W (hW : Below w.heap.size w W) => ht.below hW (Nat.le_refl _))
  have HS := Lib.hid (fun W (hW : Below w.heap.size w W) => hsp.below hW (Nat.le_refl _))
  have HLt := Lib.hid hnt
  have CS : Hid (∀ v u L W, XsAt W v L → XsAt W u L → L.length ≤ 1000000 → Calls Tryz.prog 23 #[v, u] W fun e w' => e = .returned (.bool true) ∧ Below W.heap.size W w') := Lib.hid fun v u L W h1 h2 h3 => sameTree_any v u L W h1 h2 h3
  have C4 : Hid (∀ v u L W, NdsAt W v L → NdsAt W u L → L.length ≤ 1000000 → Calls Tryz.prog 30 #[v, u] W fun e w' => e = .returned (.bool true) ∧ Below W.heap.size W w') := Lib.hid fun v u L W h1 h2 h3 => same4_x v u L W h1 h2 h3
  have C3 : Hid (∀ v u L W, SpAt W v L → SpAt W u L → L.length ≤ 1000000 → Calls Tryz.prog 33 #[v, u] W fun e w' => e = .returned (.bool true) ∧ Below W.heap.size W w') := Lib.hid fun v u L W h1 h2 h3 => same3_x v u L W h1 h2 h3
  obtain ⟨w0, hw0⟩ : ∃ w0, w0 = w.alloc (.cells #[.slice ta nt tc, .slice sa ns sc] 47) := ⟨_, rfl⟩
  have hb0 : Below w.heap.size w w0 := by rw [hw0]; exact below_b1 w _
  have hbx : w0.heap[w.heap.size]? = some (.cells #[.slice ta nt tc, .slice sa ns sc] 47 (0, 0)) := by rw [hw0]; exact World.alloc_heap_new _ _
  have hsz : w.heap.size < w0.heap.size := by rw [hw0, World.size_alloc]; omega
  have HBx : Hid (∀ W, Below w0.heap.size w0 W → W.cell? ⟨w.heap.size, 0, none⟩ = some (.slice ta nt tc) ∧ W.cell? ⟨w.heap.size, 1, none⟩ = some (.slice sa ns sc)) := Lib.hid fun W hW => by
    have h := (hW.block w.heap.size hsz).trans hbx
    exact ⟨by simp [World.cell?, h], by simp [World.cell?, h]⟩
  rw [← hw0] at CF
  obtain ⟨b0, b1⟩ := HBx.out w0 (Below.refl _ _)
  have HB0 := Lib.hid hb0
  clear ht hsp hnt hbx hb0
  go_enter Tryz.func5, Tryz.ntmps5
  go_upto_region 1 with (fail)
  rw [← hw0]
  clear hw0
  by_cases h1 : 100 < nt
  · have d1 : decide ((100 : Int) < (nt : Int)) = true := decide_eq_true (by omega)
    go_wp2_with fail
    -- MARK1
    refine (CAw.out _ HB0.out).mono ?_
    rintro e w9 ⟨rfl, hb9⟩
    go_wp2_with fail
    go_ret
    exact ⟨rfl, below_step HB0.out hb9⟩
  have d1 : decide ((100 : Int) < (nt : Int)) = false := decide_eq_false (by omega)
  by_cases h2 : 100 < ns
  · have d2 : decide ((100 : Int) < (ns : Int)) = true := decide_eq_true (by omega)
    go_wp2_with fail
    -- MARK2
    refine (CAw.out _ HB0.out).mono ?_
    rintro e w9 ⟨rfl, hb9⟩
    go_wp2_with fail
    go_ret
    exact ⟨rfl, below_step HB0.out hb9⟩
  have d2 : decide ((100 : Int) < (ns : Int)) = false := decide_eq_false (by omega)
  go_wp2_with fail
  -- MARK3
  refine CF.out.mono ?_
  rintro e w1 ⟨bf, rfl, HN, hw1⟩
  obtain rfl : w0 = w1 := hw1.symm
  cases bf
  case true =>
    clear HN
    go_wp2_with fail
    refine (CAw.out _ HB0.out).mono ?_
    rintro e w9 ⟨rfl, hb9⟩
    go_wp2_with fail
    go_ret
    exact ⟨rfl, below_step HB0.out hb9⟩
  have HNr := Lib.hid (HN.out rfl)
  clear HN
  go_wp2_with fail
  -- MARK4
  go_loop [5] (fun x5 => ∃ i : Nat, i ≤ nt ∧ x5 = .int .i64 (i : Int) ∧ Hid (∀ (j : Nat) (x : Nd), j < i → t[j]? = some x → x.2.2.2.length ≤ 200)) (fun x5 => nt - (intOf x5).toNat)
  case atStart => exact ⟨0, Nat.zero_le _, rfl, Lib.hid fun j x hj => absurd hj (Nat.not_lt_zero _)⟩
  case round =>
    obtain ⟨i, hin, rfl, HA⟩ := hrel
    have hi0 : (0 : Int) ≤ (i : Int) := Int.natCast_nonneg _
    by_cases hlt : i < nt
    · obtain ⟨x, hx⟩ : ∃ x, t[i]? = some x := ⟨_, List.getElem?_eq_getElem (by rw [HLt.out]; exact hlt)⟩
      obtain ⟨g, off, rfl, hg, c0, c1, c2, c3⟩ := (HT.out w0 HB0.out).node hx
      have hi9 : (i : Int) < (nt : Int) := by omega
      have hzS : (str x.2.2.2).size = x.2.2.2.length := str_size _
      have HA2 : Hid (x.2.2.2.length ≤ 200 → ∀ (j : Nat) (y : Nd), j < i + 1 → t[j]? = some y → y.2.2.2.length ≤ 200) := Lib.hid fun he j y hj hy => by
        by_cases hji : j < i
        · exact HA.out j y hji hy
        · obtain rfl : j = i := by omega
          rw [hx] at hy
          obtain rfl := Option.some.inj hy
          exact he
      obtain ⟨S, hS⟩ : ∃ S, str x.2.2.2 = S := ⟨_, rfl⟩
      obtain ⟨q, hq⟩ : ∃ q, x.2.2.2.length = q := ⟨_, rfl⟩
      rw [hq] at HA2 hzS
      rw [hS] at c3 hzS
      clear hx c0 c1 c2 hS hq
      by_cases h3 : 200 < q
      · have d3 : decide ((200 : Int) < (q : Int)) = true := decide_eq_true (by omega)
        go_wp2_with fail
        -- MARK5
        refine (CAw.out _ HB0.out).mono ?_
        rintro e w9 ⟨rfl, hb9⟩
        go_wp2_with fail
        go_ret
        exact ⟨rfl, below_step HB0.out hb9⟩
      · have d3 : decide ((200 : Int) < (q : Int)) = false := decide_eq_false (by omega)
        have HA3 := Lib.hid (HA2.out (by omega))
        go_wp2_with fail
        -- MARK6
        go_round
        case rel => exact ⟨i + 1, by omega, by go_num, HA3⟩
        case measure => simp [intOf]; omega
    · obtain rfl : i = nt := by omega
      have hG := HG.out HNr.out (by omega) (by omega) (fun x hx => by
        obtain ⟨j, hj, e⟩ := List.getElem_of_mem hx
        exact HA.out j x (by rw [← HLt.out]; exact hj) (by rw [List.getElem?_eq_getElem hj, e]))
      obtain ⟨z1, z2, z3, z4, z5⟩ := hG.sz
      have O1 := Lib.hid hG.o1
      have O2 := Lib.hid hG.o2
      have D1 := Lib.hid hG.d1
      have D2 := Lib.hid hG.d2
      have S1 := Lib.hid hG.s1
      have S2 := Lib.hid hG.s2
      have B1 := Lib.hid hG.b1
      have B2 := Lib.hid hG.b2
      have Z1 := Lib.hid z1
      have Z2 := Lib.hid z2
      have Z3 := Lib.hid z3
      have Z4 := Lib.hid z4
      have Z5 := Lib.hid z5
      have qa : (ea != ea) = false := by simp
      have qd : (ed != ed) = false := by simp
      have qq : (eq != eq) = false := by simp
      clear hG z1 z2 z3 z4 z5 HG HA CF
      go_wp2_with fail
      -- MARK7
      refine (O1.out w0 HB0.out).mono ?_
      rintro e w1 ⟨a1, c1, rfl, hx1, hb1⟩
      have HB1 := Lib.hid (below_step HB0.out hb1)
      obtain ⟨b0', b1'⟩ := HBx.out w1 hb1
      have hbb1 := hb1
      clear b0 b1 hb1 O1
      go_wp2_with fail
      refine (O2.out w1 HB1.out).mono ?_
      rintro e w2 ⟨a2, c2, rfl, hx2, hb2⟩
      have HB2 := Lib.hid (below_step HB1.out hb2)
      have hbb2 := below_step hbb1 hb2
      have HX12 := Lib.hid (hx1.out.below hb2 (Nat.le_refl _))
      clear b0' b1' hb2 O2 hx1 hbb1
      go_wp2_with fail
      refine (D1.out w2 HB2.out).mono ?_
      rintro e w3 ⟨a3, c3, rfl, hx3, hb3⟩
      have HB3 := Lib.hid (below_step HB2.out hb3)
      have hbb3 := below_step hbb2 hb3
      have HX13 := Lib.hid (HX12.out.below hb3 (Nat.le_refl _))
      have HX23 := Lib.hid (hx2.out.below hb3 (Nat.le_refl _))
      clear hb3 D1 HX12 hx2 hbb2
      go_wp2_with fail
      refine (D2.out w3 HB3.out).mono ?_
      rintro e w4 ⟨a4, c4, rfl, hx4, hb4⟩
      have HB4 := Lib.hid (below_step HB3.out hb4)
      have hbb4 := below_step hbb3 hb4
      have HX14 := Lib.hid (HX13.out.below hb4 (Nat.le_refl _))
      have HX24 := Lib.hid (HX23.out.below hb4 (Nat.le_refl _))
      have HX34 := Lib.hid (hx3.out.below hb4 (Nat.le_refl _))
      clear hb4 D2 HX13 HX23 hx3 hbb3
      go_wp2_with fail
      -- MARK8
      refine (CS.out _ _ A _ HX14.out HX24.out Z1.out).mono ?_
      rintro e w5 ⟨rfl, hb5⟩
      have HB5 := Lib.hid (below_step HB4.out hb5)
      have hbb5 := below_step hbb4 hb5
      have HX15 := Lib.hid (HX14.out.below hb5 (Nat.le_refl _))
      have HX35 := Lib.hid (HX34.out.below hb5 (Nat.le_refl _))
      have HX45 := Lib.hid (hx4.out.below hb5 (Nat.le_refl _))
      clear hb5 HX14 HX24 HX34 hx4 hbb4
      go_wp2_with fail
      refine (C4.out _ _ D _ HX35.out HX45.out Z2.out).mono ?_
      rintro e w6 ⟨rfl, hb6⟩
      have HB6 := Lib.hid (below_step HB5.out hb6)
      have hbb6 := below_step hbb5 hb6
      have HX16 := Lib.hid (HX15.out.below hb6 (Nat.le_refl _))
      clear hb6 HX15 HX35 HX45 hbb5
      go_wp2_with fail
      -- MARK8b
      refine (S1.out w6 HB6.out).mono ?_
      rintro e w7 ⟨a7, c7, rfl, hx7, hb7⟩
      have HB7 := Lib.hid (below_step HB6.out hb7)
      have hbb7 := below_step hbb6 hb7
      have HX17 := Lib.hid (HX16.out.below hb7 (Nat.le_refl _))
      clear hb7 S1 HX16 hbb6
      go_wp2_with fail
      refine (S2.out w7 HB7.out).mono ?_
      rintro e w8 ⟨a8, c8, rfl, hx8, hb8⟩
      have HB8 := Lib.hid (below_step HB7.out hb8)
      have hbb8 := below_step hbb7 hb8
      have HX18 := Lib.hid (HX17.out.below hb8 (Nat.le_refl _))
      have HX78 := Lib.hid (hx7.out.below hb8 (Nat.le_refl _))
      clear hb8 S2 HX17 hx7 hbb7
      go_wp2_with fail
      refine (C3.out _ _ Q _ HX78.out hx8.out Z3.out).mono ?_
      rintro e w9 ⟨rfl, hb9⟩
      have HB9 := Lib.hid (below_step HB8.out hb9)
      have hbb9 := below_step hbb8 hb9
      have HX19 := Lib.hid (HX18.out.below hb9 (Nat.le_refl _))
      clear hb9 HX18 HX78 hx8 hbb8
      -- MARK8c
      by_cases hea : ea = 0
      case neg =>
        have q0 : (ea == 0) = false := beq_eq_false_iff_ne.2 hea
        clear hea
        go_wp2_with fail
        refine (CAw.out _ HB9.out).mono ?_
        rintro e w10 ⟨rfl, hb10⟩
        go_wp2_with fail
        go_ret
        exact ⟨rfl, below_step HB9.out hb10⟩
      have B1' := Lib.hid (B1.out hea)
      have B2' := Lib.hid (B2.out hea)
      have q0 : (ea == 0) = true := beq_iff_eq.2 hea
      clear hea B1 B2
      go_wp2_with fail
      refine (B1'.out w9 _ HB9.out HX19.out).mono ?_
      rintro e w10 ⟨a10, c10, rfl, hx10, hb10⟩
      have HB10 := Lib.hid (below_step HB9.out hb10)
      have hbb10 := below_step hbb9 hb10
      have HX110 := Lib.hid (HX19.out.below hb10 (Nat.le_refl _))
      clear hb10 B1' HX19 hbb9
      go_wp2_with fail
      refine (B2'.out w10 _ HB10.out HX110.out).mono ?_
      rintro e w11 ⟨a11, c11, rfl, hx11, hb11⟩
      have HB11 := Lib.hid (below_step HB10.out hb11)
      have hbb11 := below_step hbb10 hb11
      have HX1011 := Lib.hid (hx10.out.below hb11 (Nat.le_refl _))
      obtain ⟨f0, f1⟩ := HBx.out w11 hbb11
      clear hb11 B2' HX110 hx10 hbb10
      go_wp2_with fail
      -- MARK8d
      refine (C4.out _ _ t _ HX1011.out (HT.out w11 HB11.out) Z4.out).mono ?_
      rintro e w12 ⟨rfl, hb12⟩
      have HB12 := Lib.hid (below_step HB11.out hb12)
      have hbb12 := below_step hbb11 hb12
      have HX1112 := Lib.hid (hx11.out.below hb12 (Nat.le_refl _))
      obtain ⟨f0', f1'⟩ := HBx.out w12 hbb12
      clear hb12 HX1011 hx11 hbb11 f0 f1
      go_wp2_with fail
      refine (C3.out _ _ sp _ HX1112.out (HS.out w12 HB12.out) Z5.out).mono ?_
      rintro e w13 ⟨rfl, hb13⟩
      have HB13 := Lib.hid (below_step HB12.out hb13)
      clear f0' f1'
      go_wp2_with fail
      refine (CAw.out _ HB13.out).mono ?_
      rintro e w14 ⟨rfl, hb14⟩
      go_wp2_with fail
      go_ret
      exact ⟨rfl, below_step HB13.out hb14⟩
theorem lawDa_any (vt vs v : Value) (t : List Nd) (sp : List (Int × Int)) (l : List Sx) (w : World) (ht : NdsAt w vt t) (hsp : SpAt w vs sp) (h : XsAt w v l) (KB : KidsB t) (hi : InX l) (T : XTabs w) :
    Calls Tryz.prog 5 #[.agg #[vt, vs], v] w fun e w' => e = .returned (.bool true) ∧ Below w.heap.size w w' := by
  obtain ⟨ta, tc, rfl⟩ := ht.lens
  obtain ⟨sa, sc, rfl⟩ := hsp.slice
  obtain ⟨av, cv, rfl, hc⟩ := h.slice
  exact lawDa_go l.length t.length sp.length _ _ _ av ta sa cv tc sc l t sp _ _ _ _ _ _ w ht hsp rfl (farX_any _ l _ (h.below (below_b1 w _) (Nat.le_refl _))) (fun W hW => awakeX_any W (T.below hW))
    (fun n1 h1 h2 h3 => givesDa h ht hsp n1.sm hi KB (fun x hx => Nat.le_trans (h3 x hx) (by omega)) T.st rfl rfl n1.1 h1 h2)
-- MARK9
end Go.Proofs.YtbmgpenllpbioaaGreatDoor
