/- The reference's Shape; the law DataShapes. -/
import Derived.Test.YtkngkajojcmmlaaDoorDh
namespace Go.Proofs.YtkngkajojcmmlaaDoor
open Go.RowKit Go.PlainAid

/-- What the reference's ends returns. -/
def endP (ks : List Nat) (i : Nat) : Int := if (eat (ks.drop i) 1).isSome then (endN ks i : Int) else 0
theorem endP_no {ks : List Nat} {i : Nat} (h : (eat (ks.drop i) 1).isSome = false) : endP ks i = 0 := by unfold endP; rw [h]; rfl
theorem endP_yes {ks : List Nat} {i : Nat} (h : (eat (ks.drop i) 1).isSome = true) : endP ks i = (endN ks i : Int) := by unfold endP; rw [h]; rfl
def REndV (B n go : Nat) (ks : List Nat) (i : Nat) (es : List Nat) (w0 : World) (e : Ending) (w' : World) : Prop :=
  e = .returned (.tuple #[.int .i64 (endP ks i), .bool (eat (ks.drop i) 1).isSome]) ∧ Below w0.heap.size w0 w' ∧ ∃ es', Hid (w'.ownsRow B 3 1 (.slice (some ⟨go, 0, none⟩) n n) n (natV es')) ∧ es'.length = n ∧ Hid ((eat (ks.drop i) 1).isSome = true → EndsOk ks i (endN ks i) es es')

set_option maxRecDepth 50000 in
set_option maxHeartbeats 3200000 in
theorem rends_any (B n c go : Nat) (a : Option Addr) (ks : List Nat) (w0 : World) (hn : ks.length = n) (hl : n ≤ 2000) (hB : w0.heap.size ≤ B)
    (HK : Hid (0 < n → ∃ g o, a = some ⟨g, o, none⟩ ∧ g < w0.heap.size ∧ ∀ (j q : Nat), ks[j]? = some q → w0.cell? ⟨g, o + j, none⟩ = some (.int .i64 (q : Int)))) :
    ∀ (f i : Nat) (es : List Nat) (W : World), n - i ≤ f → i ≤ n → es.length = n → Hid (W.ownsRow B 3 1 (.slice (some ⟨go, 0, none⟩) n n) n (natV es)) → Below w0.heap.size w0 W →
    Calls Tryd.prog 71 #[.slice a n c, .int .i64 (i : Int), .slice (some ⟨go, 0, none⟩) n n] W (REndV B n go ks i es w0) := by
  have HN := Lib.hid hn
  clear hn
  intro f
  induction f with
  | zero =>
    intro i es W hf hi hes HW hb
    obtain rfl : i = n := by omega
    have HE : Hid ((eat (ks.drop i) 1).isSome = false) := Lib.hid (walk_out (by rw [HN.out]; exact Nat.le_refl _))
    have hd : decide ((i : Int) ≤ (i : Int)) = true := decide_eq_true (by omega)
    clear hf HK
    go_enter Tryd.func71, Tryd.ntmps71
    go_wp2_with fail
    go_ret2
    exact ⟨by rw [HE.out, endP_no HE.out]; rfl, hb, es, HW, hes, Lib.hid (fun h => by rw [HE.out] at h; cases h)⟩
  | succ f ih =>
    intro i es W hf hi hes HW hb
    by_cases hin : i = n
    · subst hin
      have HE : Hid ((eat (ks.drop i) 1).isSome = false) := Lib.hid (walk_out (by rw [HN.out]; exact Nat.le_refl _))
      have hd : decide ((i : Int) ≤ (i : Int)) = true := decide_eq_true (by omega)
      clear hf HK ih
      go_enter Tryd.func71, Tryd.ntmps71
      go_wp2_with fail
      go_ret2
      exact ⟨by rw [HE.out, endP_no HE.out]; rfl, hb, es, HW, hes, Lib.hid (fun h => by rw [HE.out] at h; cases h)⟩
    · obtain ⟨q, hq⟩ : ∃ q, ks[i]? = some q := ⟨_, List.getElem?_eq_getElem (by rw [HN.out]; omega)⟩
      obtain ⟨g, o, hag, hg, hc⟩ := HK.out (by omega)
      have HCell : Hid (∀ W', Below w0.heap.size w0 W' → W'.cell? ⟨g, o + i, none⟩ = some (.int .i64 (q : Int))) := Lib.hid fun W' hW' => (hW'.cell (p := ⟨g, o + i, none⟩) hg).trans (hc i q hq)
      have IH := Lib.hid ih
      have HQ := Lib.hid hq
      have hi1 : (i : Int) < (n : Int) := by omega
      have hi0 : (0 : Int) ≤ (i : Int) := Int.natCast_nonneg _
      have hd : decide ((n : Int) ≤ (i : Int)) = false := decide_eq_false (by omega)
      have hnle : ¬ n ≤ i := by omega
      subst hag
      clear ih hq hc HK hin
      go_enter Tryd.func71, Tryd.ntmps71
      go_wp2_with fail
      -- MARK1
      go_loopw [8, 9] (fun x8 x9 wr => ∃ (k p : Nat) (es1 : List Nat), x9 = .int .i64 (k : Int) ∧ x8 = .int .i64 (p : Int) ∧ k ≤ q ∧ k ≤ 2000 ∧ Hid (wr.ownsRow B 3 1 (.slice (some ⟨go, 0, none⟩) n n) n (natV es1)) ∧ Hid (WalkAt ks (i + 1) k p) ∧ Hid (EndsOk ks (i + 1) p es es1) ∧ es1.length = n ∧ Below w0.heap.size w0 wr) (fun _ x9 _ => q - (intOf x9).toNat)
      case atStart => exact ⟨0, i + 1, es, rfl, by go_num, Nat.zero_le _, by omega, HW, Lib.hid (walkAt_start (by rw [HN.out]; omega)), Lib.hid (EndsOk.refl _ _ _), hes, hb⟩
      case round =>
        obtain ⟨k, p, es1, rfl, rfl, hk, hk2, HO, HA, HE1, hes1, hbr⟩ := hrel
        have hp : i + 1 + k ≤ p := walkAt_le (by rw [HN.out]; omega) HA.out
        have hpn : p ≤ n := by rw [← HN.out]; exact HA.out.1
        have d0 := HCell.out _ hbr
        by_cases hlt : k < q
        · have C := Lib.hid (IH.out p es1 wr (by omega) hpn hes1 HO hbr)
          obtain ⟨b, hbE⟩ : ∃ b, (eat (ks.drop p) 1).isSome = b := ⟨_, rfl⟩
          have HBE := Lib.hid hbE
          have hdk : decide ((k : Int) < (q : Int)) = true := decide_eq_true (by omega)
          clear hbE
          cases b with
          | true =>
            obtain ⟨p2, hp2⟩ : ∃ p2, endN ks p = p2 := ⟨_, rfl⟩
            have HP2 := Lib.hid hp2
            have hA2 := walkAt_one (by rw [HN.out]; exact hpn) HBE.out
            rw [hp2] at hA2
            have hq2 := walkAt_le (by rw [HN.out]; exact hpn) hA2
            have HA2 := Lib.hid (walkAt_step HA.out hA2)
            clear hA2 hp2
            go_wp2_with fail
            refine C.out.mono ?_
            rintro e w1 ⟨rfl, hb1, es2, HO2, hes2, HR⟩
            have hr2 := HR.out HBE.out
            rw [HP2.out] at hr2
            have HE3 := Lib.hid (HE1.out.trans hr2 (by omega) (by omega))
            clear hr2 HR
            rw [endP_yes HBE.out, HP2.out, HBE.out]
            go_wp2_with fail
            -- MARK2
            go_roundw
            case rel => exact ⟨k + 1, p2, es2, by go_num, rfl, by omega, by omega, HO2, HA2, HE3, hes2, hb1⟩
            case measure => simp [intOf]; omega
          | false =>
            have HF := Lib.hid (walk_none HQ.out hlt HA.out HBE.out)
            go_wp2_with fail
            refine C.out.mono ?_
            rintro e w1 ⟨rfl, hb1, es2, HO2, hes2, HR⟩
            rw [endP_no HBE.out, HBE.out]
            clear HR
            go_wp2_with fail
            -- MARK3
            go_ret2
            exact ⟨by rw [HF.out, endP_no HF.out]; rfl, hb1, es2, HO2, hes2, Lib.hid (fun h => by rw [HF.out] at h; cases h)⟩
        · obtain rfl : k = q := by omega
          have hW := walkAt_list HQ.out HA.out
          have hE := walkAt_end (by rw [HN.out]; omega) hW
          have HT : Hid ((eat (ks.drop i) 1).isSome = true) := Lib.hid (by rw [hW.2]; rfl)
          obtain ⟨z, hz⟩ : ∃ z, es1[i]? = some z := ⟨_, List.getElem?_eq_getElem (by omega)⟩
          have d3 := own_cell HO.out (natV_at hz)
          have f3 := HO.out.frozenAt i
          have HO2 := (HO.out.stored i (.int .i64 (p : Int))).1
          rw [natV_set] at HO2
          have HO3 := Lib.hid HO2
          have HR := Lib.hid (HE1.out.close (by omega) (by omega) hE)
          have HEe := Lib.hid hE
          have hgo : B ≤ go := by
            rcases own_form HO.out with ⟨hv, _⟩ | ⟨g', c', hv, hg', _⟩
            · cases hv
            · cases hv; exact hg'
          have hdk : decide ((k : Int) < (k : Int)) = false := decide_eq_false (by omega)
          clear hE hW IH HO2 hz
          go_wp2_with fail
          -- MARK4
          go_ret2
          exact ⟨by rw [HT.out, endP_yes HT.out, HEe.out]; rfl, hbr.setCell (by show w0.heap.size ≤ go; omega) _, _, HO3, by rw [List.length_set]; exact hes1, Lib.hid fun _ => by rw [HEe.out]; exact HR.out⟩

set_option maxRecDepth 50000 in
set_option maxHeartbeats 3200000 in
theorem RShape_any (v : Value) (l : List Int) (w : World) (h : IntRow w v l) : Calls Tryd.prog 39 #[v] w (ShapeV l w) := by
  obtain ⟨a, c, rfl, hA⟩ := h
  by_cases hlong : 2000 < l.length
  · have HV := Lib.hid (shape_long hlong)
    obtain ⟨n, hn⟩ : ∃ n, l.length = n := ⟨_, rfl⟩
    have hd : decide ((2000 : Int) < (n : Int)) = true := decide_eq_true (by omega)
    rw [hn]
    clear hA hlong hn
    go_enter Tryd.func39, Tryd.ntmps39
    go_wp2_with fail
    go_ret2
    exact ⟨_, by rw [HV.out]; rfl, by rw [HV.out]; exact row_nil _, Below.refl _ _⟩
  · have HL := Lib.hid hlong
    have HA := Lib.hid hA
    obtain ⟨n, hn⟩ : ∃ n, l.length = n := ⟨_, rfl⟩
    have HN := Lib.hid hn
    have hd : decide ((2000 : Int) < (n : Int)) = false := decide_eq_false (by omega)
    have hn2 : n ≤ 2000 := by omega
    rw [hn]
    clear hA hlong hn
    go_enter Tryd.func39, Tryd.ntmps39
    go_wp2_with fail
    -- MARK5
    go_loop [4] (fun x => ∃ k : Nat, x = .int .i64 (k : Int) ∧ k ≤ n ∧ Hid (∀ (j : Nat) (x : Int), j < k → l[j]? = some x → 0 ≤ x)) (fun x => n - (intOf x).toNat)
    case atStart => exact ⟨0, rfl, Nat.zero_le _, Lib.hid (fun j x h => by omega)⟩
    case round =>
      obtain ⟨k, rfl, hk, HP⟩ := hrel
      have hk0 : (0 : Int) ≤ (k : Int) := Int.natCast_nonneg _
      by_cases hlt : k < n
      · obtain ⟨x, hx⟩ : ∃ x, l[k]? = some x := ⟨_, List.getElem?_eq_getElem (by rw [HN.out]; exact hlt)⟩
        rcases HA.out with hnil | ⟨g, off, rfl, hg, hc⟩
        · rw [hnil] at hx; cases hx
        have d0 := hc k x hx
        have HX := Lib.hid hx
        have hk1 : (k : Int) < (n : Int) := by omega
        clear hx hc
        by_cases hneg : x < 0
        · have HV := Lib.hid (shape_neg HL.out HX.out hneg)
          have hd2 : decide (x < 0) = true := decide_eq_true hneg
          clear hneg
          go_wp2_with fail
          go_ret2
          exact ⟨_, by rw [HV.out]; rfl, by rw [HV.out]; exact row_nil _, Below.refl _ _⟩
        · have hd2 : decide (x < 0) = false := decide_eq_false hneg
          have HP2 : Hid (∀ (j : Nat) (x : Int), j < k + 1 → l[j]? = some x → 0 ≤ x) := Lib.hid fun j y hj hy => by
            by_cases e : j = k
            · subst e; rw [HX.out] at hy; have := Option.some.inj hy; omega
            · exact HP.out j y (by omega) hy
          clear hneg
          go_wp2_with fail
          go_round
          case rel => exact ⟨k + 1, by go_num, by omega, HP2⟩
          case measure => simp [intOf]; omega
      · obtain rfl : k = n := by omega
        have HV := Lib.hid (shape_else HL.out fun j x hj => HP.out j x (by rw [← HN.out]; exact (List.getElem?_eq_some_iff.1 hj).1) hj)
        have hkl : (l.map Int.toNat).length = k := by rw [List.length_map, HN.out]
        have hm1 := make_ints w k (by omega)
        have hown := own_ints w k (by omega) (B := w.heap.size) (Nat.le_refl _)
        have C := Lib.hid (rends_any w.heap.size k c w.heap.size a (l.map Int.toNat) w hkl hn2 (Nat.le_refl _) (Lib.hid fun hpos => by
          rcases HA.out with hnil | ⟨g, off, e, hg, hc⟩
          · have := HN.out; rw [hnil] at this; simp at this; omega
          · refine ⟨g, off, e, hg, fun j q hj => ?_⟩
            rw [List.getElem?_map] at hj
            cases hq : l[j]? with
            | none => rw [hq] at hj; cases hj
            | some x =>
              rw [hq] at hj
              have hx0 := HP.out j x (by rw [← HN.out]; exact (List.getElem?_eq_some_iff.1 hq).1) hq
              have hxq : x.toNat = q := Option.some.inj hj
              rw [hc j x hq]
              congr 2; omega) k 0 (List.replicate k 0) (w.alloc (.cells (natV (List.replicate k 0)).toArray 3)) (by omega) (Nat.zero_le _) (List.length_replicate ..) (Lib.hid hown) (below_b1 _ _))
        have HKL := Lib.hid hkl
        obtain ⟨ks, hks⟩ : ∃ ks, l.map Int.toNat = ks := ⟨_, rfl⟩
        rw [hks] at C HV HKL
        have hD0 : ks.drop 0 = ks := List.drop_zero
        clear hkl hown hks
        go_wp2_with fail
        -- MARK6
        refine C.out.mono ?_
        rintro e w1 ⟨rfl, hb, es', HO, hes', HR⟩
        obtain ⟨b, hbE⟩ : ∃ b, (eat ks 1).isSome = b := ⟨_, rfl⟩
        rw [hD0, hbE] at HR ⊢
        have HBE := Lib.hid hbE
        have HD0 := Lib.hid hD0
        clear hbE C hm1 hD0
        cases b with
        | true =>
          rw [endP_yes (by rw [HD0.out]; exact HBE.out)]
          obtain ⟨q, hq⟩ : ∃ q, endN ks 0 = q := ⟨_, rfl⟩
          rw [hq] at HR ⊢
          have HQ := Lib.hid hq
          clear hq
          by_cases hqk : q = k
          · subst hqk
            have HTB := Lib.hid (trB_all HBE.out (by rw [HQ.out, HKL.out]))
            have HES : Hid (es' = endsL ks) := Lib.hid (by
              have h1 := HR.out rfl
              rw [← HKL.out] at h1
              exact h1.whole (by rw [List.length_replicate, HKL.out]))
            have hne : ((q : Int) != (q : Int)) = false := by simp
            clear HR
            go_wp2_with fail
            go_ret2
            refine ⟨_, by rw [HV.out, HTB.out]; rfl, ?_, hb⟩
            rw [HV.out, HTB.out, if_pos rfl]
            refine ⟨_, q, by rw [List.length_map, endsL_len, HKL.out]; rfl, .inr ⟨w.heap.size, 0, rfl, ?_, fun j x hj => ?_⟩⟩
            · rcases own_form HO.out with ⟨hv, _⟩ | ⟨g', c', hv, _, hg'⟩
              · cases hv
              · cases hv; exact hg'
            · rw [List.getElem?_map] at hj
              cases hq : (endsL ks)[j]? with
              | none => rw [hq] at hj; cases hj
              | some y =>
                rw [hq] at hj
                rw [← HES.out] at hq
                rw [Nat.zero_add, own_cell HO.out (natV_at hq)]
                cases hj; rfl
          · have HTB : Hid (trB ks = false) := Lib.hid (trB_less (by
              have h1 := (walkAt_one (ks := ks) (i := 0) (Nat.zero_le _) (by rw [List.drop_zero]; exact HBE.out)).1
              rw [HQ.out, HKL.out] at h1 ⊢; omega))
            have hne : ((q : Int) != (k : Int)) = true := bne_iff_ne.2 (by omega)
            clear HR hqk
            go_wp2_with fail
            go_ret2
            refine ⟨_, by rw [HV.out, HTB.out]; rfl, ?_, hb⟩
            rw [HV.out, HTB.out]
            exact row_nil _
        | false =>
          have HTB := Lib.hid (trB_none HBE.out)
          rw [endP_no (by rw [HD0.out]; exact HBE.out)]
          clear HR
          go_wp2_with fail
          go_ret2
          refine ⟨_, by rw [HV.out, HTB.out]; rfl, ?_, hb⟩
          rw [HV.out, HTB.out]
          exact row_nil _

theorem shapeS_len (l : List Int) : (shapeS l).1.length ≤ 1000000 := by
  unfold shapeS
  split
  · exact Nat.zero_le _
  · split
    · exact Nat.zero_le _
    · split
      · rw [endsL_len, List.length_map]; omega
      · exact Nat.zero_le _
set_option maxRecDepth 50000 in
set_option maxHeartbeats 3200000 in
theorem lawSh_any (v : Value) (l : List Int) (w : World) (h : IntRow w v l) (T : STabs w) : Calls Tryd.prog 6 #[v] w fun e w' => e = .returned (.bool true) ∧ Below w.heap.size w w' := by
  have CS := Lib.hid (fun W (hW : Below w.heap.size w W) => shown_any W (T.below hW))
  have HR := Lib.hid h
  obtain ⟨a, c, rfl, hA⟩ := h
  by_cases hbg : 2010 < l.length
  · obtain ⟨n, hn⟩ : ∃ n, l.length = n := ⟨_, rfl⟩
    have hd : decide ((2010 : Int) < (n : Int)) = true := decide_eq_true (by omega)
    rw [hn]
    clear hA hbg hn HR T
    go_enter Tryd.func6, Tryd.ntmps6
    go_wp2_with fail
    refine (CS.out w (Below.refl _ _)).mono ?_
    rintro e w1 ⟨rfl, hb⟩
    go_wp2_with fail
    go_ret
    exact ⟨rfl, hb⟩
  · have C1 := Lib.hid (Shape_any _ l w HR.out)
    have C2 := Lib.hid (fun W (hW : Below w.heap.size w W) => RShape_any _ l W (HR.out.below hW))
    have CI := Lib.hid (fun W v v' (h1 : IntRow W v ((shapeS l).1.map fun q : Nat => (q : Int))) (h2 : IntRow W v' ((shapeS l).1.map fun q : Nat => (q : Int))) => (show Calls Tryd.prog 22 #[v, v'] W fun e w' => e = .returned (.bool true) ∧ Below W.heap.size W w' from by
      have h3 := ints4_any v v' _ _ W h1 h2 (by rw [List.length_map]; exact shapeS_len l)
      rw [decide_eq_true rfl] at h3; exact h3))
    obtain ⟨n, hn⟩ : ∃ n, l.length = n := ⟨_, rfl⟩
    have hd : decide ((2010 : Int) < (n : Int)) = false := decide_eq_false (by omega)
    rw [hn] at C1 C2
    rw [hn]
    clear hA hbg hn HR T
    go_enter Tryd.func6, Tryd.ntmps6
    go_wp2_with fail
    refine C1.out.mono ?_
    rintro e w1 ⟨v1, rfl, hr1, hb1⟩
    obtain ⟨e2, he2⟩ : ∃ e2, (shapeS l).2 = e2 := ⟨_, rfl⟩
    have HR1 := Lib.hid hr1
    obtain ⟨a1, c1, rfl, _⟩ := hr1
    have HE2 := Lib.hid he2
    rw [he2]
    obtain ⟨m1, hm1⟩ : ∃ m1, ((shapeS l).1.map fun q : Nat => (q : Int)).length = m1 := ⟨_, rfl⟩
    rw [hm1] at HR1 ⊢
    have HM1 := Lib.hid hm1
    clear he2 hm1
    go_wp2_with fail
    refine (C2.out w1 hb1).mono ?_
    rintro e w2 ⟨v2, rfl, hr2, hb2⟩
    have HR2 := Lib.hid hr2
    obtain ⟨a2, c2, rfl, _⟩ := hr2
    rw [HE2.out]
    rw [HM1.out] at HR2 ⊢
    have hB2 := hb1.trans (hb2.mono hb1.size)
    have hee : (e2 == e2) = true := by simp
    go_wp2_with fail
    -- MARK7
    refine (CI.out w2 _ _ (HR1.out.below hb2) HR2.out).mono ?_
    rintro e w3 ⟨rfl, hb3⟩
    have hB3 := hB2.trans (hb3.mono hB2.size)
    go_wp2_with fail
    refine (CS.out w3 hB3).mono ?_
    rintro e w4 ⟨rfl, hb4⟩
    go_wp2_with fail
    go_ret
    exact ⟨rfl, hB3.trans (hb4.mono hB3.size)⟩
end Go.Proofs.YtkngkajojcmmlaaDoor
