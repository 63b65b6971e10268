/- The reference of layer 11: Resolve. -/
import Derived.Test.YtbkkmcfpjpbhaaaVt
namespace Go.Proofs.Ytbkkmcfpjpbhaaa
open Go.RowKit Go.PlainAid

theorem res_at {T : List Bd} {n s : List UInt8} (ho : OkB T) {x : Nat} (hx : x ∈ candB T n s) (h : topB (relB T) (candB T n s) x = true) : resB T n s = (x, 0) := by
  rcases res_cases (T := T) n s with ⟨i, e, hi, ht⟩ | ⟨_, e⟩ | ⟨_, _, e⟩
  · unfold topB at h ht
    rw [List.all_eq_true] at h ht
    rw [e, cand_anti ho i hi x hx (h i hi) (ht x hx)]
  · rw [e] at hx; cases hx
  · rw [e x hx] at h; cases h
theorem res_end {T : List Bd} {n s : List UInt8} (h : ∀ x ∈ candB T n s, topB (relB T) (candB T n s) x = false) : resB T n s = if candB T n s = [] then (0, 10) else (0, 11) := by
  rcases res_cases (T := T) n s with ⟨i, _, hi, ht⟩ | ⟨e1, e⟩ | ⟨e1, e, _⟩
  · rw [h i hi] at ht; cases ht
  · rw [e1, if_pos e]
  · rw [e1, if_neg e]
theorem all_take {R : Nat → Bool} {l : List Nat} {k x : Nat} (h : l[k]? = some x) : (l.take (k + 1)).all R = ((l.take k).all R && R x) := by
  rw [List.take_add_one, h, List.all_append]; simp
set_option maxRecDepth 100000 in
set_option maxHeartbeats 6400000 in
theorem rResolve_any (v : Value) (T : List Bd) (n s : List UInt8) (w : World) (h : BsAt w v T) (hs : SmB T) (hs2 : s.length ≤ 100000) :
    Calls Try.prog 20 #[v, .string (str n), .string (str s)] w fun e w' => e = .returned (resV (resE T n s)) ∧ Below w.heap.size w w' := by
  have CW := Lib.hid (rasked_any v T s w h hs hs2)
  have HV := Lib.hid (fun W (hW : Below w.heap.size w W) => h.below hW (Nat.le_refl _))
  obtain ⟨a0, c0, hv, -⟩ := h.slice
  obtain ⟨NN, hNN⟩ : ∃ NN, str n = NN := ⟨_, rfl⟩
  obtain ⟨SS, hSS⟩ : ∃ SS, str s = SS := ⟨_, rfl⟩
  rw [hSS] at CW
  by_cases h0 : askB T s = 0
  · have ho := (ask_ok h0).1
    have CC := Lib.hid (fun W (hW : Below w.heap.size w W) => rcands_any v T n s W (h.below hW (Nat.le_refl _)) hs (by have := ho.few; omega) hs2)
    have HAt : Hid (∀ x, x ∈ candB T n s → topB (relB T) (candB T n s) x = true → resV (resE T n s) = .tuple #[.int .i64 (x : Int), .int .i64 0]) := Lib.hid fun x hx ht => by rw [resE_ok h0, res_at ho hx ht]; rfl
    have HEnd : Hid ((∀ x ∈ candB T n s, topB (relB T) (candB T n s) x = false) → (candB T n s = [] → resV (resE T n s) = .tuple #[.int .i64 0, .int .i64 10]) ∧ (candB T n s ≠ [] → resV (resE T n s) = .tuple #[.int .i64 0, .int .i64 11])) := Lib.hid fun ht => by
      rw [resE_ok h0, res_end ht]
      exact ⟨fun e => by rw [if_pos e]; rfl, fun e => by rw [if_neg e]; rfl⟩
    have HCn : Hid (∀ x ∈ candB T n s, ∃ y, T[x]? = some y) := Lib.hid fun x hx => by
      obtain ⟨y, hy, _⟩ := mem_cand.1 hx
      exact ⟨y, hy⟩
    have CS := Lib.hid (fun x y (hx : x ∈ T) (hy : y ∈ T) W => rSub_any x.s y.s W (hs x hx).2 (hs y hy).2)
    have HLn : Hid ((candB T n s).length ≤ 2000) := Lib.hid (Nat.le_trans (candG_len T n s _) (by have := ho.few; omega))
    rw [h0] at CW
    rw [hNN, hSS] at CC
    rw [hNN, hSS]
    obtain ⟨m, hm⟩ : ∃ m, T.length = m := ⟨_, rfl⟩
    have HN := Lib.hid hm
    rw [hm] at hv
    obtain ⟨C, hC⟩ : ∃ C, candB T n s = C := ⟨_, rfl⟩
    rw [hC] at CC HAt HEnd HCn HLn
    obtain ⟨RV, hRV⟩ : ∃ RV, resV (resE T n s) = RV := ⟨_, rfl⟩
    rw [hRV] at HAt HEnd ⊢
    subst hv
    clear h hs hs2 hNN hSS h0 ho hm hC hRV
    go_enter Try.func20, Try.ntmps20
    go_wp2_with fail
    refine CW.out.mono ?_
    rintro e w1 ⟨rfl, hbw1⟩
    go_wp2_with fail
    refine (CC.out _ hbw1).mono ?_
    rintro e w2 ⟨va, rfl, HO, hb2⟩
    have hbw2 := below_step hbw1 hb2
    have HNt := Lib.hid (nat_own HO.out rfl)
    have HNb := Lib.hid (fun W (hW : Below w2.heap.size w2 W) => HNt.out.below hW (Nat.le_refl _))
    obtain ⟨av, cv, rfl⟩ := own_len HO.out
    obtain ⟨p, hp⟩ : ∃ p, C.length = p := ⟨_, rfl⟩
    have HP := Lib.hid hp
    have hp2 : p ≤ 2000 := by rw [← hp]; exact HLn.out
    rw [hp] at HNb ⊢
    clear HO HNt CW CC hp
    go_wp2_with fail
    -- MARK1
    go_loopw [10] (fun x10 wr => ∃ (i : Nat), x10 = .int .i64 (i : Int) ∧ i ≤ p ∧ Hid (∀ j x, j < i → C[j]? = some x → topB (relB T) C x = false) ∧ Below w2.heap.size w2 wr) (fun x10 _ => p - (intOf x10).toNat)
    case atStart => exact ⟨0, rfl, Nat.zero_le _, Lib.hid (fun j x hj => absurd hj (Nat.not_lt_zero _)), Below.refl _ _⟩
    case round =>
      obtain ⟨i, rfl, hi, HNo, hb⟩ := hrel
      have hi0 : (0 : Int) ≤ (i : Int) := Int.natCast_nonneg _
      by_cases hlt : i < p
      · obtain ⟨x, hx⟩ : ∃ x, C[i]? = some x := ⟨_, List.getElem?_eq_getElem (by rw [HP.out]; exact hlt)⟩
        have HXm := Lib.hid (List.mem_of_getElem? hx)
        obtain ⟨bx, hbx⟩ := HCn.out x HXm.out
        have HBX := Lib.hid hbx
        have HX := Lib.hid hx
        have hi1 : (i : Int) < (p : Int) := by omega
        have hx0 : (0 : Int) ≤ (x : Int) := Int.natCast_nonneg _
        have hx1 : (x : Int) < (m : Int) := by have := (List.getElem?_eq_some_iff.1 hbx).1; have := HN.out; omega
        obtain ⟨g, off, rfl, hg, d0⟩ := (HNb.out wr hb).nth hx
        clear hx hbx
        go_wp2_with fail
        -- MARK2
        go_loopw [11, 12] (fun x11 x12 wq => ∃ (k : Nat) (b : Bool), x11 = .bool b ∧ x12 = .int .i64 (k : Int) ∧ k ≤ p ∧ Hid ((C.take k).all (fun j => relB T j x) = b) ∧ Below w2.heap.size w2 wq) (fun _ x12 _ => p - (intOf x12).toNat)
        case atStart => exact ⟨0, true, rfl, rfl, Nat.zero_le _, Lib.hid (by rw [List.take_zero]; rfl), hb⟩
        case round =>
          obtain ⟨k, b, rfl, rfl, hk, HA, hbq⟩ := hrel
          have hk0 : (0 : Int) ≤ (k : Int) := Int.natCast_nonneg _
          by_cases hlt2 : k < p
          · obtain ⟨y, hy⟩ : ∃ y, C[k]? = some y := ⟨_, List.getElem?_eq_getElem (by rw [HP.out]; exact hlt2)⟩
            obtain ⟨byy, hby⟩ := HCn.out y (List.mem_of_getElem? hy)
            have hk1 : (k : Int) < (p : Int) := by omega
            have hy0 : (0 : Int) ≤ (y : Int) := Int.natCast_nonneg _
            have hy1 : (y : Int) < (m : Int) := by have := (List.getElem?_eq_some_iff.1 hby).1; have := HN.out; omega
            obtain ⟨g1, o1, e1, _, f0⟩ := (HNb.out wr hbq).nth hy
            obtain ⟨rfl, rfl⟩ : g = g1 ∧ off = o1 := by have := Option.some.inj e1; injection this with h1 h2; exact ⟨h1, h2⟩
            obtain ⟨g2, o2, e2, _, f1⟩ := (HNb.out wr hbq).nth HX.out
            obtain ⟨rfl, rfl⟩ : g = g2 ∧ off = o2 := by have := Option.some.inj e2; injection this with h1 h2; exact ⟨h1, h2⟩
            have hbwr := below_step hbw2 hbq
            obtain ⟨gt, ot, rfl, hgt, _, t1, _, _⟩ := (HV.out wr hbwr).node hby
            obtain ⟨gt1, ot1, e3, _, _, t2, _, _⟩ := (HV.out wr hbwr).node HBX.out
            obtain ⟨rfl, rfl⟩ : gt = gt1 ∧ ot = ot1 := by have := Option.some.inj e3; injection this with h1 h2; exact ⟨h1, h2⟩
            have CX := Lib.hid (CS.out byy bx (List.mem_of_getElem? hby) (List.mem_of_getElem? HBX.out))
            have HR : Hid (relB T y x = (subS byy.s bx.s).1) := Lib.hid (by unfold relB subB; rw [setAt_at hby, setAt_at HBX.out])
            have HAT := Lib.hid (all_take (R := fun j => relB T j x) hy)
            obtain ⟨⟨bs, es⟩, hbs⟩ : ∃ r, subS byy.s bx.s = r := ⟨_, rfl⟩
            rw [hbs] at CX HR
            simp only at CX HR
            have HA2 : Hid ((C.take (k + 1)).all (fun j => relB T j x) = (b && bs)) := Lib.hid (by rw [HAT.out, HA.out, HR.out])
            obtain ⟨S1, hS1⟩ : ∃ S, str byy.s = S := ⟨_, rfl⟩
            obtain ⟨S2, hS2⟩ : ∃ S, str bx.s = S := ⟨_, rfl⟩
            rw [hS1] at CX t1
            rw [hS2] at CX t2
            have HK := Lib.hid (fun W (hW : Below wr.heap.size wr W) => (⟨(hW.cell (p := ⟨g, off + k, none⟩) (by have := hb.size; have := hbq.size; show g < _; omega)).trans f0, (hW.cell (p := ⟨g, off + i, none⟩) (by have := hb.size; have := hbq.size; show g < _; omega)).trans f1, (hW.cell (p := ⟨gt, ot + y * 4 + 1, none⟩) hgt).trans t1, (hW.cell (p := ⟨gt, ot + x * 4 + 1, none⟩) hgt).trans t2⟩ : W.cell? ⟨g, off + k, none⟩ = some (.int .i64 (y : Int)) ∧ W.cell? ⟨g, off + i, none⟩ = some (.int .i64 (x : Int)) ∧ W.cell? ⟨gt, ot + y * 4 + 1, none⟩ = some (.string S1) ∧ W.cell? ⟨gt, ot + x * 4 + 1, none⟩ = some (.string S2)))
            have hD : Below wr.heap.size wr wr.drew := (Below.refl _ wr).drew
            clear hy hby e1 e2 e3 hbs hS1 hS2
            go_wp2_with fail
            -- MARK3
            go_region_held3 (fun w' => w'.cell? ⟨g, off + k, none⟩ = some (.int .i64 (y : Int)) ∧ w'.cell? ⟨g, off + i, none⟩ = some (.int .i64 (x : Int)) ∧ w'.cell? ⟨gt, ot + y * 4 + 1, none⟩ = some (.string S1) ∧ w'.cell? ⟨gt, ot + x * 4 + 1, none⟩ = some (.string S2)) (first | exact HK.out _ (by assumption) | go_keep) (first
              | (go_at_call 39; refine (CX.out _).mono ?_; rintro e w5 ⟨rfl, hb5⟩; have hb5q : Below wr.heap.size wr w5 := below_drew hb5; obtain ⟨m0, m1, m2, m3⟩ := HK.out w5 hb5q))
            have hb5w : Below w2.heap.size w2 w5 := below_step hbq hb5q
            cases b
            · go_wp2_with fail
              -- MARK4
              exact ⟨⟨k + 1, false, rfl, by go_num, by omega, Lib.hid (by rw [HA2.out]; rfl), hb5w⟩, by simp [intOf]; omega⟩
            · go_wp2_with fail
              exact ⟨⟨k + 1, bs, rfl, by go_num, by omega, Lib.hid (by rw [HA2.out]; rfl), hb5w⟩, by simp [intOf]; omega⟩
          · obtain rfl : k = p := by omega
            have HT : Hid (topB (relB T) C x = b) := Lib.hid (by
              unfold topB; rw [← HA.out, List.take_of_length_le (by rw [HP.out]; exact Nat.le_refl _)])
            obtain ⟨g2, o2, e2, _, f1⟩ := (HNb.out wr hbq).nth HX.out
            obtain ⟨rfl, rfl⟩ : g = g2 ∧ off = o2 := by have := Option.some.inj e2; injection this with h1 h2; exact ⟨h1, h2⟩
            clear e2
            cases b
            · have HNo2 : Hid (∀ j z, j < i + 1 → C[j]? = some z → topB (relB T) C z = false) := Lib.hid (fun j z hj hz => by
                by_cases e : j = i
                · rw [e, HX.out] at hz; rw [← Option.some.inj hz]; exact HT.out
                · exact HNo.out j z (by omega) hz)
              go_wp2_with fail
              -- MARK5
              exact ⟨⟨i + 1, by go_num, by omega, HNo2, hbq⟩, by simp [intOf]; omega⟩
            · have HR := Lib.hid (HAt.out x HXm.out HT.out)
              go_wp2_with fail
              go_ret2
              exact ⟨by rw [HR.out]; rfl, below_step hbw2 hbq⟩
      · obtain rfl : i = p := by omega
        have HE := Lib.hid (HEnd.out (fun x hx => by
          obtain ⟨j, hj⟩ := List.mem_iff_getElem?.1 hx
          exact HNo.out j x (by have := (List.getElem?_eq_some_iff.1 hj).1; have := HP.out; omega) hj))
        by_cases hz : i = 0
        · have HR := Lib.hid (HE.out.1 (List.length_eq_zero_iff.1 (by rw [HP.out]; exact hz)))
          have d9 : decide ((0 : Int) < (i : Int)) = false := decide_eq_false (by omega)
          have d8 : ¬ 0 < i := by omega
          clear hz
          go_wp2_with fail
          go_ret2
          exact ⟨by rw [HR.out]; rfl, below_step hbw2 hb⟩
        · have HR := Lib.hid (HE.out.2 (fun e => by rw [e] at HP; exact hz HP.out.symm))
          have d9 : decide ((0 : Int) < (i : Int)) = true := decide_eq_true (by omega)
          have d8 : 0 < i := by omega
          go_wp2_with fail
          go_ret2
          exact ⟨by rw [HR.out]; rfl, below_step hbw2 hb⟩
  · rw [resE_no h0]
    rw [hNN, hSS]
    unfold resV
    obtain ⟨m, hm⟩ : ∃ m, T.length = m := ⟨_, rfl⟩
    rw [hm] at hv
    obtain ⟨er, her⟩ : ∃ er, askB T s = er := ⟨_, rfl⟩
    rw [her] at CW h0 ⊢
    have hne : (er != 0) = true := bne_iff_ne.2 h0
    subst hv
    clear h hs hs2 hNN hSS h0 hm her HV
    go_enter Try.func20, Try.ntmps20
    go_wp2_with fail
    refine CW.out.mono ?_
    rintro e w1 ⟨rfl, hbw1⟩
    go_wp2_with fail
    go_ret2
    exact ⟨rfl, hbw1⟩
-- MARK9
end Go.Proofs.Ytbkkmcfpjpbhaaa
