/- The reference's end, at, fits, Size. -/
import Derived.Test.YtdbgmbbchjfpdaaDoorDrsy
import Derived.Test.YtdbgmbbchjfpdaaDoorDrd
namespace Go.Proofs.YtdbgmbbchjfpdaaDoor
open Go.RowKit Go.PlainAid

theorem cnt_le {ks : List Nat} (hT : Tr ks) {i : Nat} (hi : i < ks.length) : cnt ks i ≤ ks.length := by
  have := kidsN_le hT hi
  rw [kidsN_len] at this; omega

set_option maxRecDepth 50000 in
set_option maxHeartbeats 1600000 in
theorem rend_go (g off n cap : Nat) (ks : List Nat) (w : World) (hn : ks.length = n) (hT : Tr ks) (hl : n ≤ 400) (HK : Hid (∀ i, i < n → w.cell? ⟨g, off + i * 4 + 1, none⟩ = some (.int .i64 (cnt ks i : Int)))) :
    ∀ (f i : Nat), n - i ≤ f → i < n → Calls Tryd.prog 57 #[.slice (some ⟨g, off, none⟩) n cap, .int .i64 (i : Int)] w fun e w' => e = .returned (.int .i64 (endN ks i : Int)) ∧ w = w' := by
  intro f
  induction f with
  | zero => intro i hf hi; omega
  | succ f ih =>
    intro i hf hi
    have hil : i < ks.length := by rw [hn]; exact hi
    have hcl := cnt_le hT hil
    obtain ⟨c, hc⟩ : ∃ c, cnt ks i = c := ⟨_, rfl⟩
    have d0 := HK.out i hi
    rw [hc] at d0 hcl
    have IH : Hid (∀ k, k < c → posK ks i k < n ∧ i < posK ks i k ∧ Calls Tryd.prog 57 #[.slice (some ⟨g, off, none⟩) n cap, .int .i64 (posK ks i k : Int)] w fun e w' => e = .returned (.int .i64 (posK ks i (k + 1) : Int)) ∧ w = w') := Lib.hid fun k hk => by
      obtain ⟨p1, p2, p3⟩ := hT.pos_step hil (k := k) (by omega)
      have := ih (posK ks i k) (by omega) (by omega)
      rw [p3] at this
      exact ⟨by omega, p1, this⟩
    have HE : Hid (posK ks i c = endN ks i) := Lib.hid (by rw [← hc]; exact hT.pos_end hil)
    have H0 : Hid (posK ks i 0 = i + 1) := Lib.hid (posK_start hil)
    have hi0 : (0 : Int) ≤ (i : Int) := Int.natCast_nonneg _
    have hi1 : (i : Int) < (n : Int) := by omega
    have hc4 : c ≤ 400 := by omega
    clear ih HK hT hn hil hc hcl
    go_enter Tryd.func57, Tryd.ntmps57
    go_wp2_with fail
    -- MARK1
    go_loop [5, 6] (fun x5 x6 => ∃ k p : Nat, x6 = .int .i64 (k : Int) ∧ k ≤ c ∧ x5 = .int .i64 (p : Int) ∧ Hid (posK ks i k = p)) (fun _ x6 => c - (intOf x6).toNat)
    case atStart => exact ⟨0, i + 1, rfl, Nat.zero_le _, by go_num, H0⟩
    case round =>
      obtain ⟨k, p, rfl, hk, rfl, HP⟩ := hrel
      by_cases hlt : k < c
      · obtain ⟨q1, q2, q3⟩ := IH.out k hlt
        have HC := Lib.hid q3
        rw [HP.out] at HC q1
        have hd : decide ((k : Int) < (c : Int)) = true := decide_eq_true (by omega)
        obtain ⟨p', hp'⟩ : ∃ p', posK ks i (k + 1) = p' := ⟨_, rfl⟩
        have HP2 := Lib.hid hp'
        rw [hp'] at HC
        clear q1 q2 q3 hp'
        go_wp2_with (go_at_call 57; refine HC.out.mono ?_; rintro e w' ⟨rfl, rfl⟩)
        -- MARK2
        all_goals go_round
        case rel => exact ⟨k + 1, p', by go_num, by omega, rfl, HP2⟩
        case measure => simp [intOf]; omega
      · obtain rfl : k = c := by omega
        have hd : decide ((k : Int) < (k : Int)) = false := decide_eq_false (by omega)
        have HF : Hid (p = endN ks i) := Lib.hid (by rw [← HP.out, HE.out])
        go_wp2_with fail
        go_ret
        exact ⟨by rw [HF.out]; rfl, rfl⟩
theorem rendD_any {w : World} {v : Value} {t : List Nd} {i : Nat} (h : DatAt w v t) (hi : i < t.length) : Calls Tryd.prog 57 #[v, .int .i64 (i : Int)] w fun e w' => e = .returned (.int .i64 (endN (kidsL t) i : Int)) ∧ w = w' := by
  obtain ⟨t1, t2, t3, _⟩ := chkT_ok h.2.2.2.2
  obtain ⟨g, off, cap, rfl, hg, hc⟩ := h.1.some t2
  refine rend_go g off t.length cap (kidsL t) w (kidsL_len t) t1 t3 (Lib.hid fun j hj => ?_) _ i (Nat.le_refl _) hi
  obtain ⟨x, hx⟩ : ∃ x, t[j]? = some x := ⟨_, List.getElem?_eq_getElem hj⟩
  obtain ⟨_, k1, _⟩ := dcs_at t hx
  rw [cnt_of (i := j) (c := x.2.1.toNat) (by unfold kidsL; rw [List.getElem?_map, hx]; rfl), Int.toNat_of_nonneg (chkT_kids h.2.2.2.2 x (List.mem_of_getElem? hx))]
  exact hc _ _ k1

set_option maxRecDepth 50000 in
set_option maxHeartbeats 1600000 in
theorem rat_any (v : Value) (t : List Nd) (i : Int) (w : World) (h : NdsAt w v t) (KB : KidsB t) :
    Calls Tryd.prog 56 #[v, .int .i64 i] w fun e w' => e = .returned (.int .i64 (atE symS t i)) ∧ Below w.heap.size w w' := by
  have C := Lib.hid (RCheck_any symS v t w h (Lib.hid (rsymAll w)) (Lib.hid KB))
  unfold chkTV at C
  obtain ⟨a, c, rfl⟩ := h.slice
  obtain ⟨k, e, hie⟩ : ∃ k e, chkT symS t = (k, e) := ⟨_, _, rfl⟩
  have h2 : (chkT symS t).2 = e := by rw [hie]
  rw [hie] at C
  by_cases he : e = 0
  · subst he
    by_cases h0 : i < 0
    · have HV : Hid (atE symS t i = 4) := Lib.hid (atE_out h2 (.inl h0))
      have d0 : decide (i < 0) = true := decide_eq_true h0
      clear h KB hie h2 h0
      go_enter Tryd.func56, Tryd.ntmps56
      go_wp2_with fail
      refine C.out.mono ?_
      rintro e' w2 ⟨rfl, hb2⟩
      go_wp2_with fail
      go_ret
      exact ⟨by rw [HV.out]; rfl, hb2⟩
    · by_cases h1 : (t.length : Int) ≤ i
      · have HV : Hid (atE symS t i = 4) := Lib.hid (atE_out h2 (.inr h1))
        have d0 : decide (i < 0) = false := decide_eq_false h0
        have d1 : decide ((t.length : Int) ≤ i) = true := decide_eq_true h1
        clear h KB hie h2 h0 h1
        go_enter Tryd.func56, Tryd.ntmps56
        go_wp2_with fail
        refine C.out.mono ?_
        rintro e' w2 ⟨rfl, hb2⟩
        go_wp2_with fail
        go_ret
        exact ⟨by rw [HV.out]; rfl, hb2⟩
      · have HV : Hid (atE symS t i = 0) := Lib.hid (atE_in h2 (by omega))
        have d0 : decide (i < 0) = false := decide_eq_false h0
        have d1 : decide ((t.length : Int) ≤ i) = false := decide_eq_false h1
        clear h KB hie h2 h0 h1
        go_enter Tryd.func56, Tryd.ntmps56
        go_wp2_with fail
        refine C.out.mono ?_
        rintro e' w2 ⟨rfl, hb2⟩
        go_wp2_with fail
        go_ret
        exact ⟨by rw [HV.out]; rfl, hb2⟩
  · have HV : Hid (atE symS t i = e) := Lib.hid (by rw [atE_bad (by rw [h2]; exact he), h2])
    have d0 : (e == 0) = false := beq_eq_false_iff_ne.2 he
    clear h KB hie h2 he
    go_enter Tryd.func56, Tryd.ntmps56
    go_wp2_with fail
    refine C.out.mono ?_
    rintro e' w2 ⟨rfl, hb2⟩
    go_wp2_with fail
    go_ret
    exact ⟨by rw [HV.out]; rfl, hb2⟩

/-- What fits returns of a row. -/
def fitV (v : Value) (t : List Nd) : Value := if (chkT symS t).2 = 0 then .tuple #[v, .int .i64 0] else .tuple #[.slice none 0 0, .int .i64 3]
set_option maxRecDepth 50000 in
set_option maxHeartbeats 1600000 in
theorem rfits_any (v : Value) (t : List Nd) (w : World) (h : NdsAt w v t) (KB : KidsB t) :
    Calls Tryd.prog 68 #[v] w fun e w' => e = .returned (fitV v t) ∧ Below w.heap.size w w' := by
  have C := Lib.hid (RCheck_any symS v t w h (Lib.hid (rsymAll w)) (Lib.hid KB))
  unfold chkTV at C
  obtain ⟨i, e, hie⟩ : ∃ i e, chkT symS t = (i, e) := ⟨_, _, rfl⟩
  rw [hie] at C
  obtain ⟨a, c, rfl⟩ := h.slice
  by_cases he : e = 0
  · subst he
    have HV : Hid (fitV (.slice a t.length c) t = .tuple #[.slice a t.length c, .int .i64 0]) := Lib.hid (by unfold fitV; rw [hie]; rfl)
    clear h hie KB
    go_enter Tryd.func68, Tryd.ntmps68
    go_wp2_with fail
    refine C.out.mono ?_
    rintro e' w2 ⟨rfl, hb2⟩
    go_wp2_with fail
    go_ret2
    exact ⟨(congrArg Ending.returned HV.out).symm, hb2⟩
  · have HV : Hid (fitV (.slice a t.length c) t = .tuple #[.slice none 0 0, .int .i64 3]) := Lib.hid (by unfold fitV; rw [hie, if_neg he])
    have hne : (e != 0) = true := bne_iff_ne.2 he
    clear h hie he KB
    go_enter Tryd.func68, Tryd.ntmps68
    go_wp2_with fail
    refine C.out.mono ?_
    rintro e' w2 ⟨rfl, hb2⟩
    go_wp2_with fail
    go_ret2
    exact ⟨(congrArg Ending.returned HV.out).symm, hb2⟩

/-- A datum's node, or an error. -/
theorem DatAt.of {w : World} {v : Value} {t : List Nd} {i : Int} (h : NdsAt w v t) (hcv : capOk v) (KB : KidsB t) (T : STabs w) (hz : atE symS t i = 0) : DatAt w v t ∧ ∃ k : Nat, i = (k : Int) ∧ k < t.length := by
  obtain ⟨h1, h2, h3⟩ := atE_0 hz
  exact ⟨⟨h, hcv, KB, T, h1⟩, i.toNat, by omega, by omega⟩
set_option maxRecDepth 50000 in
set_option maxHeartbeats 1600000 in
theorem rSize_any (v : Value) (t : List Nd) (i : Int) (w : World) (h : NdsAt w v t) (hcv : capOk v) (KB : KidsB t) (T : STabs w) :
    Calls Tryd.prog 19 #[v, .int .i64 i] w fun e w' => e = .returned (sizeV symS t i) ∧ Below w.heap.size w w' := by
  have C := Lib.hid (rat_any v t i w h KB)
  by_cases hz : atE symS t i = 0
  · obtain ⟨hD, k, rfl, hk⟩ := DatAt.of h hcv KB T hz
    have CE := Lib.hid (fun W (hW : Below w.heap.size w W) => rendD_any (hD.below hW) hk)
    obtain ⟨t1, _, t3, _⟩ := chkT_ok hD.2.2.2.2
    obtain ⟨e1, e2⟩ := t1.end_bd (p := k) (by rw [kidsL_len]; exact hk)
    rw [kidsL_len] at e2
    obtain ⟨q, hq⟩ : ∃ q, endN (kidsL t) k = q := ⟨_, rfl⟩
    have HV : Hid (sizeV symS t (k : Int) = .tuple #[.int .i64 ((q : Int) - (k : Int)), .int .i64 0]) := Lib.hid (by unfold sizeV; rw [hz, if_pos rfl, Int.toNat_natCast, hq])
    rw [hq] at CE e1 e2
    rw [hz] at C
    have hx1 : (k : Int) < (q : Int) := by omega
    have hx2 : (q : Int) ≤ 400 := by omega
    have hx3 : (0 : Int) ≤ (k : Int) := Int.natCast_nonneg _
    obtain ⟨a, c, rfl⟩ := h.slice
    clear h hcv KB T hz hD t1 t3 hq hk
    go_enter Tryd.func19, Tryd.ntmps19
    go_wp2_with fail
    refine C.out.mono ?_
    rintro e' w2 ⟨rfl, hb2⟩
    go_wp2_with fail
    refine (CE.out w2 hb2).mono ?_
    rintro e' w3 ⟨rfl, rfl⟩
    go_wp2_with fail
    go_ret2
    exact ⟨(congrArg Ending.returned HV.out).symm, hb2⟩
  · have HV : Hid (sizeV symS t i = .tuple #[.int .i64 0, .int .i64 (atE symS t i)]) := Lib.hid (by unfold sizeV; rw [if_neg hz])
    obtain ⟨e, he⟩ : ∃ e, atE symS t i = e := ⟨_, rfl⟩
    rw [he] at C HV hz
    have hne : (e != 0) = true := bne_iff_ne.2 hz
    obtain ⟨a, c, rfl⟩ := h.slice
    clear h hcv KB T hz he
    go_enter Tryd.func19, Tryd.ntmps19
    go_wp2_with fail
    refine C.out.mono ?_
    rintro e' w2 ⟨rfl, hb2⟩
    go_wp2_with fail
    go_ret2
    exact ⟨(congrArg Ending.returned HV.out).symm, hb2⟩
end Go.Proofs.YtdbgmbbchjfpdaaDoor
