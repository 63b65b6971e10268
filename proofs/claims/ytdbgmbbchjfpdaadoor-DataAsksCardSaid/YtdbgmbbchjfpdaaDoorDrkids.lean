/- The reference's Kids and Parent. -/
import Derived.Test.YtdbgmbbchjfpdaaDoorDrend
import Derived.Deep.AppendLies
namespace Go.Proofs.YtdbgmbbchjfpdaaDoor
open Go.RowKit Go.PlainAid

/-- An answer: numbers, and an error. -/
def intsV (l : List Int) (z : Int) (w : World) (e : Ending) (w' : World) : Prop := ∃ a c, e = .returned (.tuple #[.slice a l.length c, .int .i64 z]) ∧ IntRow w' (.slice a l.length c) l ∧ Below w.heap.size w w'
theorem intsV_nil {w w' : World} {z : Int} (h : Below w.heap.size w w') : intsV [] z w (.returned (.tuple #[.slice none 0 0, .int .i64 z])) w' := ⟨none, 0, rfl, ⟨none, 0, rfl, .inl rfl⟩, h⟩
/-- The children of a node, as numbers. -/
def kidZ (t : List Nd) (i : Int) : List Int := if atE symS t i = 0 then (kidsN (kidsL t) i.toNat).map fun q : Nat => (q : Int) else []
theorem kids_row {w : World} {B k : Nat} {v : Value} {l : List Nat} (h : w.ownsRow B 3 1 v k (natV l)) (hl : l.length = k) : ∃ a c, v = .slice a k c ∧ IntRow w (.slice a k c) (l.map fun q : Nat => (q : Int)) := by
  obtain ⟨a6, c6, rfl, h6⟩ := collect_form h hl
  refine ⟨a6, c6, rfl, a6, c6, by rw [List.length_map, hl], h6.imp (fun e => by rw [e]; rfl) ?_⟩
  rintro ⟨g, rfl, _, hg, hc⟩
  refine ⟨g, 0, rfl, hg, fun j n hj => ?_⟩
  rw [List.getElem?_map] at hj
  cases hq : l[j]? with
  | none => rw [hq] at hj; cases hj
  | some q =>
    rw [hq] at hj
    rw [Nat.zero_add, hc j q hq]
    cases hj; rfl
theorem Kids_l (v : Value) (t : List Nd) (i : Int) (w : World) (h : NdsAt w v t) (KB : KidsB t) (T : STabs w) :
    Calls Tryd.prog 20 #[v, .int .i64 i] w (intsV (kidZ t i) (atE symS t i) w) := by
  refine (Kids_any symS v t i w h (Lib.hid (symAll_of T)) (Lib.hid KB)).mono ?_
  rintro e w' ⟨h1, h2, h3⟩
  unfold kidZ
  by_cases hz : atE symS t i = 0
  · obtain ⟨a, c, rfl, hr⟩ := h2 hz
    rw [if_pos hz, hz]
    exact ⟨a, c, by rw [List.length_map, kidsN_len], by rw [List.length_map, kidsN_len]; exact hr, h3⟩
  · rw [if_neg hz, h1 hz]; exact intsV_nil h3

set_option maxRecDepth 50000 in
set_option maxHeartbeats 3200000 in
theorem rKids_l (v : Value) (t : List Nd) (i : Int) (w : World) (h : NdsAt w v t) (KB : KidsB t) (T : STabs w) (hcv : capOk v) :
    Calls Tryd.prog 21 #[v, .int .i64 i] w (intsV (kidZ t i) (atE symS t i) w) := by
  have C := Lib.hid (rat_any v t i w h KB)
  by_cases hz : atE symS t i = 0
  · obtain ⟨hD, k, rfl, hk⟩ := DatAt.of h hcv KB T hz
    obtain ⟨t1, t2, t3, _⟩ := chkT_ok hD.2.2.2.2
    have hil : k < (kidsL t).length := by rw [kidsL_len]; exact hk
    have hcl := cnt_le t1 hil
    obtain ⟨x, hx⟩ : ∃ x, t[k]? = some x := ⟨_, List.getElem?_eq_getElem hk⟩
    have hcx : x.2.1 = (cnt (kidsL t) k : Int) := by
      rw [cnt_of (i := k) (c := x.2.1.toNat) (by unfold kidsL; rw [List.getElem?_map, hx]; rfl), Int.toNat_of_nonneg (chkT_kids hD.2.2.2.2 x (List.mem_of_getElem? hx))]
    have HL : Hid (kidZ t (k : Int) = (kidsN (kidsL t) k).map fun q : Nat => (q : Int)) := Lib.hid (by unfold kidZ; rw [if_pos hz, Int.toNat_natCast])
    obtain ⟨c, hc⟩ : ∃ c, cnt (kidsL t) k = c := ⟨_, rfl⟩
    have HE : Hid (∀ W, Below w.heap.size w W → ∀ m, m < c → Calls Tryd.prog 57 #[v, .int .i64 (posK (kidsL t) k m : Int)] W fun e w' => e = .returned (.int .i64 (posK (kidsL t) k (m + 1) : Int)) ∧ W = w') := Lib.hid fun W hW m hm => by
      obtain ⟨_, p2, p3⟩ := t1.pos_step hil (k := m) (by omega)
      have := rendD_any (hD.below hW) (i := posK (kidsL t) k m) (by rw [← kidsL_len]; exact p2)
      rw [p3] at this; exact this
    have HAt : Hid (∀ m, m < c → (kidsN (kidsL t) k)[m]? = some (posK (kidsL t) k m)) := Lib.hid fun m hm => kidsN_at (by omega)
    have HLen : Hid ((kidsN (kidsL t) k).length = c) := Lib.hid (by rw [kidsN_len, hc])
    have H0 : Hid (posK (kidsL t) k 0 = k + 1) := Lib.hid (posK_start hil)
    obtain ⟨gt, ot, ct, rfl, hgt, hct⟩ := h.some t2
    have HC : Hid (∀ W, Below w.heap.size w W → W.cell? ⟨gt, ot + k * 4 + 1, none⟩ = some (.int .i64 (c : Int))) := Lib.hid fun W hW => by
      obtain ⟨_, k1, _⟩ := dcs_at t hx
      rw [← hc, ← hcx]
      exact (hW.cell (p := ⟨gt, ot + (k * 4 + 1), none⟩) hgt).trans (hct _ _ k1)
    have HP : Hid (∀ m, m ≤ c → posK (kidsL t) k m ≤ 400) := Lib.hid fun m hm => by
      have h1 := t1.pos_le hil (k := m) (m := cnt (kidsL t) k) (by omega) (Nat.le_refl _)
      rw [t1.pos_end hil] at h1
      have h2 := (t1.end_bd hil).2
      rw [kidsL_len] at h2
      omega
    rw [hz] at C
    obtain ⟨n, hn⟩ : ∃ n, t.length = n := ⟨_, rfl⟩
    rw [hn] at C HE hk t3
    rw [kidsL_len, hn, hc] at hcl
    rw [hn, hz]
    have hx0 : (0 : Int) ≤ (k : Int) := Int.natCast_nonneg _
    have hx1 : (k : Int) < (n : Int) := by omega
    have hc4 : c ≤ 400 := by omega
    obtain ⟨i0, hi, hj0, hj1, hj2⟩ := info_parts2 infoSk
    clear h hcv KB T hz hD t1 t2 hil hcx hct hc hn hx
    go_enter Tryd.func21, Tryd.ntmps21
    go_wp2_with fail
    refine C.out.mono ?_
    rintro e' w2 ⟨rfl, hb2⟩
    go_wp2_with fail
    -- MARK1
    go_loopw [7, 8, 9] (fun x7 x8 x9 wr => ∃ (m p : Nat) (b : Option Addr) (cb : Nat), x9 = .int .i64 (m : Int) ∧ m ≤ c ∧ x8 = .int .i64 (p : Int) ∧ Hid (posK (kidsL t) k m = p) ∧ x7 = .slice b m cb ∧ Hid (wr.ownsRow w.heap.size 3 1 (.slice b m cb) m (natV ((kidsN (kidsL t) k).take m))) ∧ Below w.heap.size w wr) (fun _ _ x9 _ => c - (intOf x9).toNat)
    case atStart => exact ⟨0, k + 1, none, 0, rfl, Nat.zero_le _, by go_num, H0, rfl, Lib.hid ⟨rfl, .inl ⟨rfl, rfl⟩⟩, hb2⟩
    case round =>
      obtain ⟨m, p, b, cb, rfl, hm, rfl, HPp, rfl, HO, hbr⟩ := hrel
      have d0 := HC.out wr hbr
      by_cases hlt : m < c
      · have hm1 : (m : Int) < (c : Int) := by omega
        have d1 : decide ((m : Int) < (c : Int)) = true := decide_eq_true hm1
        obtain ⟨p', hp'⟩ : ∃ p', posK (kidsL t) k (m + 1) = p' := ⟨_, rfl⟩
        have HP' := Lib.hid hp'
        have hpl := HP.out (m + 1) (by omega)
        have HE2 := Lib.hid (fun W hW => HE.out W hW m hlt)
        rw [HPp.out, hp'] at HE2
        have HT : Hid ((kidsN (kidsL t) k).take m ++ [p] = (kidsN (kidsL t) k).take (m + 1)) := Lib.hid (take_snocN (by rw [HAt.out m hlt, HPp.out]))
        have hm4 : m ≤ 400 := by omega
        clear hp'
        go_wp2_with (at_builtin; refine wpList_append_lies _ rfl _ _ 30 rfl w.heap.size 3 i0 (.int .i64 0) 1 8 Tryd.underlying30 hi hj0 hj1 hj2 rfl (by decide) _ _ _ rfl (HO.out.alloc _) ⟨wr.heap.size, 0, none⟩ 1 1 [.int .i64 (p : Int)] rfl rfl (new_cells1 _ _ _ _ rfl) (by simp [Value.oneCell']) (by omega) (by unfold maxLen; omega) (by omega) (by rw [World.size_alloc]; have := hbr.size; omega) (wr.heap.size + 1) (by simp) ?_; intro g1 cap1 w8 hown8 hgrow8 _ _; have HB8 : Below w.heap.size w w8 := (hbr.alloc hbr.size _).grown hgrow8 (by rw [World.size_alloc]; have := hbr.size; omega) (fun j hj => (HO.out.lt j hj).1); have HO8 := Lib.hid hown8; clear hown8 hgrow8)
        -- MARK2
        have HO9 : Hid (w8.ownsRow w.heap.size 3 1 (.slice (some ⟨g1, 0, none⟩) (m + 1) cap1) (m + 1) (natV ((kidsN (kidsL t) k).take (m + 1)))) := Lib.hid (by
          have := HO8.out
          rw [← HT.out]; unfold natV at this ⊢; rw [List.map_append]; exact this)
        refine (HE2.out w8 HB8).mono ?_
        rintro e' w9 ⟨rfl, rfl⟩
        go_wp2_with fail
        go_roundw
        case rel => exact ⟨m + 1, p', _, _, by go_num, by omega, rfl, HP', rfl, HO9, HB8⟩
        case measure => simp [intOf]; omega
      · obtain rfl : m = c := by omega
        have d1 : decide ((m : Int) < (m : Int)) = false := decide_eq_false (by omega)
        have hro := HO.out
        rw [List.take_of_length_le (Nat.le_of_eq HLen.out)] at hro
        obtain ⟨a', c', e, hr⟩ := kids_row hro HLen.out
        cases e
        have HR := Lib.hid hr
        clear hro hr
        go_wp2_with fail
        go_ret2
        exact ⟨b, cb, by rw [HL.out, List.length_map, HLen.out]; rfl, by rw [HL.out, List.length_map, HLen.out]; exact HR.out, hbr⟩
  · have HL : Hid (kidZ t i = []) := Lib.hid (by unfold kidZ; rw [if_neg hz])
    obtain ⟨e, he⟩ : ∃ e, atE symS t i = e := ⟨_, rfl⟩
    rw [he] at C hz ⊢
    have hne : (e != 0) = true := bne_iff_ne.2 hz
    obtain ⟨a, c, rfl⟩ := h.slice
    clear h hcv KB T hz he
    go_enter Tryd.func21, Tryd.ntmps21
    go_wp2_with fail
    refine C.out.mono ?_
    rintro e' w2 ⟨rfl, hb2⟩
    go_wp2_with fail
    go_ret2
    rw [HL.out]
    exact intsV_nil hb2

set_option maxRecDepth 50000 in
set_option maxHeartbeats 1600000 in
theorem rParent_l (v : Value) (t : List Nd) (i : Int) (w : World) (h : NdsAt w v t) (KB : KidsB t) (T : STabs w) (hcv : capOk v) :
    Calls Tryd.prog 24 #[v, .int .i64 i] w fun e w' => e = .returned (parV symS t i) ∧ Below w.heap.size w w' := by
  have C := Lib.hid (rat_any v t i w h KB)
  by_cases hz : atE symS t i = 0
  · obtain ⟨hD, k, rfl, hk⟩ := DatAt.of h hcv KB T hz
    rw [hz] at C
    by_cases hk0 : k = 0
    · subst hk0
      have HV : Hid (parV symS t ((0 : Nat) : Int) = .tuple #[.int .i64 0, .int .i64 4]) := Lib.hid (by unfold parV; rw [if_neg (by rw [hz]; simp), if_pos (show ((0 : Nat) : Int) = 0 from rfl)])
      obtain ⟨a, c, rfl⟩ := h.slice
      have hzz : ((0 : Nat) : Int) = 0 := rfl
      rw [hzz] at C HV ⊢
      clear h hcv KB T hz hD hk
      go_enter Tryd.func24, Tryd.ntmps24
      go_wp2_with fail
      refine C.out.mono ?_
      rintro e' w2 ⟨rfl, hb2⟩
      go_wp2_with fail
      go_ret2
      exact ⟨(congrArg Ending.returned HV.out).symm, hb2⟩
    · obtain ⟨t1, t2, t3, _⟩ := chkT_ok hD.2.2.2.2
      have hil : k < (kidsL t).length := by rw [kidsL_len]; exact hk
      obtain ⟨p1, p2, p3⟩ := t1.par hil (by omega)
      obtain ⟨P, hP⟩ : ∃ P, parN (kidsL t) k = P := ⟨_, rfl⟩
      have HV : Hid (parV symS t (k : Int) = .tuple #[.int .i64 (P : Int), .int .i64 0]) := Lib.hid (by unfold parV; rw [if_neg (by rw [hz]; simp), if_neg (by omega), Int.toNat_natCast, hP])
      rw [hP] at p1 p2 p3
      have HE : Hid (∀ W, Below w.heap.size w W → ∀ q, q < k → Calls Tryd.prog 57 #[v, .int .i64 (q : Int)] W fun e w' => e = .returned (.int .i64 (endN (kidsL t) q : Int)) ∧ W = w') := Lib.hid fun W hW q hq => rendD_any (hD.below hW) (by omega)
      have HP2 := Lib.hid p2
      have HP3 := Lib.hid p3
      have hb0 : ((k : Int) == 0) = false := beq_eq_false_iff_ne.2 (by omega)
      have hkn : (k : Int) ≤ 400 := by omega
      have hk1 : (1 : Int) ≤ (k : Int) := by omega
      obtain ⟨a, c, rfl⟩ := h.slice
      clear h hcv KB T hz hD hk t1 t2 t3 hil p2 p3 hP
      go_enter Tryd.func24, Tryd.ntmps24
      go_wp2_with fail
      refine C.out.mono ?_
      rintro e' w2 ⟨rfl, hb2⟩
      go_wp2_with fail
      -- MARK3
      go_loop [7] (fun x7 => ∃ q : Nat, x7 = .int .i64 (q : Int) ∧ P ≤ q ∧ q < k) (fun x7 => (intOf x7).toNat)
      case atStart => exact ⟨k - 1, by rw [show ((k - 1 : Nat) : Int) = (k : Int) - 1 by omega], by omega, by omega⟩
      case round =>
        obtain ⟨q, rfl, hq1, hq2⟩ := hrel
        have CE := Lib.hid (HE.out w2 hb2 q hq2)
        by_cases hqP : q = P
        · obtain ⟨E, hE⟩ : ∃ E, endN (kidsL t) q = E := ⟨_, rfl⟩
          rw [hE] at CE
          have hle : ¬ E ≤ k := by have := HP2.out; rw [hqP] at hE; omega
          have hd : decide ((E : Int) ≤ (k : Int)) = false := decide_eq_false (by omega)
          subst hqP
          clear hE
          go_wp2_with (go_at_call 57; refine CE.out.mono ?_; rintro e' w3 ⟨rfl, rfl⟩)
          go_ret2
          exact ⟨(congrArg Ending.returned HV.out).symm, hb2⟩
        · obtain ⟨E, hE⟩ : ∃ E, endN (kidsL t) q = E := ⟨_, rfl⟩
          rw [hE] at CE
          have hle : E ≤ k := by have := HP3.out q (by omega) hq2; omega
          have hd : decide ((E : Int) ≤ (k : Int)) = true := decide_eq_true (by omega)
          have hwq : wrap64 ((q : Int) - 1) = (q : Int) - 1 := (by unfold wrap64; omega)
          clear hE
          go_wp2_with (go_at_call 57; refine CE.out.mono ?_; rintro e' w3 ⟨rfl, rfl⟩)
          -- MARK4
          go_round
          case rel => exact ⟨q - 1, by rw [show ((q - 1 : Nat) : Int) = (q : Int) - 1 by omega], by omega, by omega⟩
          case measure => simp [intOf]; omega
  · have HV : Hid (parV symS t i = .tuple #[.int .i64 0, .int .i64 (atE symS t i)]) := Lib.hid (by unfold parV; rw [if_pos hz])
    obtain ⟨e, he⟩ : ∃ e, atE symS t i = e := ⟨_, rfl⟩
    rw [he] at C HV hz
    have hne : (e != 0) = true := bne_iff_ne.2 hz
    have hnb : (e == 0) = false := beq_eq_false_iff_ne.2 hz
    obtain ⟨a, c, rfl⟩ := h.slice
    clear h hcv KB T hz he
    go_enter Tryd.func24, Tryd.ntmps24
    go_wp2_with fail
    refine C.out.mono ?_
    rintro e' w2 ⟨rfl, hb2⟩
    go_wp2_with fail
    go_ret2
    exact ⟨(congrArg Ending.returned HV.out).symm, hb2⟩
end Go.Proofs.YtdbgmbbchjfpdaaDoor
