/- The reference's Path and At. -/
import Derived.Test.YtdbgmbbchjfpdaaDoorDrkids
namespace Go.Proofs.YtdbgmbbchjfpdaaDoor
open Go.RowKit Go.PlainAid

set_option maxRecDepth 50000 in
set_option maxHeartbeats 3200000 in
theorem rPath_ok {v : Value} {t : List Nd} {i : Nat} {w : World} (hD : DatAt w v t) (hk : i < t.length) :
    Calls Tryd.prog 28 #[v, .int .i64 (i : Int)] w fun e w' => ∃ a c P, e = .returned (.tuple #[.slice a P.length c, .int .i64 0]) ∧ IntRow w' (.slice a P.length c) P ∧ P.length ≤ 400 ∧ fol (kidsL t) 0 P = some i ∧ Below w.heap.size w w' := by
  have C := Lib.hid (rat_any v t (i : Int) w hD.1 hD.2.2.1)
  rw [atE_dat hD.2.2.2.2 hk] at C
  obtain ⟨t1, t2, t3, _⟩ := chkT_ok hD.2.2.2.2
  have hil : i < (kidsL t).length := by rw [kidsL_len]; exact hk
  have HT := Lib.hid t1
  have HE : Hid (∀ W, Below w.heap.size w W → ∀ q, q < t.length → Calls Tryd.prog 57 #[v, .int .i64 (q : Int)] W fun e w' => e = .returned (.int .i64 (endN (kidsL t) q : Int)) ∧ W = w') := Lib.hid fun W hW q hq => rendD_any (hD.below hW) hq
  obtain ⟨n, hn⟩ : ∃ n, t.length = n := ⟨_, rfl⟩
  have HKL : Hid ((kidsL t).length = n) := Lib.hid (by rw [kidsL_len, hn])
  rw [hn] at HE hk t3
  have h0E : endN (kidsL t) 0 = n := by rw [t1.end_0, kidsL_len, hn]
  have HE0 : Hid (i < endN (kidsL t) 0) := Lib.hid (by rw [h0E]; exact hk)
  obtain ⟨a, c, rfl⟩ := hD.1.slice
  rw [hn] at C HE
  rw [hn]
  obtain ⟨i0, hi, hj0, hj1, hj2⟩ := info_parts2 infoSk
  have hi0 : (0 : Int) ≤ (i : Int) := Int.natCast_nonneg _
  clear hD t1 t2 hil hn h0E
  go_enter Tryd.func28, Tryd.ntmps28
  go_wp2_with fail
  refine C.out.mono ?_
  rintro e' w2 ⟨rfl, hb2⟩
  go_wp2_with fail
  -- MARK1
  go_loopw [7, 8] (fun x7 x8 wr => ∃ (j m : Nat) (P : List Int) (b : Option Addr) (cb : Nat), x8 = .int .i64 (j : Int) ∧ x7 = .slice b m cb ∧ Hid (P.length = m) ∧ m ≤ j ∧ j ≤ i ∧ Hid (i < endN (kidsL t) j) ∧ Hid (wr.ownsRow w.heap.size 3 1 (.slice b m cb) m (P.map (Value.int .i64))) ∧ Hid (fol (kidsL t) 0 P = some j) ∧ Below w.heap.size w wr) (fun _ x8 _ => i - (intOf x8).toNat)
  case atStart => exact ⟨0, 0, [], none, 0, rfl, rfl, Lib.hid rfl, Nat.le_refl _, Nat.zero_le _, HE0, Lib.hid ⟨rfl, .inl ⟨rfl, rfl⟩⟩, Lib.hid rfl, hb2⟩
  case round =>
    obtain ⟨j, m, P, b, cb, rfl, rfl, HPL, hmj, hji, HIn, HO, HFol, hbr⟩ := hrel
    by_cases hne : j = i
    · subst hne
      have d0 : ((j : Int) != (j : Int)) = false := by simp
      have hr : IntRow wr (.slice b m cb) P := by
        refine ⟨b, cb, by rw [HPL.out], ?_⟩
        rcases own_form HO.out with ⟨_, h0⟩ | ⟨g, c', hv, _, hg⟩
        · exact .inl (List.length_eq_zero_iff.1 (by rw [HPL.out]; exact h0))
        · cases hv
          exact .inr ⟨g, 0, rfl, hg, fun q n hq => by rw [Nat.zero_add]; exact own_cell HO.out (by rw [List.getElem?_map, hq]; rfl)⟩
      have HR := Lib.hid hr
      clear hr
      go_wp2_with fail
      go_ret2
      exact ⟨b, cb, P, by rw [HPL.out]; rfl, by rw [HPL.out]; exact HR.out, by rw [HPL.out]; omega, HFol.out, hbr⟩
    · have hjl : j < (kidsL t).length := by rw [HKL.out]; omega
      obtain ⟨κ, hκ, k1, k2⟩ := HT.out.child hjl (by omega) HIn.out
      have d0 : ((j : Int) != (i : Int)) = true := bne_iff_ne.2 (by omega)
      have HKs : Hid (∀ k, k ≤ κ → posK (kidsL t) j k < n ∧ j < posK (kidsL t) j k ∧ endN (kidsL t) (posK (kidsL t) j k) = posK (kidsL t) j (k + 1)) := Lib.hid fun k hk' => by
        obtain ⟨p1, p2, p3⟩ := HT.out.pos_step hjl (k := k) (by omega)
        rw [HKL.out] at p2
        exact ⟨p2, p1, p3⟩
      have HLe : Hid (∀ k, k < κ → posK (kidsL t) j (k + 1) ≤ i) := Lib.hid fun k hk' => Nat.le_trans (HT.out.pos_le hjl (k := k + 1) (m := κ) (by omega) (by omega)) k1
      have HG : Hid (i < posK (kidsL t) j (κ + 1)) := Lib.hid k2
      have HG1 : Hid (posK (kidsL t) j κ ≤ i) := Lib.hid k1
      have H0 : Hid (posK (kidsL t) j 0 = j + 1) := Lib.hid (posK_start hjl)
      have hκ4 : κ ≤ 400 := by have := cnt_le HT.out hjl; rw [HKL.out] at this; omega
      have HF2 : Hid (fol (kidsL t) 0 (P ++ [(κ : Int)]) = some (posK (kidsL t) j κ)) := Lib.hid (fol_one HFol.out hκ)
      have hj4 : (j : Int) ≤ 400 := by omega
      have hjn := hne
      clear hjl hκ k1 k2 hne
      go_wp2_with fail
      -- MARK2
      go_loop [9, 10] (fun x9 x10 => ∃ k p : Nat, x10 = .int .i64 (k : Int) ∧ k ≤ κ ∧ x9 = .int .i64 (p : Int) ∧ Hid (posK (kidsL t) j k = p)) (fun _ x10 => κ - (intOf x10).toNat)
      case atStart => exact ⟨0, j + 1, rfl, Nat.zero_le _, by go_num, H0⟩
      case round =>
        obtain ⟨k, p, rfl, hkκ, rfl, HP⟩ := hrel
        obtain ⟨q1, q2, q3⟩ := HKs.out k hkκ
        rw [HP.out] at q1 q2 q3
        have CE := Lib.hid (HE.out wr hbr p q1)
        obtain ⟨p', hp'⟩ : ∃ p', endN (kidsL t) p = p' := ⟨_, rfl⟩
        rw [hp'] at CE q3
        have HP' := Lib.hid q3.symm
        by_cases hlt : k < κ
        · have hle : p' ≤ i := by rw [q3]; exact HLe.out k hlt
          have hd : decide ((p' : Int) ≤ (i : Int)) = true := decide_eq_true (by omega)
          clear q3 hp'
          go_wp2_with (go_at_call 57; refine CE.out.mono ?_; rintro e' w3 ⟨rfl, rfl⟩)
          -- MARK3
          all_goals go_round
          case rel => exact ⟨k + 1, p', by go_num, by omega, rfl, HP'⟩
          case measure => simp [intOf]; omega
        · obtain rfl : k = κ := by omega
          have hle : ¬ p' ≤ i := by rw [q3]; have := HG.out; omega
          have hd : decide ((p' : Int) ≤ (i : Int)) = false := decide_eq_false (by omega)
          have hpi : p ≤ i := by rw [← HP.out]; exact HG1.out
          have HF3 := Lib.hid (HP.out ▸ HF2.out)
          have hin2 : Hid (i < endN (kidsL t) p) := Lib.hid (by rw [hp', q3]; exact HG.out)
          have hm4 : m ≤ 400 := by omega
          clear q3 hp'
          go_wp2_with (first | (go_at_call 57; refine CE.out.mono ?_; rintro e' w3 ⟨rfl, rfl⟩) | (at_builtin; refine wpList_append_lies _ rfl _ _ 30 rfl w.heap.size 3 i0 (.int .i64 0) 1 8 Tryd.underlying30 hi hj0 hj1 hj2 rfl (by decide) _ _ _ rfl (HO.out.alloc _) ⟨wr.heap.size, 0, none⟩ 1 1 [.int .i64 (k : Int)] rfl rfl (new_cells1 _ _ _ _ rfl) (by simp [Value.oneCell']) (by omega) (by unfold maxLen; omega) (by omega) (by rw [World.size_alloc]; have := hbr.size; omega) (wr.heap.size + 1) (by simp) ?_; intro g1 cap1 w8 hown8 hgrow8 _ _; have HB8 : Below w.heap.size w w8 := (hbr.alloc hbr.size _).grown hgrow8 (by rw [World.size_alloc]; have := hbr.size; omega) (fun j hj => (HO.out.lt j hj).1); have HO8 := Lib.hid hown8; clear hown8 hgrow8))
          -- MARK4
          go_roundw
          case rel => exact ⟨p, m + 1, P ++ [(k : Int)], _, _, rfl, rfl, Lib.hid (by rw [List.length_append, HPL.out]; rfl), by omega, hpi, hin2, Lib.hid (by rw [List.map_append]; exact HO8.out), HF3, HB8⟩
          case measure => simp [intOf]; omega
end Go.Proofs.YtdbgmbbchjfpdaaDoor
