/- Shape: where its row lies. -/
import Derived.Test.YtdiinlmeoifgjaaGreatDoorHl
namespace Go.Proofs.YtdiinlmeoifgjaaGreatDoor
open Go.RowKit Go.PlainAid

def ShapeO (l : List Int) (w : World) (e : Ending) (w' : World) : Prop :=
  ∃ v, e = .returned (.tuple #[v, .int .i64 (shapeS l).2]) ∧ IntRow w' v ((shapeS l).1.map fun q : Nat => (q : Int)) ∧ Below w.heap.size w w' ∧ ∀ g, v.ownBlock = some g → w.heap.size ≤ g
set_option maxRecDepth 50000 in
set_option maxHeartbeats 3200000 in
theorem Shape_own (v : Value) (l : List Int) (w : World) (h : IntRow w v l) : Calls Tryz.prog 41 #[v] w (ShapeO l w) := by
  obtain ⟨a, c, rfl, hA⟩ := h
  by_cases hlong : 2000 < l.length
  · have HV := Lib.hid (shape_long hlong)
    obtain ⟨n, hn⟩ : ∃ n, l.length = n := ⟨_, rfl⟩
    have hd : decide ((2000 : Int) < (n : Int)) = true := decide_eq_true (by omega)
    rw [hn]
    clear hA hlong hn
    go_enter Tryz.func41, Tryz.ntmps41
    go_wp2_with fail
    go_ret2
    exact ⟨_, by rw [HV.out]; rfl, by rw [HV.out]; exact row_nil _, Below.refl _ _, fun g e => by cases e⟩
  · have HL := Lib.hid hlong
    have HA := Lib.hid hA
    obtain ⟨n, hn⟩ : ∃ n, l.length = n := ⟨_, rfl⟩
    have HN := Lib.hid hn
    have hd : decide ((2000 : Int) < (n : Int)) = false := decide_eq_false (by omega)
    have hn2 : n ≤ 2000 := by omega
    rw [hn]
    clear hA hlong hn
    go_enter Tryz.func41, Tryz.ntmps41
    go_wp2_with fail
    -- MARK1
    go_loop [12] (fun x => ∃ k : Nat, x = .int .i64 (k : Int) ∧ k ≤ n ∧ Hid (∀ (j : Nat) (x : Int), j < k → l[j]? = some x → 0 ≤ x)) (fun x => n - (intOf x).toNat)
    case atStart => exact ⟨0, rfl, Nat.zero_le _, Lib.hid (fun j x h => by omega)⟩
    case round =>
      obtain ⟨k, rfl, hk, HP⟩ := hrel
      have hk0 : (0 : Int) ≤ (k : Int) := Int.natCast_nonneg _
      by_cases hlt : k < n
      · obtain ⟨x, hx⟩ : ∃ x, l[k]? = some x := ⟨_, List.getElem?_eq_getElem (by rw [HN.out]; exact hlt)⟩
        rcases HA.out with hnil | ⟨g, off, rfl, hg, hc⟩
        · rw [hnil] at hx; cases hx
        have d0 := hc k x hx
        have HX := Lib.hid hx
        have hk1 : (k : Int) < (n : Int) := by omega
        clear hx hc
        by_cases hneg : x < 0
        · have HV := Lib.hid (shape_neg HL.out HX.out hneg)
          have hd2 : decide (x < 0) = true := decide_eq_true hneg
          clear hneg
          go_wp2_with fail
          go_ret2
          exact ⟨_, by rw [HV.out]; rfl, by rw [HV.out]; exact row_nil _, Below.refl _ _, fun g e => by cases e⟩
        · have hd2 : decide (x < 0) = false := decide_eq_false hneg
          have HP2 : Hid (∀ (j : Nat) (x : Int), j < k + 1 → l[j]? = some x → 0 ≤ x) := Lib.hid fun j y hj hy => by
            by_cases e : j = k
            · subst e; rw [HX.out] at hy; have := Option.some.inj hy; omega
            · exact HP.out j y (by omega) hy
          clear hneg
          go_wp2_with fail
          go_round
          case rel => exact ⟨k + 1, by go_num, by omega, HP2⟩
          case measure => simp [intOf]; omega
      · obtain rfl : k = n := by omega
        have HV := Lib.hid (shape_else HL.out fun j x hj => HP.out j x (by rw [← HN.out]; exact (List.getElem?_eq_some_iff.1 hj).1) hj)
        have hkl : (l.map Int.toNat).length = k := by rw [List.length_map, HN.out]
        have C := Lib.hid (endsOf_any a k c (l.map Int.toNat) w hkl hn2 (Lib.hid fun hpos => by
          rcases HA.out with hnil | ⟨g, off, e, hg, hc⟩
          · have := HN.out; rw [hnil] at this; simp at this; omega
          · refine ⟨g, off, e, hg, fun j q hj => ?_⟩
            rw [List.getElem?_map] at hj
            cases hq : l[j]? with
            | none => rw [hq] at hj; cases hj
            | some x =>
              rw [hq] at hj
              have hx0 := HP.out j x (by rw [← HN.out]; exact (List.getElem?_eq_some_iff.1 hq).1) hq
              have hxq : x.toNat = q := Option.some.inj hj
              rw [hc j x hq]
              congr 2; omega))
        have HKL := Lib.hid hkl
        clear hkl
        go_wp2_with fail
        -- MARK2
        refine C.out.mono ?_
        rintro e w1 ⟨ve, rfl, hyes, hno, hb⟩
        obtain ⟨b, hbE⟩ : ∃ b, trB (l.map Int.toNat) = b := ⟨_, rfl⟩
        rw [hbE] at hyes hno ⊢
        have HBE := Lib.hid hbE
        clear hbE C
        cases b with
        | true =>
          obtain ⟨ge, rfl, hge, hgl, hgc⟩ := hyes rfl
          have HGC := Lib.hid hgc
          clear hgc hyes hno
          rw [HKL.out]
          go_wp2_with fail
          go_ret2
          refine ⟨_, by rw [HV.out, HBE.out]; rfl, ?_, hb, fun g e => by cases e; exact hge⟩
          rw [HV.out, HBE.out]
          refine ⟨_, _, by rw [if_pos rfl]; show _ = Value.slice _ (List.map _ (endsL _)).length _; rw [List.length_map, endsL_len, HKL.out]; rfl, .inr ⟨ge, 0, rfl, hgl, fun j x hj => ?_⟩⟩
          rw [if_pos rfl] at hj
          replace hj : ((endsL (l.map Int.toNat)).map fun q : Nat => (q : Int))[j]? = some x := hj
          rw [List.getElem?_map] at hj
          cases hq : (endsL (l.map Int.toNat))[j]? with
          | none => rw [hq] at hj; cases hj
          | some q =>
            rw [hq] at hj
            rw [Nat.zero_add, HGC.out j q hq]
            cases hj; rfl
        | false =>
          obtain rfl := hno rfl
          clear hyes hno
          go_wp2_with fail
          go_ret2
          refine ⟨_, by rw [HV.out, HBE.out]; rfl, ?_, hb, fun g e => by cases e⟩
          rw [HV.out, HBE.out]
          exact row_nil _
end Go.Proofs.YtdiinlmeoifgjaaGreatDoor
