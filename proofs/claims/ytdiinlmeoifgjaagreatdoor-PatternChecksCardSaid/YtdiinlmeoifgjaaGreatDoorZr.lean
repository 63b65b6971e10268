import Derived.Test.YtdiinlmeoifgjaaGreatDoorHll
import Derived.Laws.Concat
/- Calls on sets that are given as their scopes. -/
namespace Go.Proofs.YtdiinlmeoifgjaaGreatDoor
open Go.RowKit Go.PlainAid

theorem ul (a b : List Nat) : (un a b).length ≤ a.length + b.length := mg_len' _ _ _ a b
theorem ml (a b : List Nat) : (me a b).length ≤ a.length + b.length := mg_len' _ _ _ a b
theorem dl (a b : List Nat) : (mi a b).length ≤ a.length + b.length := mg_len' _ _ _ a b
theorem few_of {A : List UInt8} {l : List Nat} (e : A = setL l) (h : A.length ≤ 300) : l.length ≤ 150 := by rw [e, setL_len] at h; omega
theorem str_of (s : ByteArray) : ∃ A : List UInt8, str A = s ∧ A.length = s.size := ⟨s.data.toList, str_data s, len_list s⟩
theorem str_eqb {A B : List UInt8} : ((str A).toList == (str B).toList) = decide (A = B) := by
  rw [ByteArray.toList_eq, ByteArray.toList_eq, str_list, str_list, Bool.eq_iff_iff, beq_iff_eq, decide_eq_true_iff]
end Go.Proofs.YtdiinlmeoifgjaaGreatDoor

/- The reference of layer 9: scope, set, bytes, Check, one, two, has, with, without. -/
namespace Go.Proofs.YtdiinlmeoifgjaaGreatDoor
open Go.RowKit Go.PlainAid

theorem two_lit (a b : UInt8) (p q : Int) (W : World) (ha : (a.toNat : Int) = p) (hb : (b.toNat : Int) = q) : (convert 98 9 (.slice (some ⟨W.heap.size, 0, none⟩) 2 2)).run Tryz.prog (W.alloc (.cells #[.int .u8 p, .int .u8 q] 5)) = .ok (.string (str [a, b])) (W.alloc (.cells #[.int .u8 p, .int .u8 q] 5)) := by
  subst ha hb
  exact conv_own (l := [a, b]) Tryz.underlying98 Tryz.underlying5 (World.ownsRow_lit (base := 0) (e := 5) (size := 1) W #[.int .u8 (a.toNat : Int), .int .u8 (b.toNat : Int)] 2 (by omega) (by decide) rfl) 9 Tryz.underlying9
theorem ext_at {l : List Nat} {k x : Nat} (h : l[k]? = some x) : (str (setL l)).extract (2 * k) (2 * k + 2) = str [hiB x, loB x] := by
  rw [ext_str, str_list, Nat.add_sub_cancel_left, setL_cut h]
theorem pair_lessS {x y : Nat} (hx : x < 65536) (hy : y < 65536) : Op.bytesLess (str [hiB x, loB x]).toList (str [hiB y, loB y]).toList = decide (x < y) := by
  rw [ByteArray.toList_eq, ByteArray.toList_eq, str_list, str_list]; exact pair_less hx hy
theorem pair_eqS {x y : Nat} (hx : x < 65536) (hy : y < 65536) : ((str [hiB x, loB x]).toList == (str [hiB y, loB y]).toList) = decide (x = y) := by
  rw [str_eqb, Bool.eq_iff_iff, decide_eq_true_iff, decide_eq_true_iff]; exact pair_inj hx hy
set_option maxRecDepth 100000 in
set_option maxHeartbeats 3200000 in
theorem rcheck_even (l : List Nat) (w : World) (hx : ∀ x ∈ l, x < 65536) (hL : l.length ≤ 1000000) :
    Calls Tryz.prog 44 #[.string (str (setL l))] w fun e w' => e = .returned (.int .i64 (chkE (setL l))) ∧ Below w.heap.size w w' := by
  obtain ⟨m, hm⟩ : ∃ m, l.length = m := ⟨_, rfl⟩
  have HV1 : Hid (¬ asc l → chkE (setL l) = 6) := Lib.hid (fun h => chkE_no (by rw [ids_set l hx]; exact h))
  have HV2 : Hid (asc l → chkE (setL l) = if 10000 < m then 3 else 0) := Lib.hid (fun h => by rw [chkE_set h hx, hm])
  have HE : Hid (∀ k x, l[k]? = some x → (str (setL l)).extract (2 * k) (2 * k + 2) = str [hiB x, loB x] ∧ x < 65536) := Lib.hid (fun k x h => ⟨ext_at h, hx x (List.mem_of_getElem? h)⟩)
  obtain ⟨S, hS⟩ : ∃ S, str (setL l) = S := ⟨_, rfl⟩
  have HS : Hid (S.size = 2 * m) := Lib.hid (by rw [← hS, str_size, setL_len, hm])
  have HM := Lib.hid hm
  have hmb : m ≤ 1000000 := by omega
  have e1 : ((S.size : Int) % 2 != 0) = false := by rw [HS.out]; simp
  rw [hS] at HE ⊢
  clear hS hm hx hL
  go_enter Tryz.func44, Tryz.ntmps44
  go_wp2
  go_loopw [3] (fun x3 wr => ∃ (k : Nat), x3 = .int .i64 ((2 * k + 2 : Nat) : Int) ∧ k ≤ m ∧ Hid (∀ (i a b : Nat), i < k → l[i]? = some a → l[i + 1]? = some b → a < b) ∧ Below w.heap.size w wr) (fun x3 _ => 2 * m + 3 - (intOf x3).toNat)
  case atStart => exact ⟨0, rfl, Nat.zero_le _, Lib.hid (fun i a b h => absurd h (Nat.not_lt_zero _)), Below.refl _ _⟩
  case round =>
    obtain ⟨k, rfl, hk, HG, hbel⟩ := hrel
    obtain ⟨r, hr⟩ : ∃ r, 2 * k + 2 = r := ⟨_, rfl⟩
    have HR := Lib.hid hr
    rw [hr]
    have hsz := HS.out
    have hrb : r ≤ 2000002 := by omega
    by_cases hlt : k + 1 < m
    · obtain ⟨x, hxk⟩ : ∃ x, l[k]? = some x := ⟨_, List.getElem?_eq_getElem (by rw [HM.out]; omega)⟩
      obtain ⟨y, hyk⟩ : ∃ x, l[k + 1]? = some x := ⟨_, List.getElem?_eq_getElem (by rw [HM.out]; exact hlt)⟩
      obtain ⟨q1, q2⟩ := HE.out k x hxk
      obtain ⟨q3, q4⟩ := HE.out (k + 1) y hyk
      obtain ⟨p, hp⟩ : ∃ p, 2 * k = p := ⟨_, rfl⟩
      rw [show 2 * (k + 1) = r by omega] at q3
      rw [hr, hp] at q1
      have hl := pair_lessS q2 q4
      obtain ⟨X, hX⟩ : ∃ X, str [hiB x, loB x] = X := ⟨_, rfl⟩
      obtain ⟨Y, hY⟩ : ∃ X, str [hiB y, loB y] = X := ⟨_, rfl⟩
      rw [hX] at q1 hl
      rw [hY] at q3 hl
      have hd : decide ((r : Int) < (S.size : Int)) = true := decide_eq_true (by omega)
      have w1 : IntKind.i64.wrap ((r : Int) - 2) = (p : Int) := by rw [IntKind.wrap_i64]; omega
      have w2 : IntKind.i64.wrap ((r : Int) + 2) = (r : Int) + 2 := by rw [IntKind.wrap_i64]; omega
      have b0 : (0 : Int) ≤ (p : Int) := Int.natCast_nonneg _
      have b1 : p ≤ r := by omega
      have b2 : r ≤ S.size := by omega
      have b3 : r + 2 ≤ S.size := by omega
      have b4 : (r : Int) + 2 ≤ (S.size : Int) := by omega
      have b5 : (0 : Int) ≤ (r : Int) := Int.natCast_nonneg _
      have HStep : Hid (x < y → ∀ (i a b : Nat), i < k + 1 → l[i]? = some a → l[i + 1]? = some b → a < b) := Lib.hid fun h i a b hi ha hb => by
        rcases Nat.lt_succ_iff_lt_or_eq.1 hi with hi | rfl
        · exact HG.out i a b hi ha hb
        · rw [hxk] at ha; rw [hyk] at hb; cases ha; cases hb; exact h
      have HBad : Hid (¬ x < y → ¬ asc l) := Lib.hid fun h ha => h ((asc_at l).1 ha k x y hxk hyk)
      clear hxk hyk hX hY q2 q4 hsz hp hr
      by_cases hxy : x < y
      · rw [decide_eq_true hxy] at hl
        have HG2 := Lib.hid (HStep.out hxy)
        clear HStep HBad hxy HG
        go_wp2
        go_quiet (fail)
        go_wp2
        -- MARK1
        exact ⟨⟨k + 1, by have := HR.out; go_num, by omega, HG2, ⟨hbel.os, hbel.tape, hbel.output, hbel.size, hbel.block⟩⟩, by have := HR.out; simp [intOf]; omega⟩
      · rw [decide_eq_false hxy] at hl
        have HV := Lib.hid (HV1.out (HBad.out hxy))
        clear HStep HBad hxy HG
        go_wp2
        go_quiet (fail)
        go_wp2
        go_ret
        exact ⟨by rw [HV.out]; rfl, ⟨hbel.os, hbel.tape, hbel.output, hbel.size, hbel.block⟩⟩
    · have hd : decide ((r : Int) < (S.size : Int)) = false := decide_eq_false (by omega)
      have hnl : ¬ r < S.size := by omega
      have HV := Lib.hid (HV2.out ((asc_at l).2 fun i a b ha hb => HG.out i a b (by
        have := (List.getElem?_eq_some_iff.1 hb).1; rw [HM.out] at this; omega) ha hb))
      clear HG hr
      by_cases hbig : 10000 < m
      · have hd2 : decide ((20000 : Int) < (S.size : Int)) = true := decide_eq_true (by omega)
        rw [if_pos hbig] at HV
        clear hsz
        go_wp2
        go_ret
        exact ⟨by rw [HV.out]; rfl, hbel⟩
      · have hd2 : decide ((20000 : Int) < (S.size : Int)) = false := decide_eq_false (by omega)
        rw [if_neg hbig] at HV
        clear hsz
        go_wp2
        go_ret
        exact ⟨by rw [HV.out]; rfl, hbel⟩
set_option maxRecDepth 50000 in
theorem rcheck_odd (L : List UInt8) (w : World) (h : L.length % 2 ≠ 0) : Calls Tryz.prog 44 #[.string (str L)] w fun e w' => e = .returned (.int .i64 (chkE L)) ∧ Below w.heap.size w w' := by
  have HV := Lib.hid (chkE_odd h)
  obtain ⟨S, hS⟩ : ∃ S, str L = S := ⟨_, rfl⟩
  have e1 : ((S.size : Int) % 2 != 0) = true := by
    rw [bne_iff_ne, ← hS, str_size]; omega
  rw [hS]
  clear hS h
  go_enter Tryz.func44, Tryz.ntmps44
  go_wp2
  go_ret
  exact ⟨by rw [HV.out]; rfl, Below.refl _ _⟩
theorem rcheck9_any (L : List UInt8) (w : World) (hL : L.length ≤ 1000000) : Calls Tryz.prog 44 #[.string (str L)] w fun e w' => e = .returned (.int .i64 (chkE L)) ∧ Below w.heap.size w w' := by
  by_cases h : L.length % 2 = 0
  · have := rcheck_even (idsL L) w (ids_lt L) (by rw [ids_len]; omega)
    rw [set_ids L h] at this; exact this
  · exact rcheck_odd L w h
-- MARK8
end Go.Proofs.YtdiinlmeoifgjaaGreatDoor

/- The reference of layer 9: with, without. -/
namespace Go.Proofs.YtdiinlmeoifgjaaGreatDoor
open Go.RowKit Go.PlainAid

theorem setL_put (l : List Nat) (k n : Nat) : (str (setL l)).extract 0 (2 * k) ++ str [hiB n, loB n] ++ (str (setL l)).extract (2 * k) (str (setL l)).size = str (setL (l.take k ++ n :: l.drop k)) := by
  rw [ext_str, ext_str, str_cat, str_cat, str_list, str_size]
  congr 1
  rw [setL_app, setL, List.drop_zero, Nat.sub_zero, setL_take, setL_drop, List.append_assoc]
  congr 1
  rw [List.take_of_length_le (by simp only [setL_len, List.length_drop]; omega)]; rfl
theorem setL_out (l : List Nat) (k : Nat) : (str (setL l)).extract 0 (2 * k) ++ (str (setL l)).extract (2 * k + 2) (str (setL l)).size = str (setL (l.take k ++ l.drop (k + 1))) := by
  rw [ext_str, ext_str, str_cat, str_list, str_size]
  congr 1
  rw [setL_app, List.drop_zero, Nat.sub_zero, setL_take, show 2 * k + 2 = 2 * (k + 1) by omega, setL_drop]
  congr 1
  rw [List.take_of_length_le (by simp only [setL_len, List.length_drop]; omega)]
-- MARK9
end Go.Proofs.YtdiinlmeoifgjaaGreatDoor

/- The reference of layer 9: Ids, Has, Add, Drop, Flip. -/
namespace Go.Proofs.YtdiinlmeoifgjaaGreatDoor
open Go.RowKit Go.PlainAid

theorem flip_in {l : List Nat} {k : Nat} (hl : asc l) (h : k ∈ l) : mg true false true l [k] = mg true false false l [k] :=
  asc_ext (asc_mg' hl (asc_one k)) (asc_mg' hl (asc_one k)) fun z => by
    rw [mem_mg' hl (asc_one k), mem_mg' hl (asc_one k), List.mem_singleton]
    constructor
    · rintro (⟨a, b, c⟩ | ⟨a, b, c⟩ | ⟨a, b, c⟩)
      · exact .inl ⟨a, b, rfl⟩
      · cases c
      · subst b; exact absurd h a
    · rintro (⟨a, b, c⟩ | ⟨a, b, c⟩ | ⟨a, b, c⟩)
      · exact .inl ⟨a, b, rfl⟩
      · cases c
      · cases c
theorem flip_out {l : List Nat} {k : Nat} (hl : asc l) (h : k ∉ l) : mg true false true l [k] = mg true true true l [k] :=
  asc_ext (asc_mg' hl (asc_one k)) (asc_mg' hl (asc_one k)) fun z => by
    rw [mem_mg' hl (asc_one k), mem_mg' hl (asc_one k), List.mem_singleton]
    constructor
    · rintro (⟨a, b, c⟩ | ⟨a, b, c⟩ | ⟨a, b, c⟩)
      · exact .inl ⟨a, b, rfl⟩
      · cases c
      · exact .inr (.inr ⟨a, b, rfl⟩)
    · rintro (⟨a, b, c⟩ | ⟨a, b, c⟩ | ⟨a, b, c⟩)
      · exact .inl ⟨a, b, rfl⟩
      · subst b; exact absurd a h
      · exact .inr (.inr ⟨a, b, rfl⟩)
theorem strE_l (S : List UInt8) (e : Int) : strE (S, e) = .tuple #[.string (str S), .int .i64 e] := rfl
end Go.Proofs.YtdiinlmeoifgjaaGreatDoor
