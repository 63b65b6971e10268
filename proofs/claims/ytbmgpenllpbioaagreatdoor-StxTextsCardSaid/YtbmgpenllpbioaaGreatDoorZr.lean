import Derived.Test.YtbmgpenllpbioaaGreatDoorZv
import Derived.Test.YtbmgpenllpbioaaGreatDoorYt
import Derived.Laws.Concat
/- Calls on sets that are given as their scopes. -/
namespace Go.Proofs.YtbmgpenllpbioaaGreatDoor
open Go.RowKit Go.PlainAid

theorem ul (a b : List Nat) : (un a b).length ≤ a.length + b.length := mg_len' _ _ _ a b
theorem ml (a b : List Nat) : (me a b).length ≤ a.length + b.length := mg_len' _ _ _ a b
theorem dl (a b : List Nat) : (mi a b).length ≤ a.length + b.length := mg_len' _ _ _ a b
theorem few_of {A : List UInt8} {l : List Nat} (e : A = setL l) (h : A.length ≤ 300) : l.length ≤ 150 := by rw [e, setL_len] at h; omega
theorem str_of (s : ByteArray) : ∃ A : List UInt8, str A = s ∧ A.length = s.size := ⟨s.data.toList, str_data s, len_list s⟩
theorem str_eqb {A B : List UInt8} : ((str A).toList == (str B).toList) = decide (A = B) := by
  rw [ByteArray.toList_eq, ByteArray.toList_eq, str_list, str_list, Bool.eq_iff_iff, beq_iff_eq, decide_eq_true_iff]
end Go.Proofs.YtbmgpenllpbioaaGreatDoor

/- The reference of layer 9: scope, set, bytes, Check, one, two, has, with, without. -/
namespace Go.Proofs.YtbmgpenllpbioaaGreatDoor
open Go.RowKit Go.PlainAid

theorem rscope_any (n : Int) (w : World) : Calls Tryz.prog 90 #[.int .i64 n] w fun e w' => e = .returned (.bool (decide (0 ≤ n ∧ n ≤ 65535))) ∧ w' = w := by
  by_cases h : 0 ≤ n
  · have hd : decide (0 ≤ n) = true := decide_eq_true h
    have e : decide (0 ≤ n ∧ n ≤ 65535) = decide (n ≤ 65535) := by simp [h]
    rw [e]
    go_enter Tryz.func90, Tryz.ntmps90
    go_wp2_with fail
    go_ret
    exact ⟨rfl, rfl⟩
  · have hd : decide (0 ≤ n) = false := decide_eq_false h
    have e : decide (0 ≤ n ∧ n ≤ 65535) = false := by simp [h]
    rw [e]
    go_enter Tryz.func90, Tryz.ntmps90
    go_wp2_with fail
    go_ret
    exact ⟨rfl, rfl⟩
set_option maxRecDepth 50000 in
theorem rset_any (l : List Nat) (w : World) (hl : l.length ≤ 1000000) : Calls Tryz.prog 72 #[.string (str (setL l))] w fun e w' => e = .returned (strE (outS l)) ∧ w' = w := by
  obtain ⟨S, hS⟩ : ∃ S, str (setL l) = S := ⟨_, rfl⟩
  have hz : S.size = 2 * l.length := by rw [← hS, str_size, setL_len]
  rw [hS]
  by_cases h : 10000 < l.length
  · have hd : decide ((20000 : Int) < (S.size : Int)) = true := decide_eq_true (by omega)
    rw [out_no h]
    unfold strE
    clear hS hz h
    go_enter Tryz.func72, Tryz.ntmps72
    go_wp2_with fail
    go_ret2
    exact ⟨rfl, rfl⟩
  · have hd : decide ((20000 : Int) < (S.size : Int)) = false := decide_eq_false (by omega)
    rw [out_ok (by omega)]
    unfold strE
    simp only
    rw [hS]
    clear hS hz h
    go_enter Tryz.func72, Tryz.ntmps72
    go_wp2_with fail
    go_ret2
    exact ⟨rfl, rfl⟩
theorem two_lit (a b : UInt8) (p q : Int) (W : World) (ha : (a.toNat : Int) = p) (hb : (b.toNat : Int) = q) : (convert 88 9 (.slice (some ⟨W.heap.size, 0, none⟩) 2 2)).run Tryz.prog (W.alloc (.cells #[.int .u8 p, .int .u8 q] 5)) = .ok (.string (str [a, b])) (W.alloc (.cells #[.int .u8 p, .int .u8 q] 5)) := by
  subst ha hb
  exact conv_own (l := [a, b]) Tryz.underlying88 Tryz.underlying5 (World.ownsRow_lit (base := 0) (e := 5) (size := 1) W #[.int .u8 (a.toNat : Int), .int .u8 (b.toNat : Int)] 2 (by omega) (by decide) rfl) 9 Tryz.underlying9
set_option maxRecDepth 50000 in
theorem rbytes_any (n : Nat) (w : World) (h : n < 65536) : Calls Tryz.prog 91 #[.int .i64 (n : Int)] w fun e w' => e = .returned (.string (str [hiB n, loB n])) ∧ Below w.heap.size w w' := by
  obtain ⟨h1, h2⟩ := hi_conv h
  have HC := two_lit (hiB n) (loB n) _ _ w h1 h2
  go_enter Tryz.func91, Tryz.ntmps91
  go_wp2_with fail
  -- MARK1
  go_ret
  exact ⟨rfl, (Below.refl _ w).alloc (Nat.le_refl _) _⟩
theorem ext_at {l : List Nat} {k x : Nat} (h : l[k]? = some x) : (str (setL l)).extract (2 * k) (2 * k + 2) = str [hiB x, loB x] := by
  rw [ext_str, str_list, Nat.add_sub_cancel_left, setL_cut h]
theorem pair_lessS {x y : Nat} (hx : x < 65536) (hy : y < 65536) : Op.bytesLess (str [hiB x, loB x]).toList (str [hiB y, loB y]).toList = decide (x < y) := by
  rw [ByteArray.toList_eq, ByteArray.toList_eq, str_list, str_list]; exact pair_less hx hy
theorem pair_eqS {x y : Nat} (hx : x < 65536) (hy : y < 65536) : ((str [hiB x, loB x]).toList == (str [hiB y, loB y]).toList) = decide (x = y) := by
  rw [str_eqb, Bool.eq_iff_iff, decide_eq_true_iff, decide_eq_true_iff]; exact pair_inj hx hy
set_option maxRecDepth 100000 in
set_option maxHeartbeats 3200000 in
theorem rcheck_even (l : List Nat) (w : World) (hx : ∀ x ∈ l, x < 65536) (hL : l.length ≤ 1000000) :
    Calls Tryz.prog 78 #[.string (str (setL l))] w fun e w' => e = .returned (.int .i64 (chkE (setL l))) ∧ Below w.heap.size w w' := by
  obtain ⟨m, hm⟩ : ∃ m, l.length = m := ⟨_, rfl⟩
  have HV1 : Hid (¬ asc l → chkE (setL l) = 6) := Lib.hid (fun h => chkE_no (by rw [ids_set l hx]; exact h))
  have HV2 : Hid (asc l → chkE (setL l) = if 10000 < m then 3 else 0) := Lib.hid (fun h => by rw [chkE_set h hx, hm])
  have HE : Hid (∀ k x, l[k]? = some x → (str (setL l)).extract (2 * k) (2 * k + 2) = str [hiB x, loB x] ∧ x < 65536) := Lib.hid (fun k x h => ⟨ext_at h, hx x (List.mem_of_getElem? h)⟩)
  obtain ⟨S, hS⟩ : ∃ S, str (setL l) = S := ⟨_, rfl⟩
  have HS : Hid (S.size = 2 * m) := Lib.hid (by rw [← hS, str_size, setL_len, hm])
  have HM := Lib.hid hm
  have hmb : m ≤ 1000000 := by omega
  have e1 : ((S.size : Int) % 2 != 0) = false := by rw [HS.out]; simp
  rw [hS] at HE ⊢
  clear hS hm hx hL
  go_enter Tryz.func78, Tryz.ntmps78
  go_wp2
  go_loopw [3] (fun x3 wr => ∃ (k : Nat), x3 = .int .i64 ((2 * k + 2 : Nat) : Int) ∧ k ≤ m ∧ Hid (∀ (i a b : Nat), i < k → l[i]? = some a → l[i + 1]? = some b → a < b) ∧ Below w.heap.size w wr) (fun x3 _ => 2 * m + 3 - (intOf x3).toNat)
  case atStart => exact ⟨0, rfl, Nat.zero_le _, Lib.hid (fun i a b h => absurd h (Nat.not_lt_zero _)), Below.refl _ _⟩
  case round =>
    obtain ⟨k, rfl, hk, HG, hbel⟩ := hrel
    obtain ⟨r, hr⟩ : ∃ r, 2 * k + 2 = r := ⟨_, rfl⟩
    have HR := Lib.hid hr
    rw [hr]
    have hsz := HS.out
    have hrb : r ≤ 2000002 := by omega
    by_cases hlt : k + 1 < m
    · obtain ⟨x, hxk⟩ : ∃ x, l[k]? = some x := ⟨_, List.getElem?_eq_getElem (by rw [HM.out]; omega)⟩
      obtain ⟨y, hyk⟩ : ∃ x, l[k + 1]? = some x := ⟨_, List.getElem?_eq_getElem (by rw [HM.out]; exact hlt)⟩
      obtain ⟨q1, q2⟩ := HE.out k x hxk
      obtain ⟨q3, q4⟩ := HE.out (k + 1) y hyk
      obtain ⟨p, hp⟩ : ∃ p, 2 * k = p := ⟨_, rfl⟩
      rw [show 2 * (k + 1) = r by omega] at q3
      rw [hr, hp] at q1
      have hl := pair_lessS q2 q4
      obtain ⟨X, hX⟩ : ∃ X, str [hiB x, loB x] = X := ⟨_, rfl⟩
      obtain ⟨Y, hY⟩ : ∃ X, str [hiB y, loB y] = X := ⟨_, rfl⟩
      rw [hX] at q1 hl
      rw [hY] at q3 hl
      have hd : decide ((r : Int) < (S.size : Int)) = true := decide_eq_true (by omega)
      have w1 : IntKind.i64.wrap ((r : Int) - 2) = (p : Int) := by rw [IntKind.wrap_i64]; omega
      have w2 : IntKind.i64.wrap ((r : Int) + 2) = (r : Int) + 2 := by rw [IntKind.wrap_i64]; omega
      have b0 : (0 : Int) ≤ (p : Int) := Int.natCast_nonneg _
      have b1 : p ≤ r := by omega
      have b2 : r ≤ S.size := by omega
      have b3 : r + 2 ≤ S.size := by omega
      have b4 : (r : Int) + 2 ≤ (S.size : Int) := by omega
      have b5 : (0 : Int) ≤ (r : Int) := Int.natCast_nonneg _
      have HStep : Hid (x < y → ∀ (i a b : Nat), i < k + 1 → l[i]? = some a → l[i + 1]? = some b → a < b) := Lib.hid fun h i a b hi ha hb => by
        rcases Nat.lt_succ_iff_lt_or_eq.1 hi with hi | rfl
        · exact HG.out i a b hi ha hb
        · rw [hxk] at ha; rw [hyk] at hb; cases ha; cases hb; exact h
      have HBad : Hid (¬ x < y → ¬ asc l) := Lib.hid fun h ha => h ((asc_at l).1 ha k x y hxk hyk)
      clear hxk hyk hX hY q2 q4 hsz hp hr
      by_cases hxy : x < y
      · rw [decide_eq_true hxy] at hl
        have HG2 := Lib.hid (HStep.out hxy)
        clear HStep HBad hxy HG
        go_wp2
        go_quiet (fail)
        go_wp2
        -- MARK1
        exact ⟨⟨k + 1, by have := HR.out; go_num, by omega, HG2, ⟨hbel.os, hbel.tape, hbel.output, hbel.size, hbel.block⟩⟩, by have := HR.out; simp [intOf]; omega⟩
      · rw [decide_eq_false hxy] at hl
        have HV := Lib.hid (HV1.out (HBad.out hxy))
        clear HStep HBad hxy HG
        go_wp2
        go_quiet (fail)
        go_wp2
        go_ret
        exact ⟨by rw [HV.out]; rfl, ⟨hbel.os, hbel.tape, hbel.output, hbel.size, hbel.block⟩⟩
    · have hd : decide ((r : Int) < (S.size : Int)) = false := decide_eq_false (by omega)
      have hnl : ¬ r < S.size := by omega
      have HV := Lib.hid (HV2.out ((asc_at l).2 fun i a b ha hb => HG.out i a b (by
        have := (List.getElem?_eq_some_iff.1 hb).1; rw [HM.out] at this; omega) ha hb))
      clear HG hr
      by_cases hbig : 10000 < m
      · have hd2 : decide ((20000 : Int) < (S.size : Int)) = true := decide_eq_true (by omega)
        rw [if_pos hbig] at HV
        clear hsz
        go_wp2
        go_ret
        exact ⟨by rw [HV.out]; rfl, hbel⟩
      · have hd2 : decide ((20000 : Int) < (S.size : Int)) = false := decide_eq_false (by omega)
        rw [if_neg hbig] at HV
        clear hsz
        go_wp2
        go_ret
        exact ⟨by rw [HV.out]; rfl, hbel⟩
set_option maxRecDepth 50000 in
theorem rcheck_odd (L : List UInt8) (w : World) (h : L.length % 2 ≠ 0) : Calls Tryz.prog 78 #[.string (str L)] w fun e w' => e = .returned (.int .i64 (chkE L)) ∧ Below w.heap.size w w' := by
  have HV := Lib.hid (chkE_odd h)
  obtain ⟨S, hS⟩ : ∃ S, str L = S := ⟨_, rfl⟩
  have e1 : ((S.size : Int) % 2 != 0) = true := by
    rw [bne_iff_ne, ← hS, str_size]; omega
  rw [hS]
  clear hS h
  go_enter Tryz.func78, Tryz.ntmps78
  go_wp2
  go_ret
  exact ⟨by rw [HV.out]; rfl, Below.refl _ _⟩
theorem rcheck9_any (L : List UInt8) (w : World) (hL : L.length ≤ 1000000) : Calls Tryz.prog 78 #[.string (str L)] w fun e w' => e = .returned (.int .i64 (chkE L)) ∧ Below w.heap.size w w' := by
  by_cases h : L.length % 2 = 0
  · have := rcheck_even (idsL L) w (ids_lt L) (by rw [ids_len]; omega)
    rw [set_ids L h] at this; exact this
  · exact rcheck_odd L w h
set_option maxRecDepth 100000 in
set_option maxHeartbeats 3200000 in
theorem rhas_any (l : List Nat) (n : Nat) (w : World) (hx : ∀ x ∈ l, x < 65536) (hL : l.length ≤ 1000000) (hn : n < 65536) :
    Calls Tryz.prog 88 #[.string (str (setL l)), .int .i64 (n : Int)] w fun e w' => e = .returned (.bool (decide (n ∈ l))) ∧ Below w.heap.size w w' := by
  obtain ⟨m, hm⟩ : ∃ m, l.length = m := ⟨_, rfl⟩
  have CB := Lib.hid (rbytes_any n w hn)
  obtain ⟨Y, hY⟩ : ∃ X, str [hiB n, loB n] = X := ⟨_, rfl⟩
  have HE : Hid (∀ k x, l[k]? = some x → ∃ X, (str (setL l)).extract (2 * k) (2 * k + 2) = X ∧ (X.toList == Y.toList) = decide (x = n)) := Lib.hid (fun k x h => ⟨_, ext_at h, by rw [← hY]; exact pair_eqS (hx x (List.mem_of_getElem? h)) hn⟩)
  obtain ⟨S, hS⟩ : ∃ S, str (setL l) = S := ⟨_, rfl⟩
  have HS : Hid (S.size = 2 * m) := Lib.hid (by rw [← hS, str_size, setL_len, hm])
  have HM := Lib.hid hm
  have hmb : m ≤ 1000000 := by omega
  rw [hY] at CB
  rw [hS] at HE ⊢
  clear hS hm hx hL hY
  go_enter Tryz.func88, Tryz.ntmps88
  go_wp2_with fail
  refine CB.out.mono ?_
  rintro e w1 ⟨rfl, hb1⟩
  go_wp2_with fail
  go_loopw [6] (fun x6 wr => ∃ (k : Nat), x6 = .int .i64 ((2 * k : Nat) : Int) ∧ k ≤ m ∧ Hid (n ∉ l.take k) ∧ Below w.heap.size w wr) (fun x6 _ => 2 * m + 1 - (intOf x6).toNat)
  case atStart => exact ⟨0, rfl, Nat.zero_le _, Lib.hid (by simp), hb1⟩
  case round =>
    obtain ⟨k, rfl, hk, HG, hbel⟩ := hrel
    obtain ⟨r, hr⟩ : ∃ r, 2 * k = r := ⟨_, rfl⟩
    have HR := Lib.hid hr
    rw [hr]
    have hsz := HS.out
    have hrb : r ≤ 2000002 := by omega
    by_cases hlt : k < m
    · obtain ⟨x, hxk⟩ : ∃ x, l[k]? = some x := ⟨_, List.getElem?_eq_getElem (by rw [HM.out]; omega)⟩
      obtain ⟨X, q1, hl⟩ := HE.out k x hxk
      rw [hr] at q1
      have hd : decide ((r : Int) < (S.size : Int)) = true := decide_eq_true (by omega)
      have w2 : IntKind.i64.wrap ((r : Int) + 2) = (r : Int) + 2 := by rw [IntKind.wrap_i64]; omega
      have b2 : r ≤ S.size := by omega
      have b3 : r + 2 ≤ S.size := by omega
      have b4 : (r : Int) + 2 ≤ (S.size : Int) := by omega
      have b5 : (0 : Int) ≤ (r : Int) := Int.natCast_nonneg _
      by_cases hxn : x = n
      · rw [decide_eq_true hxn] at hl
        have HV : Hid (decide (n ∈ l) = true) := Lib.hid (decide_eq_true (by rw [← hxn]; exact List.mem_of_getElem? hxk))
        clear hxn hxk HG hr hsz
        go_wp2
        go_ret
        exact ⟨by rw [HV.out]; rfl, hbel⟩
      · rw [decide_eq_false hxn] at hl
        have HG2 : Hid (n ∉ l.take (k + 1)) := Lib.hid (by
          rw [← take_snocN hxk]
          intro h
          rcases List.mem_append.1 h with h | h
          · exact HG.out h
          · exact hxn (List.mem_singleton.1 h).symm)
        clear hxn hxk HG hr hsz
        go_wp2
        exact ⟨⟨k + 1, by have := HR.out; go_num, by omega, HG2, hbel⟩, by have := HR.out; simp [intOf]; omega⟩
    · have hd : decide ((r : Int) < (S.size : Int)) = false := decide_eq_false (by omega)
      have hnl : ¬ r < S.size := by omega
      have HV : Hid (decide (n ∈ l) = false) := Lib.hid (decide_eq_false (by have := HG.out; rw [List.take_of_length_le (by rw [HM.out]; omega)] at this; exact this))
      clear HG hr hsz
      go_wp2
      go_ret
      exact ⟨by rw [HV.out]; rfl, hbel⟩
-- MARK8
end Go.Proofs.YtbmgpenllpbioaaGreatDoor

/- The reference of layer 9: with, without. -/
namespace Go.Proofs.YtbmgpenllpbioaaGreatDoor
open Go.RowKit Go.PlainAid

theorem setL_put (l : List Nat) (k n : Nat) : (str (setL l)).extract 0 (2 * k) ++ str [hiB n, loB n] ++ (str (setL l)).extract (2 * k) (str (setL l)).size = str (setL (l.take k ++ n :: l.drop k)) := by
  rw [ext_str, ext_str, str_cat, str_cat, str_list, str_size]
  congr 1
  rw [setL_app, setL, List.drop_zero, Nat.sub_zero, setL_take, setL_drop, List.append_assoc]
  congr 1
  rw [List.take_of_length_le (by simp only [setL_len, List.length_drop]; omega)]; rfl
theorem setL_out (l : List Nat) (k : Nat) : (str (setL l)).extract 0 (2 * k) ++ (str (setL l)).extract (2 * k + 2) (str (setL l)).size = str (setL (l.take k ++ l.drop (k + 1))) := by
  rw [ext_str, ext_str, str_cat, str_list, str_size]
  congr 1
  rw [setL_app, List.drop_zero, Nat.sub_zero, setL_take, show 2 * k + 2 = 2 * (k + 1) by omega, setL_drop]
  congr 1
  rw [List.take_of_length_le (by simp only [setL_len, List.length_drop]; omega)]
set_option maxRecDepth 100000 in
set_option maxHeartbeats 3200000 in
theorem rwithout_any (l : List Nat) (n : Nat) (w : World) (ha : asc l) (hx : ∀ x ∈ l, x < 65536) (hL : l.length ≤ 1000000) (hn : n < 65536) :
    Calls Tryz.prog 89 #[.string (str (setL l)), .int .i64 (n : Int)] w fun e w' => e = .returned (.string (str (setL (mg true false false l [n])))) ∧ Below w.heap.size w w' := by
  obtain ⟨m, hm⟩ : ∃ m, l.length = m := ⟨_, rfl⟩
  have CB := Lib.hid (rbytes_any n w hn)
  obtain ⟨Y, hY⟩ : ∃ X, str [hiB n, loB n] = X := ⟨_, rfl⟩
  obtain ⟨R, hR⟩ : ∃ X, str (setL (mg true false false l [n])) = X := ⟨_, rfl⟩
  have HE : Hid (∀ k x, l[k]? = some x → ∃ X, (str (setL l)).extract (2 * k) (2 * k + 2) = X ∧ (X.toList == Y.toList) = decide (x = n)) := Lib.hid (fun k x h => ⟨_, ext_at h, by rw [← hY]; exact pair_eqS (hx x (List.mem_of_getElem? h)) hn⟩)
  have HF : Hid (∀ k, l[k]? = some n → (str (setL l)).extract 0 (2 * k) ++ (str (setL l)).extract (2 * k + 2) (str (setL l)).size = R) := Lib.hid fun k hk => by rw [setL_out, cut_out ha hk, hR]
  have HN : Hid (n ∉ l → str (setL l) = R) := Lib.hid fun h => by rw [← hR, ← cut_not ha h]
  obtain ⟨S, hS⟩ : ∃ S, str (setL l) = S := ⟨_, rfl⟩
  have HS : Hid (S.size = 2 * m) := Lib.hid (by rw [← hS, str_size, setL_len, hm])
  have HM := Lib.hid hm
  have hmb : m ≤ 1000000 := by omega
  rw [hY] at CB
  rw [hR]
  rw [hS] at HE HF HN ⊢
  clear hS hm hx hL hY hR ha
  go_enter Tryz.func89, Tryz.ntmps89
  go_wp2_with fail
  refine CB.out.mono ?_
  rintro e w1 ⟨rfl, hb1⟩
  go_wp2_with fail
  go_loopw [6] (fun x6 wr => ∃ (k : Nat), x6 = .int .i64 ((2 * k : Nat) : Int) ∧ k ≤ m ∧ Hid (n ∉ l.take k) ∧ Below w.heap.size w wr) (fun x6 _ => 2 * m + 1 - (intOf x6).toNat)
  case atStart => exact ⟨0, rfl, Nat.zero_le _, Lib.hid (by simp), hb1⟩
  case round =>
    obtain ⟨k, rfl, hk, HG, hbel⟩ := hrel
    obtain ⟨r, hr⟩ : ∃ r, 2 * k = r := ⟨_, rfl⟩
    have HR := Lib.hid hr
    rw [hr]
    have hsz := HS.out
    have hrb : r ≤ 2000002 := by omega
    by_cases hlt : k < m
    · obtain ⟨x, hxk⟩ : ∃ x, l[k]? = some x := ⟨_, List.getElem?_eq_getElem (by rw [HM.out]; omega)⟩
      obtain ⟨X, q1, hl⟩ := HE.out k x hxk
      rw [hr] at q1
      have hd : decide ((r : Int) < (S.size : Int)) = true := decide_eq_true (by omega)
      have w2 : IntKind.i64.wrap ((r : Int) + 2) = (r : Int) + 2 := by rw [IntKind.wrap_i64]; omega
      have b2 : r ≤ S.size := by omega
      have b3 : r + 2 ≤ S.size := by omega
      have b4 : (r : Int) + 2 ≤ (S.size : Int) := by omega
      have b5 : (0 : Int) ≤ (r : Int) := Int.natCast_nonneg _
      have b6 : (0 : Int) ≤ (r : Int) + 2 := by omega
      have b7 : (r : Int) ≤ (S.size : Int) := by omega
      by_cases hxn : x = n
      · rw [decide_eq_true hxn] at hl
        have hf := HF.out k (by rw [hxk, hxn])
        rw [hr] at hf
        obtain ⟨P, hP⟩ : ∃ P, S.extract 0 r = P := ⟨_, rfl⟩
        obtain ⟨Q, hQ⟩ : ∃ Q, S.extract (r + 2) S.size = Q := ⟨_, rfl⟩
        have hp1 : P.size ≤ S.size := by rw [← hP, ByteArray.size_extract]; omega
        have hq1 : Q.size ≤ S.size := by rw [← hQ, ByteArray.size_extract]; omega
        rw [hP, hQ] at hf
        have ho : ∀ W, (Op.stringOp .add P Q).run Tryz.prog W = .ok (.string R) W := fun W => by rw [run_string_add_sum W P Q (by omega), hf]
        clear hxn hxk HG hr hsz HF HN hf hp1 hq1
        -- MARK1
        go_wp2
        -- MARK2
        go_quiet (fail)
        go_wp2
        go_ret
        exact ⟨rfl, ⟨hbel.os, hbel.tape, hbel.output, hbel.size, hbel.block⟩⟩
      · rw [decide_eq_false hxn] at hl
        have HG2 : Hid (n ∉ l.take (k + 1)) := Lib.hid (by
          rw [← take_snocN hxk]
          intro h
          rcases List.mem_append.1 h with h | h
          · exact HG.out h
          · exact hxn (List.mem_singleton.1 h).symm)
        clear hxn hxk HG hr hsz HF HN
        go_wp2
        exact ⟨⟨k + 1, by have := HR.out; go_num, by omega, HG2, hbel⟩, by have := HR.out; simp [intOf]; omega⟩
    · have hd : decide ((r : Int) < (S.size : Int)) = false := decide_eq_false (by omega)
      have hnl : ¬ r < S.size := by omega
      have HV := Lib.hid (HN.out (by have := HG.out; rw [List.take_of_length_le (by rw [HM.out]; omega)] at this; exact this))
      clear HG hr hsz HF HN
      go_wp2
      go_ret
      exact ⟨by rw [HV.out]; rfl, hbel⟩
set_option maxRecDepth 100000 in
set_option maxHeartbeats 3200000 in
theorem rwith_any (l : List Nat) (n : Nat) (w : World) (ha : asc l) (hx : ∀ x ∈ l, x < 65536) (hL : l.length ≤ 1000000) (hn : n < 65536) :
    Calls Tryz.prog 73 #[.string (str (setL l)), .int .i64 (n : Int)] w fun e w' => e = .returned (.string (str (setL (mg true true true l [n])))) ∧ Below w.heap.size w w' := by
  obtain ⟨m, hm⟩ : ∃ m, l.length = m := ⟨_, rfl⟩
  have CH := Lib.hid (rhas_any l n w hx hL hn)
  have CB := Lib.hid (fun W => rbytes_any n W hn)
  obtain ⟨Y, hY⟩ : ∃ X, str [hiB n, loB n] = X := ⟨_, rfl⟩
  obtain ⟨R, hR⟩ : ∃ X, str (setL (mg true true true l [n])) = X := ⟨_, rfl⟩
  have HE : Hid (∀ k x, l[k]? = some x → ∃ X, (str (setL l)).extract (2 * k) (2 * k + 2) = X ∧ Op.bytesLess X.toList Y.toList = decide (x < n)) := Lib.hid (fun k x h => ⟨_, ext_at h, by rw [← hY]; exact pair_lessS (hx x (List.mem_of_getElem? h)) hn⟩)
  have HF : Hid (∀ k, n ∉ l → (∀ j a, j < k → l[j]? = some a → a < n) → (∀ a, l[k]? = some a → n < a) → (str (setL l)).extract 0 (2 * k) ++ Y ++ (str (setL l)).extract (2 * k) (str (setL l)).size = R) := Lib.hid fun k h1 h2 h3 => by rw [← hY, setL_put, put_in ha h1 h2 h3, hR]
  have HN : Hid (n ∈ l → str (setL l) = R) := Lib.hid fun h => by rw [← hR, ← put_have ha h]
  obtain ⟨S, hS⟩ : ∃ S, str (setL l) = S := ⟨_, rfl⟩
  have HS : Hid (S.size = 2 * m) := Lib.hid (by rw [← hS, str_size, setL_len, hm])
  have HM := Lib.hid hm
  have hmb : m ≤ 1000000 := by omega
  have HYz : Y.size = 2 := by rw [← hY, str_size]; rfl
  rw [hY] at CB
  rw [hR]
  rw [hS] at HE HF HN CH ⊢
  clear hS hm hx hL hY hR ha
  by_cases hin : n ∈ l
  · rw [decide_eq_true hin] at CH
    have HV := Lib.hid (HN.out hin)
    clear HN HF HE CB hin
    go_enter Tryz.func73, Tryz.ntmps73
    go_wp2_with fail
    refine CH.out.mono ?_
    rintro e w1 ⟨rfl, hb1⟩
    go_wp2_with fail
    go_ret
    exact ⟨by rw [HV.out]; rfl, hb1⟩
  · rw [decide_eq_false hin] at CH
    have HI := Lib.hid hin
    clear HN hin
    go_enter Tryz.func73, Tryz.ntmps73
    go_wp2_with fail
    refine CH.out.mono ?_
    rintro e w1 ⟨rfl, hb1⟩
    go_wp2_with fail
    refine (CB.out _).mono ?_
    rintro e w2 ⟨rfl, hb2⟩
    go_wp2_with fail
    have hb := below_step hb1 hb2
    go_loopw [6] (fun x6 wr => ∃ (k : Nat), x6 = .int .i64 ((2 * k : Nat) : Int) ∧ k ≤ m ∧ Hid (∀ j a, j < k → l[j]? = some a → a < n) ∧ Below w.heap.size w wr) (fun x6 _ => 2 * m + 1 - (intOf x6).toNat)
    case atStart => exact ⟨0, rfl, Nat.zero_le _, Lib.hid (fun _ _ h => absurd h (Nat.not_lt_zero _)), hb⟩
    case round =>
      obtain ⟨k, rfl, hk, HG, hbel⟩ := hrel
      obtain ⟨r, hr⟩ : ∃ r, 2 * k = r := ⟨_, rfl⟩
      have HR := Lib.hid hr
      rw [hr]
      have hsz := HS.out
      have hrb : r ≤ 2000002 := by omega
      have b2 : r ≤ S.size := by omega
      have b5 : (0 : Int) ≤ (r : Int) := Int.natCast_nonneg _
      have b7 : (r : Int) ≤ (S.size : Int) := by omega
      by_cases hlt : k < m
      · obtain ⟨x, hxk⟩ : ∃ x, l[k]? = some x := ⟨_, List.getElem?_eq_getElem (by rw [HM.out]; omega)⟩
        obtain ⟨X, q1, hl⟩ := HE.out k x hxk
        rw [hr] at q1
        have hd : decide ((r : Int) < (S.size : Int)) = true := decide_eq_true (by omega)
        have w2 : IntKind.i64.wrap ((r : Int) + 2) = (r : Int) + 2 := by rw [IntKind.wrap_i64]; omega
        have b3 : r + 2 ≤ S.size := by omega
        have hlb : r < S.size := by omega
        have b4 : (r : Int) + 2 ≤ (S.size : Int) := by omega
        have b6 : (0 : Int) ≤ (r : Int) + 2 := by omega
        by_cases hxn : x < n
        · rw [decide_eq_true hxn] at hl
          have HG2 : Hid (∀ j a, j < k + 1 → l[j]? = some a → a < n) := Lib.hid (fun j a hj h => by
            rcases Nat.lt_succ_iff_lt_or_eq.1 hj with hj | rfl
            · exact HG.out j a hj h
            · rw [hxk] at h; cases h; exact hxn)
          clear hxn hxk HG hr hsz HF
          go_wp2
          exact ⟨⟨k + 1, by have := HR.out; go_num, by omega, HG2, hbel⟩, by have := HR.out; simp [intOf]; omega⟩
        · rw [decide_eq_false hxn] at hl
          have hf := HF.out k HI.out HG.out (fun a h => by
            rw [hxk] at h; cases h
            have : x ≠ n := fun e => HI.out (e ▸ List.mem_of_getElem? hxk)
            omega)
          rw [hr] at hf
          obtain ⟨P, hP⟩ : ∃ P, S.extract 0 r = P := ⟨_, rfl⟩
          obtain ⟨Q, hQ⟩ : ∃ Q, S.extract r S.size = Q := ⟨_, rfl⟩
          have hp1 : P.size ≤ S.size := by rw [← hP, ByteArray.size_extract]; omega
          have hq1 : Q.size ≤ S.size := by rw [← hQ, ByteArray.size_extract]; omega
          rw [hP, hQ] at hf
          obtain ⟨PY, hPY⟩ : ∃ Q, P ++ Y = Q := ⟨_, rfl⟩
          have hpy : PY.size ≤ S.size + 2 := by rw [← hPY, ByteArray.size_append, HYz]; omega
          rw [hPY] at hf
          have ho : ∀ W, (Op.stringOp .add P Y).run Tryz.prog W = .ok (.string PY) W := fun W => by rw [run_string_add_sum W P Y (by omega), hPY]
          have ho2 : ∀ W, (Op.stringOp .add PY Q).run Tryz.prog W = .ok (.string R) W := fun W => by rw [run_string_add_sum W PY Q (by omega), hf]
          clear hxn hxk HG hr hsz HF hf hp1 hq1 hpy hPY
          go_wp2
          -- MARK3
          go_quiet (fail)
          go_wp2
          go_ret
          exact ⟨rfl, ⟨hbel.os, hbel.tape, hbel.output, hbel.size, hbel.block⟩⟩
      · have hd : decide ((r : Int) < (S.size : Int)) = false := decide_eq_false (by omega)
        have hnl : ¬ r < S.size := by omega
        have hf := HF.out k HI.out HG.out (fun a h => by
          have := (List.getElem?_eq_some_iff.1 h).1; rw [HM.out] at this; omega)
        rw [hr] at hf
        obtain ⟨P, hP⟩ : ∃ P, S.extract 0 r = P := ⟨_, rfl⟩
        obtain ⟨Q, hQ⟩ : ∃ Q, S.extract r S.size = Q := ⟨_, rfl⟩
        have hp1 : P.size ≤ S.size := by rw [← hP, ByteArray.size_extract]; omega
        have hq1 : Q.size ≤ S.size := by rw [← hQ, ByteArray.size_extract]; omega
        rw [hP, hQ] at hf
        obtain ⟨PY, hPY⟩ : ∃ Q, P ++ Y = Q := ⟨_, rfl⟩
        have hpy : PY.size ≤ S.size + 2 := by rw [← hPY, ByteArray.size_append, HYz]; omega
        rw [hPY] at hf
        have ho : ∀ W, (Op.stringOp .add P Y).run Tryz.prog W = .ok (.string PY) W := fun W => by rw [run_string_add_sum W P Y (by omega), hPY]
        have ho2 : ∀ W, (Op.stringOp .add PY Q).run Tryz.prog W = .ok (.string R) W := fun W => by rw [run_string_add_sum W PY Q (by omega), hf]
        clear HG hr hsz HF hf hp1 hq1 hpy hPY
        go_wp2
        go_quiet (fail)
        go_wp2
        go_ret
        exact ⟨rfl, ⟨hbel.os, hbel.tape, hbel.output, hbel.size, hbel.block⟩⟩
-- MARK9
end Go.Proofs.YtbmgpenllpbioaaGreatDoor

/- The reference of layer 9: one, two, ids, Ids, Has, Add, Drop, Flip. -/
namespace Go.Proofs.YtbmgpenllpbioaaGreatDoor
open Go.RowKit Go.PlainAid

set_option maxRecDepth 50000 in
theorem rone_any (A : List UInt8) (n : Int) (w : World) (hA : A.length ≤ 1000000) :
    Calls Tryz.prog 71 #[.string (str A), .int .i64 n] w fun e w' => e = .returned (.int .i64 (oneE A n)) ∧ Below w.heap.size w w' := by
  have C := Lib.hid (rcheck9_any A w hA)
  have CS := Lib.hid (fun W => rscope_any n W)
  by_cases hc : chkE A = 0
  · have HV : Hid (oneE A n = if 0 ≤ n ∧ n ≤ 65535 then 0 else 7) := Lib.hid (by unfold oneE; rw [if_neg (by simpa using hc)]; split <;> split <;> first | rfl | omega)
    rw [hc] at C
    obtain ⟨T, hT⟩ : ∃ T, str A = T := ⟨_, rfl⟩
    rw [hT] at C ⊢
    clear hT hc
    by_cases h : 0 ≤ n ∧ n ≤ 65535
    · rw [decide_eq_true h] at CS
      rw [if_pos h] at HV
      clear h
      go_enter Tryz.func71, Tryz.ntmps71
      go_wp2_with fail
      refine C.out.mono ?_
      rintro e w1 ⟨rfl, hb1⟩
      go_wp2_with fail
      refine (CS.out _).mono ?_
      rintro e w2 ⟨rfl, rfl⟩
      go_wp2_with fail
      go_ret
      exact ⟨by rw [HV.out]; rfl, hb1⟩
    · rw [decide_eq_false h] at CS
      rw [if_neg h] at HV
      clear h
      go_enter Tryz.func71, Tryz.ntmps71
      go_wp2_with fail
      refine C.out.mono ?_
      rintro e w1 ⟨rfl, hb1⟩
      go_wp2_with fail
      refine (CS.out _).mono ?_
      rintro e w2 ⟨rfl, rfl⟩
      go_wp2_with fail
      go_ret
      exact ⟨by rw [HV.out]; rfl, hb1⟩
  · have HV : Hid (oneE A n = chkE A) := Lib.hid (oneE_no1 hc)
    obtain ⟨e0, he0⟩ : ∃ e, chkE A = e := ⟨_, rfl⟩
    rw [he0] at hc C HV
    have hne : (e0 == 0) = false := beq_eq_false_iff_ne.2 hc
    obtain ⟨T, hT⟩ : ∃ T, str A = T := ⟨_, rfl⟩
    rw [hT] at C ⊢
    clear hT hc he0
    go_enter Tryz.func71, Tryz.ntmps71
    go_wp2_with fail
    refine C.out.mono ?_
    rintro e w1 ⟨rfl, hb1⟩
    go_wp2_with fail
    go_ret
    exact ⟨by rw [HV.out]; rfl, hb1⟩
set_option maxRecDepth 100000 in
set_option maxHeartbeats 3200000 in
theorem rids_any (l : List Nat) (w : World) (hx : ∀ x ∈ l, x < 65536) (hL : l.length ≤ 100000) :
    Calls Tryz.prog 120 #[.string (str (setL l))] w fun e w' => ∃ v, e = .returned v ∧ w'.ownsRow w.heap.size 3 1 v l.length (natC l) ∧ Below w.heap.size w w' := by
  obtain ⟨m, hm⟩ : ∃ m, l.length = m := ⟨_, rfl⟩
  obtain ⟨S, hS⟩ : ∃ S, str (setL l) = S := ⟨_, rfl⟩
  have HSz : Hid (S.size = 2 * m) := Lib.hid (by rw [← hS, str_size, setL_len, hm])
  have HB : Hid (∀ k x, l[k]? = some x → ∃ (p n1 n2 : Nat) (h1 : p < S.size) (h2 : p + 1 < S.size), Hid (p = 2 * k) ∧ ((S[p]'h1).toNat : Int) = (n1 : Int) ∧ ((S[p + 1]'h2).toNat : Int) = (n2 : Int) ∧ Hid (n1 = x / 256 ∧ n2 = x % 256 ∧ x < 65536)) := Lib.hid fun k x h => by
    obtain ⟨a, b⟩ := set_at h
    obtain ⟨h1, e1⟩ := str_get a
    obtain ⟨h2, e2⟩ := str_get b
    have h64 := hx x (List.mem_of_getElem? h)
    subst hS
    exact ⟨2 * k, (hiB x).toNat, (loB x).toNat, h1, h2, Lib.hid rfl, by rw [e1], by rw [e2], Lib.hid ⟨hi_nat h64, lo_nat x, h64⟩⟩
  have HM := Lib.hid hm
  have hmb : m ≤ 100000 := by omega
  rw [hS, hm]
  clear hS hx hm hL
  obtain ⟨i0, hi, hj0, hj1, hj2⟩ := info_parts2 infoInt
  go_enter Tryz.func120, Tryz.ntmps120
  go_wp2
  go_loopw [3, 4] (fun x3 x4 wr => ∃ (k : Nat), x4 = .int .i64 ((2 * k : Nat) : Int) ∧ k ≤ m ∧ wr.ownsRow w.heap.size 3 1 x3 k (natC (l.take k)) ∧ Below w.heap.size w wr) (fun _ x4 _ => 2 * m + 1 - (intOf x4).toNat)
  case atStart => exact ⟨0, rfl, Nat.zero_le _, ⟨rfl, .inl ⟨rfl, rfl⟩⟩, Below.refl _ _⟩
  case round =>
    obtain ⟨k, rfl, hk, hown, hbel⟩ := hrel
    obtain ⟨va, vc, rfl⟩ := own_len hown
    have HO := Lib.hid hown
    have HBl := Lib.hid hbel
    clear hown hbel
    by_cases hlt : k < m
    · obtain ⟨x, hxk⟩ : ∃ x, l[k]? = some x := ⟨_, List.getElem?_eq_getElem (by rw [HM.out]; exact hlt)⟩
      obtain ⟨p, n1, n2, q1, q2, HP, b1, b2, HN⟩ := HB.out k x hxk
      have HT : Hid (natC (l.take (k + 1)) = natC (l.take k) ++ [.int .i64 (x : Int)]) := Lib.hid (by rw [← take_snocN hxk]; unfold natC; rw [List.map_append]; rfl)
      have hpm : p + 1 < 2000001 := by have := HSz.out; omega
      rw [← HP.out]
      have hd : decide ((p : Int) < (S.size : Int)) = true := decide_eq_true (by omega)
      have i1 : (0 : Int) ≤ (p : Int) := Int.natCast_nonneg _
      have i2 : (p : Int) < (S.size : Int) := by omega
      have i3 : IntKind.i64.wrap ((p : Int) + 1) = (p : Int) + 1 := by rw [IntKind.wrap_i64]; omega
      have i4 : (0 : Int) ≤ (p : Int) + 1 := by omega
      have i5 : (p : Int) + 1 < (S.size : Int) := by omega
      have htr : True := trivial
      obtain ⟨w1, w2, w3, w4⟩ := two_num HN.out
      have w5 : IntKind.i64.wrap (256 * (n1 : Int)) = 256 * (n1 : Int) := by rw [Int.mul_comm]; exact w2
      have w6 : IntKind.i64.wrap (256 * (n1 : Int) + (n2 : Int)) = (x : Int) := by
        obtain ⟨a, b, c⟩ := HN.out
        rw [IntKind.wrap_i64]; omega
      clear w2 w4
      have hbs := HBl.out.size
      have hownD : Hid (wr.drew.ownsRow w.heap.size 3 1 (.slice va k vc) k (natC (l.take k))) := Lib.hid HO.out.drew
      have hBD : Hid (Below w.heap.size w wr.drew) := Lib.hid HBl.out.drew
      clear hxk
      go_wp2
      -- MARK1
      go_region_held3 (fun w' => w'.heap.size = w'.heap.size) (go_keep) (first
        | (refine step_append_own rfl _ _ 33 rfl w.heap.size 3 i0 (.int .i64 0) 1 8 Tryz.underlying33 hi hj0 hj1 hj2 rfl (by decide) _ _ _ rfl (hownD.out.alloc _) ⟨wr.drew.heap.size, 0, none⟩ 1 1 [.int .i64 (x : Int)] rfl rfl (new_cells wr.drew [.int .i64 (x : Int)] _) (by simp [Value.oneCell']) (by unfold maxLen; omega) (by omega) (by simp; omega) ?_; intro v' w3 hown3 hgrow3 _))
      -- MARK2
      all_goals go_wp2
      all_goals (
        have hpe := HP.out
        have hsz3 := HSz.out
        refine ⟨⟨k + 1, by go_num, by omega, by rw [HT.out]; exact hown3, ?_⟩, by simp [intOf]; omega⟩
        exact ((hBD.out).alloc (by exact hbs) _).grown hgrow3 (by rw [World.size_alloc]; exact Nat.le_succ_of_le hbs) (fun k hk => (hownD.out.lt k hk).1))
    · obtain rfl : k = m := by omega
      have hd : decide (((2 * k : Nat) : Int) < (S.size : Int)) = false := decide_eq_false (by have := HSz.out; omega)
      have HE : Hid (l.take k = l) := Lib.hid (List.take_of_length_le (by rw [HM.out]; exact Nat.le_refl _))
      obtain ⟨p, hp⟩ : ∃ p, 2 * k = p := ⟨_, rfl⟩
      have hnl : ¬ p < S.size := by have := HSz.out; omega
      have hpb : p ≤ 200000 := by omega
      rw [hp] at hd ⊢
      go_wp2
      -- MARK3
      go_ret
      exact ⟨_, rfl, by have := HO.out; rw [HE.out] at this; exact this, HBl.out⟩
-- MARK9
end Go.Proofs.YtbmgpenllpbioaaGreatDoor

/- The reference of layer 9: Ids, Has, Add, Drop, Flip. -/
namespace Go.Proofs.YtbmgpenllpbioaaGreatDoor
open Go.RowKit Go.PlainAid

theorem flip_in {l : List Nat} {k : Nat} (hl : asc l) (h : k ∈ l) : mg true false true l [k] = mg true false false l [k] :=
  asc_ext (asc_mg' hl (asc_one k)) (asc_mg' hl (asc_one k)) fun z => by
    rw [mem_mg' hl (asc_one k), mem_mg' hl (asc_one k), List.mem_singleton]
    constructor
    · rintro (⟨a, b, c⟩ | ⟨a, b, c⟩ | ⟨a, b, c⟩)
      · exact .inl ⟨a, b, rfl⟩
      · cases c
      · subst b; exact absurd h a
    · rintro (⟨a, b, c⟩ | ⟨a, b, c⟩ | ⟨a, b, c⟩)
      · exact .inl ⟨a, b, rfl⟩
      · cases c
      · cases c
theorem flip_out {l : List Nat} {k : Nat} (hl : asc l) (h : k ∉ l) : mg true false true l [k] = mg true true true l [k] :=
  asc_ext (asc_mg' hl (asc_one k)) (asc_mg' hl (asc_one k)) fun z => by
    rw [mem_mg' hl (asc_one k), mem_mg' hl (asc_one k), List.mem_singleton]
    constructor
    · rintro (⟨a, b, c⟩ | ⟨a, b, c⟩ | ⟨a, b, c⟩)
      · exact .inl ⟨a, b, rfl⟩
      · cases c
      · exact .inr (.inr ⟨a, b, rfl⟩)
    · rintro (⟨a, b, c⟩ | ⟨a, b, c⟩ | ⟨a, b, c⟩)
      · exact .inl ⟨a, b, rfl⟩
      · subst b; exact absurd a h
      · exact .inr (.inr ⟨a, b, rfl⟩)
theorem strE_l (S : List UInt8) (e : Int) : strE (S, e) = .tuple #[.string (str S), .int .i64 e] := rfl
set_option maxRecDepth 50000 in
theorem rIds_any (L : List UInt8) (w : World) (hL : L.length ≤ 100000) : Calls Tryz.prog 104 #[.string (str L)] w (IdsV L w) := by
  have C := Lib.hid (rcheck9_any L w (by omega))
  by_cases hc : chkE L = 0
  · obtain ⟨l, rfl, h⟩ := set_of hc
    have CI := Lib.hid (fun W => rids_any l W h.lt (by have := h.few; omega))
    have HV : Hid (idsS (setL l) = (l, 0)) := Lib.hid (by unfold idsS; rw [if_neg (by rw [h.chk]; simp), h.ids])
    rw [hc] at C
    obtain ⟨S, hS⟩ : ∃ S, str (setL l) = S := ⟨_, rfl⟩
    rw [hS] at C CI ⊢
    clear hS h hc hL
    go_enter Tryz.func104, Tryz.ntmps104
    go_wp2_with fail
    refine C.out.mono ?_
    rintro e w1 ⟨rfl, hb1⟩
    go_wp2_with fail
    refine (CI.out _).mono ?_
    rintro e w2 ⟨v, rfl, hown, hb2⟩
    go_wp2_with fail
    go_ret2
    exact ⟨v, by rw [HV.out]; rfl, by rw [HV.out]; exact own_mono hown hb1.size, below_step hb1 hb2⟩
  · have HV : Hid (idsS L = ([], chkE L)) := Lib.hid (by unfold idsS; rw [if_pos hc])
    obtain ⟨e0, he0⟩ : ∃ e, chkE L = e := ⟨_, rfl⟩
    rw [he0] at hc C HV
    have hne : (e0 != 0) = true := bne_iff_ne.2 hc
    obtain ⟨S, hS⟩ : ∃ S, str L = S := ⟨_, rfl⟩
    rw [hS] at C ⊢
    clear hS hc he0 hL
    go_enter Tryz.func104, Tryz.ntmps104
    go_wp2_with fail
    refine C.out.mono ?_
    rintro e w1 ⟨rfl, hb1⟩
    go_wp2_with fail
    go_ret2
    exact ⟨.slice none 0 0, by rw [HV.out]; rfl, by rw [HV.out]; exact ⟨rfl, .inl ⟨rfl, rfl⟩⟩, hb1⟩
set_option maxRecDepth 50000 in
theorem rHas_any (A : List UInt8) (n : Int) (w : World) (hA : A.length ≤ 100000) :
    Calls Tryz.prog 69 #[.string (str A), .int .i64 n] w fun e w' => e = .returned (.tuple #[.bool (hasS A n).1, .int .i64 (hasS A n).2]) ∧ Below w.heap.size w w' := by
  have C := Lib.hid (rone_any A n w (by omega))
  by_cases hc : oneE A n = 0
  · obtain ⟨l, rfl, hl⟩ := set_of (oneE_ok hc).1
    obtain ⟨k, rfl⟩ : ∃ k : Nat, n = k := ⟨n.toNat, by have := (oneE_ok hc).2.1; omega⟩
    have hk : k < 65536 := by have := (oneE_ok hc).2.2; omega
    rw [hc] at C
    have C1 := Lib.hid (fun W => rhas_any l k W hl.lt (by have := hl.few; omega) hk)
    have HV : Hid (hasS (setL l) (k : Int) = (decide (k ∈ l), 0)) := Lib.hid (has_set hl hk)
    obtain ⟨b, hb⟩ : ∃ b, decide (k ∈ l) = b := ⟨_, rfl⟩
    rw [hb] at C1 HV
    clear hb
    obtain ⟨S, hS⟩ : ∃ S, str (setL l) = S := ⟨_, rfl⟩
    rw [hS] at C C1 ⊢
    clear hS hl hc hA
    go_enter Tryz.func69, Tryz.ntmps69
    go_wp2_with fail
    refine C.out.mono ?_
    rintro e w1 ⟨rfl, hb1⟩
    go_wp2_with fail
    refine (C1.out _).mono ?_
    rintro e w2 ⟨rfl, hb2⟩
    have hbA := below_step hb1 hb2
    go_wp2_with fail

    go_ret2
    exact ⟨by rw [HV.out]; rfl, hbA⟩
  · have HV : Hid (hasS A n = (false, oneE A n)) := Lib.hid (by unfold hasS; rw [decide_eq_false (fun h => hc h.1)])
    obtain ⟨e0, he0⟩ : ∃ e, oneE A n = e := ⟨_, rfl⟩
    rw [he0] at hc C HV
    have hne : (e0 != 0) = true := bne_iff_ne.2 hc
    have heq : (e0 == 0) = false := beq_eq_false_iff_ne.2 hc
    obtain ⟨S, hS⟩ : ∃ S, str A = S := ⟨_, rfl⟩
    rw [hS] at C ⊢
    clear hS hc he0 hA
    go_enter Tryz.func69, Tryz.ntmps69
    go_wp2_with fail
    refine C.out.mono ?_
    rintro e w1 ⟨rfl, hb1⟩
    go_wp2_with fail
    go_ret2
    exact ⟨by rw [HV.out]; rfl, hb1⟩
set_option maxRecDepth 50000 in
theorem rAdd_any (A : List UInt8) (n : Int) (w : World) (hA : A.length ≤ 100000) :
    Calls Tryz.prog 45 #[.string (str A), .int .i64 n] w fun e w' => e = .returned (strE (oneS true true true A n)) ∧ Below w.heap.size w w' := by
  have C := Lib.hid (rone_any A n w (by omega))
  by_cases hc : oneE A n = 0
  · obtain ⟨l, rfl, hl⟩ := set_of (oneE_ok hc).1
    obtain ⟨k, rfl⟩ : ∃ k : Nat, n = k := ⟨n.toNat, by have := (oneE_ok hc).2.1; omega⟩
    have hk : k < 65536 := by have := (oneE_ok hc).2.2; omega
    rw [hc] at C
    have C1 := Lib.hid (fun W => rwith_any l k W hl.up hl.lt (by have := hl.few; omega) hk)
    have C2 := Lib.hid (fun W => rset_any (mg true true true l [k]) W (by have := mg_len' true true true l [k]; have := hl.few; have e1 : ([k] : List Nat).length = 1 := rfl; omega))
    have HV := Lib.hid (one_set (f := true) (b := true) (s := true) hl hk)
    obtain ⟨R, hR⟩ : ∃ R, str (setL (mg true true true l [k])) = R := ⟨_, rfl⟩
    rw [hR] at C1 C2
    obtain ⟨S2, e2, h2⟩ := strE_two (outS (mg true true true l [k]))
    rw [h2] at C2
    have HV : Hid (strE (oneS true true true (setL l) (k : Int)) = .tuple #[.string S2, .int .i64 e2]) := Lib.hid (by rw [HV.out, h2])
    clear hR h2
    obtain ⟨S, hS⟩ : ∃ S, str (setL l) = S := ⟨_, rfl⟩
    rw [hS] at C C1 ⊢
    clear hS hl hc hA
    go_enter Tryz.func45, Tryz.ntmps45
    go_wp2_with fail
    refine C.out.mono ?_
    rintro e w1 ⟨rfl, hb1⟩
    go_wp2_with fail
    refine (C1.out _).mono ?_
    rintro e w2 ⟨rfl, hb2⟩
    have hbA := below_step hb1 hb2
    go_wp2_with fail
    refine (C2.out _).mono ?_
    rintro e w3 ⟨rfl, rfl⟩
    go_wp2_with fail
    go_ret2
    exact ⟨by rw [HV.out]; rfl, hbA⟩
  · have HV : Hid (strE (oneS true true true A n) = strE ([], oneE A n)) := Lib.hid (by rw [one_no hc])
    obtain ⟨e0, he0⟩ : ∃ e, oneE A n = e := ⟨_, rfl⟩
    rw [he0] at hc C HV
    have hne : (e0 != 0) = true := bne_iff_ne.2 hc
    have heq : (e0 == 0) = false := beq_eq_false_iff_ne.2 hc
    obtain ⟨S, hS⟩ : ∃ S, str A = S := ⟨_, rfl⟩
    rw [hS] at C ⊢
    clear hS hc he0 hA
    go_enter Tryz.func45, Tryz.ntmps45
    go_wp2_with fail
    refine C.out.mono ?_
    rintro e w1 ⟨rfl, hb1⟩
    go_wp2_with fail
    go_ret2
    exact ⟨by rw [HV.out]; rfl, hb1⟩
set_option maxRecDepth 50000 in
theorem rDrop_any (A : List UInt8) (n : Int) (w : World) (hA : A.length ≤ 100000) :
    Calls Tryz.prog 70 #[.string (str A), .int .i64 n] w fun e w' => e = .returned (strE (oneS true false false A n)) ∧ Below w.heap.size w w' := by
  have C := Lib.hid (rone_any A n w (by omega))
  by_cases hc : oneE A n = 0
  · obtain ⟨l, rfl, hl⟩ := set_of (oneE_ok hc).1
    obtain ⟨k, rfl⟩ : ∃ k : Nat, n = k := ⟨n.toNat, by have := (oneE_ok hc).2.1; omega⟩
    have hk : k < 65536 := by have := (oneE_ok hc).2.2; omega
    rw [hc] at C
    have C1 := Lib.hid (fun W => rwithout_any l k W hl.up hl.lt (by have := hl.few; omega) hk)
    have HV : Hid (strE (oneS true false false (setL l) (k : Int)) = .tuple #[.string (str (setL (mg true false false l [k]))), .int .i64 0]) := Lib.hid (by rw [one_set hl hk, out_ok (Nat.le_trans (mi_le l [k]) hl.few)]; rfl)
    obtain ⟨R, hR⟩ : ∃ R, str (setL (mg true false false l [k])) = R := ⟨_, rfl⟩
    rw [hR] at C1 HV
    clear hR
    obtain ⟨S, hS⟩ : ∃ S, str (setL l) = S := ⟨_, rfl⟩
    rw [hS] at C C1 ⊢
    clear hS hl hc hA
    go_enter Tryz.func70, Tryz.ntmps70
    go_wp2_with fail
    refine C.out.mono ?_
    rintro e w1 ⟨rfl, hb1⟩
    go_wp2_with fail
    refine (C1.out _).mono ?_
    rintro e w2 ⟨rfl, hb2⟩
    have hbA := below_step hb1 hb2
    go_wp2_with fail

    go_ret2
    exact ⟨by rw [HV.out]; rfl, hbA⟩
  · have HV : Hid (strE (oneS true false false A n) = strE ([], oneE A n)) := Lib.hid (by rw [one_no hc])
    obtain ⟨e0, he0⟩ : ∃ e, oneE A n = e := ⟨_, rfl⟩
    rw [he0] at hc C HV
    have hne : (e0 != 0) = true := bne_iff_ne.2 hc
    have heq : (e0 == 0) = false := beq_eq_false_iff_ne.2 hc
    obtain ⟨S, hS⟩ : ∃ S, str A = S := ⟨_, rfl⟩
    rw [hS] at C ⊢
    clear hS hc he0 hA
    go_enter Tryz.func70, Tryz.ntmps70
    go_wp2_with fail
    refine C.out.mono ?_
    rintro e w1 ⟨rfl, hb1⟩
    go_wp2_with fail
    go_ret2
    exact ⟨by rw [HV.out]; rfl, hb1⟩
set_option maxRecDepth 50000 in
theorem rFlip_any (A : List UInt8) (n : Int) (w : World) (hA : A.length ≤ 100000) :
    Calls Tryz.prog 44 #[.string (str A), .int .i64 n] w fun e w' => e = .returned (strE (oneS true false true A n)) ∧ Below w.heap.size w w' := by
  have C := Lib.hid (rHas_any A n w hA)
  have CA := Lib.hid (fun W => rAdd_any A n W hA)
  have CD := Lib.hid (fun W => rDrop_any A n W hA)
  obtain ⟨b, hb⟩ : ∃ b, (hasS A n).1 = b := ⟨_, rfl⟩
  obtain ⟨e0, he0⟩ : ∃ b, (hasS A n).2 = b := ⟨_, rfl⟩
  have he1 : e0 = oneE A n := by rw [← he0]; rfl
  rw [hb, he0] at C
  have HD : Hid (b = true → e0 = 0 ∧ oneS true false true A n = oneS true false false A n) := Lib.hid fun h => by
    rw [h] at hb
    have h1 := of_decide_eq_true hb
    obtain ⟨l, rfl, hl⟩ := set_of (oneE_ok h1.1).1
    obtain ⟨k, rfl⟩ : ∃ k : Nat, n = k := ⟨n.toNat, by have := (oneE_ok h1.1).2.1; omega⟩
    have hk : k < 65536 := by have := (oneE_ok h1.1).2.2; omega
    have h2 := h1.2
    rw [hl.ids, Int.toNat_natCast] at h2
    exact ⟨he1.trans h1.1, by rw [one_set hl hk, one_set hl hk, flip_in hl.up h2]⟩
  have HA : Hid (b = false → oneS true false true A n = oneS true true true A n) := Lib.hid fun h => by
    rw [h] at hb
    have h1 := of_decide_eq_false hb
    by_cases h0 : oneE A n = 0
    · obtain ⟨l, rfl, hl⟩ := set_of (oneE_ok h0).1
      obtain ⟨k, rfl⟩ : ∃ k : Nat, n = k := ⟨n.toNat, by have := (oneE_ok h0).2.1; omega⟩
      have hk : k < 65536 := by have := (oneE_ok h0).2.2; omega
      have h2 : k ∉ l := fun h => h1 ⟨h0, by rw [hl.ids, Int.toNat_natCast]; exact h⟩
      rw [one_set hl hk, one_set hl hk, flip_out hl.up h2]
    · rw [one_no h0, one_no h0]
  obtain ⟨S, hS⟩ : ∃ S, str A = S := ⟨_, rfl⟩
  rw [hS] at C CA CD ⊢
  clear hS hb he0 he1 hA
  cases b with
  | true =>
    obtain ⟨rfl, hv⟩ := HD.out rfl
    rw [hv]
    obtain ⟨S2, e2, h2⟩ := strE_two (oneS true false false A n)
    rw [h2] at CD ⊢
    clear HA HD CA h2 hv
    go_enter Tryz.func44, Tryz.ntmps44
    go_wp2_with fail
    refine C.out.mono ?_
    rintro e w1 ⟨rfl, hb1⟩
    go_wp2_with fail
    refine (CD.out _).mono ?_
    rintro e w2 ⟨rfl, hb2⟩
    have hbA := below_step hb1 hb2
    go_wp2_with fail
    go_ret2
    exact ⟨rfl, hbA⟩
  | false =>
    have hv := HA.out rfl
    rw [hv]
    obtain ⟨S2, e2, h2⟩ := strE_two (oneS true true true A n)
    rw [h2] at CA ⊢
    clear HA HD CD h2 hv
    by_cases hz : e0 = 0
    · subst hz
      go_enter Tryz.func44, Tryz.ntmps44
      go_wp2_with fail
      refine C.out.mono ?_
      rintro e w1 ⟨rfl, hb1⟩
      go_wp2_with fail
      refine (CA.out _).mono ?_
      rintro e w2 ⟨rfl, hb2⟩
      have hbA := below_step hb1 hb2
      go_wp2_with fail
      go_ret2
      exact ⟨rfl, hbA⟩
    · have heq : (e0 == 0) = false := beq_eq_false_iff_ne.2 hz
      clear hz
      go_enter Tryz.func44, Tryz.ntmps44
      go_wp2_with fail
      refine C.out.mono ?_
      rintro e w1 ⟨rfl, hb1⟩
      go_wp2_with fail
      refine (CA.out _).mono ?_
      rintro e w2 ⟨rfl, hb2⟩
      have hbA := below_step hb1 hb2
      go_wp2_with fail
      go_ret2
      exact ⟨rfl, hbA⟩
end Go.Proofs.YtbmgpenllpbioaaGreatDoor
