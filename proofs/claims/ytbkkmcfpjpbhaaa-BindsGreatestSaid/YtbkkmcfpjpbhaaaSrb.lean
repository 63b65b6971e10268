/- The reference of layer 9: with, without. -/
import Derived.Test.YtbkkmcfpjpbhaaaSra
namespace Go.Proofs.Ytbkkmcfpjpbhaaa
open Go.RowKit Go.PlainAid

theorem str_cat (a b : List UInt8) : str a ++ str b = str (a ++ b) := by
  show (ByteArray.mk _ ++ ByteArray.mk _) = _
  rw [ByteArray.mk_append_mk]; rfl
theorem setL_put (l : List Nat) (k n : Nat) : (str (setL l)).extract 0 (2 * k) ++ str [hiB n, loB n] ++ (str (setL l)).extract (2 * k) (str (setL l)).size = str (setL (l.take k ++ n :: l.drop k)) := by
  rw [ext_str, ext_str, str_cat, str_cat, str_list, str_size]
  congr 1
  rw [setL_app, setL, List.drop_zero, Nat.sub_zero, setL_take, setL_drop, List.append_assoc]
  congr 1
  rw [List.take_of_length_le (by simp only [setL_len, List.length_drop]; omega)]; rfl
theorem setL_out (l : List Nat) (k : Nat) : (str (setL l)).extract 0 (2 * k) ++ (str (setL l)).extract (2 * k + 2) (str (setL l)).size = str (setL (l.take k ++ l.drop (k + 1))) := by
  rw [ext_str, ext_str, str_cat, str_list, str_size]
  congr 1
  rw [setL_app, List.drop_zero, Nat.sub_zero, setL_take, show 2 * k + 2 = 2 * (k + 1) by omega, setL_drop]
  congr 1
  rw [List.take_of_length_le (by simp only [setL_len, List.length_drop]; omega)]
set_option maxRecDepth 100000 in
set_option maxHeartbeats 3200000 in
theorem rwithout_any (l : List Nat) (n : Nat) (w : World) (ha : asc l) (hx : ∀ x ∈ l, x < 65536) (hL : l.length ≤ 1000000) (hn : n < 65536) :
    Calls Try.prog 57 #[.string (str (setL l)), .int .i64 (n : Int)] w fun e w' => e = .returned (.string (str (setL (mg true false false l [n])))) ∧ Below w.heap.size w w' := by
  obtain ⟨m, hm⟩ : ∃ m, l.length = m := ⟨_, rfl⟩
  have CB := Lib.hid (rbytes_any n w hn)
  obtain ⟨Y, hY⟩ : ∃ X, str [hiB n, loB n] = X := ⟨_, rfl⟩
  obtain ⟨R, hR⟩ : ∃ X, str (setL (mg true false false l [n])) = X := ⟨_, rfl⟩
  have HE : Hid (∀ k x, l[k]? = some x → ∃ X, (str (setL l)).extract (2 * k) (2 * k + 2) = X ∧ (X.toList == Y.toList) = decide (x = n)) := Lib.hid (fun k x h => ⟨_, ext_at h, by rw [← hY]; exact pair_eqS (hx x (List.mem_of_getElem? h)) hn⟩)
  have HF : Hid (∀ k, l[k]? = some n → (str (setL l)).extract 0 (2 * k) ++ (str (setL l)).extract (2 * k + 2) (str (setL l)).size = R) := Lib.hid fun k hk => by rw [setL_out, cut_out ha hk, hR]
  have HN : Hid (n ∉ l → str (setL l) = R) := Lib.hid fun h => by rw [← hR, ← cut_not ha h]
  obtain ⟨S, hS⟩ : ∃ S, str (setL l) = S := ⟨_, rfl⟩
  have HS : Hid (S.size = 2 * m) := Lib.hid (by rw [← hS, str_size, setL_len, hm])
  have HM := Lib.hid hm
  have hmb : m ≤ 1000000 := by omega
  rw [hY] at CB
  rw [hR]
  rw [hS] at HE HF HN ⊢
  clear hS hm hx hL hY hR ha
  go_enter Try.func57, Try.ntmps57
  go_wp2_with fail
  refine CB.out.mono ?_
  rintro e w1 ⟨rfl, hb1⟩
  go_wp2_with fail
  go_loopw [6] (fun x6 wr => ∃ (k : Nat), x6 = .int .i64 ((2 * k : Nat) : Int) ∧ k ≤ m ∧ Hid (n ∉ l.take k) ∧ Below w.heap.size w wr) (fun x6 _ => 2 * m + 1 - (intOf x6).toNat)
  case atStart => exact ⟨0, rfl, Nat.zero_le _, Lib.hid (by simp), hb1⟩
  case round =>
    obtain ⟨k, rfl, hk, HG, hbel⟩ := hrel
    obtain ⟨r, hr⟩ : ∃ r, 2 * k = r := ⟨_, rfl⟩
    have HR := Lib.hid hr
    rw [hr]
    have hsz := HS.out
    have hrb : r ≤ 2000002 := by omega
    by_cases hlt : k < m
    · obtain ⟨x, hxk⟩ : ∃ x, l[k]? = some x := ⟨_, List.getElem?_eq_getElem (by rw [HM.out]; omega)⟩
      obtain ⟨X, q1, hl⟩ := HE.out k x hxk
      rw [hr] at q1
      have hd : decide ((r : Int) < (S.size : Int)) = true := decide_eq_true (by omega)
      have w2 : IntKind.i64.wrap ((r : Int) + 2) = (r : Int) + 2 := by rw [IntKind.wrap_i64]; omega
      have b2 : r ≤ S.size := by omega
      have b3 : r + 2 ≤ S.size := by omega
      have b4 : (r : Int) + 2 ≤ (S.size : Int) := by omega
      have b5 : (0 : Int) ≤ (r : Int) := Int.natCast_nonneg _
      have b6 : (0 : Int) ≤ (r : Int) + 2 := by omega
      have b7 : (r : Int) ≤ (S.size : Int) := by omega
      by_cases hxn : x = n
      · rw [decide_eq_true hxn] at hl
        have hf := HF.out k (by rw [hxk, hxn])
        rw [hr] at hf
        obtain ⟨P, hP⟩ : ∃ P, S.extract 0 r = P := ⟨_, rfl⟩
        obtain ⟨Q, hQ⟩ : ∃ Q, S.extract (r + 2) S.size = Q := ⟨_, rfl⟩
        have hp1 : P.size ≤ S.size := by rw [← hP, ByteArray.size_extract]; omega
        have hq1 : Q.size ≤ S.size := by rw [← hQ, ByteArray.size_extract]; omega
        rw [hP, hQ] at hf
        have ho : ∀ W, (Op.stringOp .add P Q).run Try.prog W = .ok (.string R) W := fun W => by rw [run_string_add_sum W P Q (by omega), hf]
        clear hxn hxk HG hr hsz HF HN hf hp1 hq1
        -- MARK1
        go_wp2
        -- MARK2
        go_quiet (fail)
        go_wp2
        go_ret
        exact ⟨rfl, ⟨hbel.os, hbel.tape, hbel.output, hbel.size, hbel.block⟩⟩
      · rw [decide_eq_false hxn] at hl
        have HG2 : Hid (n ∉ l.take (k + 1)) := Lib.hid (by
          rw [← take_snocN hxk]
          intro h
          rcases List.mem_append.1 h with h | h
          · exact HG.out h
          · exact hxn (List.mem_singleton.1 h).symm)
        clear hxn hxk HG hr hsz HF HN
        go_wp2
        exact ⟨⟨k + 1, by have := HR.out; go_num, by omega, HG2, hbel⟩, by have := HR.out; simp [intOf]; omega⟩
    · have hd : decide ((r : Int) < (S.size : Int)) = false := decide_eq_false (by omega)
      have hnl : ¬ r < S.size := by omega
      have HV := Lib.hid (HN.out (by have := HG.out; rw [List.take_of_length_le (by rw [HM.out]; omega)] at this; exact this))
      clear HG hr hsz HF HN
      go_wp2
      go_ret
      exact ⟨by rw [HV.out]; rfl, hbel⟩
set_option maxRecDepth 100000 in
set_option maxHeartbeats 3200000 in
theorem rwith_any (l : List Nat) (n : Nat) (w : World) (ha : asc l) (hx : ∀ x ∈ l, x < 65536) (hL : l.length ≤ 1000000) (hn : n < 65536) :
    Calls Try.prog 43 #[.string (str (setL l)), .int .i64 (n : Int)] w fun e w' => e = .returned (.string (str (setL (mg true true true l [n])))) ∧ Below w.heap.size w w' := by
  obtain ⟨m, hm⟩ : ∃ m, l.length = m := ⟨_, rfl⟩
  have CH := Lib.hid (rhas_any l n w hx hL hn)
  have CB := Lib.hid (fun W => rbytes_any n W hn)
  obtain ⟨Y, hY⟩ : ∃ X, str [hiB n, loB n] = X := ⟨_, rfl⟩
  obtain ⟨R, hR⟩ : ∃ X, str (setL (mg true true true l [n])) = X := ⟨_, rfl⟩
  have HE : Hid (∀ k x, l[k]? = some x → ∃ X, (str (setL l)).extract (2 * k) (2 * k + 2) = X ∧ Op.bytesLess X.toList Y.toList = decide (x < n)) := Lib.hid (fun k x h => ⟨_, ext_at h, by rw [← hY]; exact pair_lessS (hx x (List.mem_of_getElem? h)) hn⟩)
  have HF : Hid (∀ k, n ∉ l → (∀ j a, j < k → l[j]? = some a → a < n) → (∀ a, l[k]? = some a → n < a) → (str (setL l)).extract 0 (2 * k) ++ Y ++ (str (setL l)).extract (2 * k) (str (setL l)).size = R) := Lib.hid fun k h1 h2 h3 => by rw [← hY, setL_put, put_in ha h1 h2 h3, hR]
  have HN : Hid (n ∈ l → str (setL l) = R) := Lib.hid fun h => by rw [← hR, ← put_have ha h]
  obtain ⟨S, hS⟩ : ∃ S, str (setL l) = S := ⟨_, rfl⟩
  have HS : Hid (S.size = 2 * m) := Lib.hid (by rw [← hS, str_size, setL_len, hm])
  have HM := Lib.hid hm
  have hmb : m ≤ 1000000 := by omega
  have HYz : Y.size = 2 := by rw [← hY, str_size]; rfl
  rw [hY] at CB
  rw [hR]
  rw [hS] at HE HF HN CH ⊢
  clear hS hm hx hL hY hR ha
  by_cases hin : n ∈ l
  · rw [decide_eq_true hin] at CH
    have HV := Lib.hid (HN.out hin)
    clear HN HF HE CB hin
    go_enter Try.func43, Try.ntmps43
    go_wp2_with fail
    refine CH.out.mono ?_
    rintro e w1 ⟨rfl, hb1⟩
    go_wp2_with fail
    go_ret
    exact ⟨by rw [HV.out]; rfl, hb1⟩
  · rw [decide_eq_false hin] at CH
    have HI := Lib.hid hin
    clear HN hin
    go_enter Try.func43, Try.ntmps43
    go_wp2_with fail
    refine CH.out.mono ?_
    rintro e w1 ⟨rfl, hb1⟩
    go_wp2_with fail
    refine (CB.out _).mono ?_
    rintro e w2 ⟨rfl, hb2⟩
    go_wp2_with fail
    have hb := below_step hb1 hb2
    go_loopw [6] (fun x6 wr => ∃ (k : Nat), x6 = .int .i64 ((2 * k : Nat) : Int) ∧ k ≤ m ∧ Hid (∀ j a, j < k → l[j]? = some a → a < n) ∧ Below w.heap.size w wr) (fun x6 _ => 2 * m + 1 - (intOf x6).toNat)
    case atStart => exact ⟨0, rfl, Nat.zero_le _, Lib.hid (fun _ _ h => absurd h (Nat.not_lt_zero _)), hb⟩
    case round =>
      obtain ⟨k, rfl, hk, HG, hbel⟩ := hrel
      obtain ⟨r, hr⟩ : ∃ r, 2 * k = r := ⟨_, rfl⟩
      have HR := Lib.hid hr
      rw [hr]
      have hsz := HS.out
      have hrb : r ≤ 2000002 := by omega
      have b2 : r ≤ S.size := by omega
      have b5 : (0 : Int) ≤ (r : Int) := Int.natCast_nonneg _
      have b7 : (r : Int) ≤ (S.size : Int) := by omega
      by_cases hlt : k < m
      · obtain ⟨x, hxk⟩ : ∃ x, l[k]? = some x := ⟨_, List.getElem?_eq_getElem (by rw [HM.out]; omega)⟩
        obtain ⟨X, q1, hl⟩ := HE.out k x hxk
        rw [hr] at q1
        have hd : decide ((r : Int) < (S.size : Int)) = true := decide_eq_true (by omega)
        have w2 : IntKind.i64.wrap ((r : Int) + 2) = (r : Int) + 2 := by rw [IntKind.wrap_i64]; omega
        have b3 : r + 2 ≤ S.size := by omega
        have hlb : r < S.size := by omega
        have b4 : (r : Int) + 2 ≤ (S.size : Int) := by omega
        have b6 : (0 : Int) ≤ (r : Int) + 2 := by omega
        by_cases hxn : x < n
        · rw [decide_eq_true hxn] at hl
          have HG2 : Hid (∀ j a, j < k + 1 → l[j]? = some a → a < n) := Lib.hid (fun j a hj h => by
            rcases Nat.lt_succ_iff_lt_or_eq.1 hj with hj | rfl
            · exact HG.out j a hj h
            · rw [hxk] at h; cases h; exact hxn)
          clear hxn hxk HG hr hsz HF
          go_wp2
          exact ⟨⟨k + 1, by have := HR.out; go_num, by omega, HG2, hbel⟩, by have := HR.out; simp [intOf]; omega⟩
        · rw [decide_eq_false hxn] at hl
          have hf := HF.out k HI.out HG.out (fun a h => by
            rw [hxk] at h; cases h
            have : x ≠ n := fun e => HI.out (e ▸ List.mem_of_getElem? hxk)
            omega)
          rw [hr] at hf
          obtain ⟨P, hP⟩ : ∃ P, S.extract 0 r = P := ⟨_, rfl⟩
          obtain ⟨Q, hQ⟩ : ∃ Q, S.extract r S.size = Q := ⟨_, rfl⟩
          have hp1 : P.size ≤ S.size := by rw [← hP, ByteArray.size_extract]; omega
          have hq1 : Q.size ≤ S.size := by rw [← hQ, ByteArray.size_extract]; omega
          rw [hP, hQ] at hf
          obtain ⟨PY, hPY⟩ : ∃ Q, P ++ Y = Q := ⟨_, rfl⟩
          have hpy : PY.size ≤ S.size + 2 := by rw [← hPY, ByteArray.size_append, HYz]; omega
          rw [hPY] at hf
          have ho : ∀ W, (Op.stringOp .add P Y).run Try.prog W = .ok (.string PY) W := fun W => by rw [run_string_add_sum W P Y (by omega), hPY]
          have ho2 : ∀ W, (Op.stringOp .add PY Q).run Try.prog W = .ok (.string R) W := fun W => by rw [run_string_add_sum W PY Q (by omega), hf]
          clear hxn hxk HG hr hsz HF hf hp1 hq1 hpy hPY
          go_wp2
          -- MARK3
          go_quiet (fail)
          go_wp2
          go_ret
          exact ⟨rfl, ⟨hbel.os, hbel.tape, hbel.output, hbel.size, hbel.block⟩⟩
      · have hd : decide ((r : Int) < (S.size : Int)) = false := decide_eq_false (by omega)
        have hnl : ¬ r < S.size := by omega
        have hf := HF.out k HI.out HG.out (fun a h => by
          have := (List.getElem?_eq_some_iff.1 h).1; rw [HM.out] at this; omega)
        rw [hr] at hf
        obtain ⟨P, hP⟩ : ∃ P, S.extract 0 r = P := ⟨_, rfl⟩
        obtain ⟨Q, hQ⟩ : ∃ Q, S.extract r S.size = Q := ⟨_, rfl⟩
        have hp1 : P.size ≤ S.size := by rw [← hP, ByteArray.size_extract]; omega
        have hq1 : Q.size ≤ S.size := by rw [← hQ, ByteArray.size_extract]; omega
        rw [hP, hQ] at hf
        obtain ⟨PY, hPY⟩ : ∃ Q, P ++ Y = Q := ⟨_, rfl⟩
        have hpy : PY.size ≤ S.size + 2 := by rw [← hPY, ByteArray.size_append, HYz]; omega
        rw [hPY] at hf
        have ho : ∀ W, (Op.stringOp .add P Y).run Try.prog W = .ok (.string PY) W := fun W => by rw [run_string_add_sum W P Y (by omega), hPY]
        have ho2 : ∀ W, (Op.stringOp .add PY Q).run Try.prog W = .ok (.string R) W := fun W => by rw [run_string_add_sum W PY Q (by omega), hf]
        clear HG hr hsz HF hf hp1 hq1 hpy hPY
        go_wp2
        go_quiet (fail)
        go_wp2
        go_ret
        exact ⟨rfl, ⟨hbel.os, hbel.tape, hbel.output, hbel.size, hbel.block⟩⟩
-- MARK9
end Go.Proofs.Ytbkkmcfpjpbhaaa
