/- Contracts of words.Int, words.Digits and the reference's Int. -/
import Derived.Test.YtchnmbfeaaialaaGreatDoorIntSpec
import Derived.Test.YtchnmbfeaaialaaGreatDoorShelf
import Derived.WalkSmall
import Derived.WalkLawsBesides
import Derived.WalkSpells
namespace Go.Proofs.YtchnmbfeaaialaaGreatDoor
open Go.RowKit Go.PlainAid

/-- strconv's two errors lie in their variables. -/
def RangeIs (w : World) : Prop := ∃ tp p, w.var? Tryz.prog "strconv.ErrRange" = some #[.iface tp p]
theorem range_below {B : Nat} {w w' : World} (h : RangeIs w) (hb : Below B w w') (hB : 3 < B) : RangeIs w' := by
  obtain ⟨tp, p, h⟩ := h; exact ⟨tp, p, var?_below hb (by kernel_rfl) hB h⟩

def IntV (s : ByteArray) (low high : Int) (w : World) (e : Ending) (w' : World) : Prop :=
  e = .returned (.tuple #[.int .i64 (intS s.data.toList low high).1, .int .i64 (intS s.data.toList low high).2]) ∧ Below w.heap.size w w'
theorem intV_of {s : ByteArray} {low high : Int} {w w' : World} {a b : Int} (h : intS s.data.toList low high = (a, b)) (hb : Below w.heap.size w w') :
    IntV s low high w (.returned (.tuple #[.int .i64 a, .int .i64 b])) w' := by unfold IntV; rw [h]; exact ⟨rfl, hb⟩
theorem trim_str (s : ByteArray) : ByteArray.mk (Lib.trimPrefix s.data.toList (ByteArray.mk #[45]).data.toList).toArray = str (Lib.trimPrefix s.data.toList [45]) := rfl
theorem trim_size (l : List UInt8) : (Lib.trimPrefix l [45]).length ≤ l.length := by
  unfold Lib.trimPrefix; split
  · simp
  · exact Nat.le_refl _
theorem same_list (s : ByteArray) (l : List UInt8) : (s.toList == l) = (s.data.toList == l) := by rw [ByteArray.toList_eq]

theorem bytesWorld_below (w : World) (e : TypeId) (t : ByteArray) : Below w.heap.size w (Lib.bytesWorld w e t) := ⟨rfl, rfl, rfl, by rw [Lib.bytesWorld_size]; omega, fun k hk => Lib.bytesWorld_at_old w e t k hk⟩
theorem parse_ok (s : ByteArray) (hs : s.size ≤ 1000000000) (v : Int) (h : Lib.parseIntB 64 s.data.toList = .ok v) (w : World) :
    Calls Tryz.prog 85 #[.string s, .int .i64 10, .int .i64 64] w fun e w' => e = .returned (.tuple #[.int .i64 v, .nilIface]) ∧ Below w.heap.size w w' :=
  (Tryz.strconv_ParseInt_10_at64_ok s (by omega) v h w).mono fun e w' ⟨he, hw⟩ => ⟨he, by
    rcases hw with rfl | ⟨t, rfl⟩
    · exact Below.refl _ _
    · exact bytesWorld_below _ _ _⟩
theorem parse_rng (s : ByteArray) (hs : s.size ≤ 1000000000) (h : Lib.parseIntB 64 s.data.toList = .range) (w : World) (hr : RangeIs w) :
    Calls Tryz.prog 85 #[.string s, .int .i64 10, .int .i64 64] w fun e w' => ∃ (N : Nat) (m : Int), e = .returned (.tuple #[.int .i64 m, .iface 152 (.pointer (some ⟨N, 0, none⟩))]) ∧ Below w.heap.size w w' := by
  obtain ⟨tp, p, hr⟩ := hr
  exact (Tryz.strconv_ParseInt_10_at64_range_var s (by omega) h tp p w hr).mono fun e w' ⟨N, he, _, _, hb⟩ => ⟨N, _, he, hb⟩

set_option maxHeartbeats 1600000 in
theorem int_any (s : ByteArray) (low high : Int) (w : World) (hs : s.size ≤ 1000000000) (hr : RangeIs w) :
    Calls Tryz.prog 62 #[.string s, .int .i64 low, .int .i64 high] w (IntV s low high w) := by
  obtain ⟨t, ht⟩ : ∃ t, ByteArray.mk (Lib.trimPrefix s.data.toList (ByteArray.mk #[45]).data.toList).toArray = t := ⟨_, rfl⟩
  have hts : t.size ≤ maxLen := by
    rw [← ht, trim_str, str_size]; exact Nat.le_trans (trim_size s.data.toList) (by rw [len_list]; unfold maxLen; omega)
  have hnt : natB t = natL (Lib.trimPrefix s.data.toList [45]) := by rw [natB_list, ← ht]
  have hdec := dec_trim s.data.toList
  rw [← hnt] at hdec
  have HTS := Lib.hid hts
  clear hnt hts
  cases hd : decL s.data.toList
  · have HV : Hid (intS s.data.toList low high = (0, 6)) := Lib.hid (by unfold intS; rw [hd]; rfl)
    rw [hd] at hdec
    cases h0 : (s.data.toList == [45, 48])
    · have hn : natB t = false := by rw [h0] at hdec; simpa using hdec.symm
      have h0' : (s.toList == [45, 48]) = false := by rw [same_list]; exact h0
      clear hd hdec h0
      go_enter Tryz.func62, Tryz.ntmps62
      go_wp2_with (first | (go_at_call 84; refine (Tryz.strings_TrimPrefix _ _ _).mono ?_; rintro e w' ⟨rfl, rfl⟩) | (go_at_call 80; refine (natural_any _ _ HTS.out).mono ?_; rintro e w' ⟨rfl, rfl⟩))
      all_goals go_ret2
      all_goals exact intV_of HV.out (Below.refl _ _)
    · have h0' : (s.toList == [45, 48]) = true := by rw [same_list]; exact h0
      clear hd hdec h0
      go_enter Tryz.func62, Tryz.ntmps62
      go_wp2
      all_goals go_ret2
      all_goals exact intV_of HV.out (Below.refl _ _)
  · rw [hd] at hdec
    have h0 : (s.data.toList == [45, 48]) = false := by
      cases h0 : (s.data.toList == [45, 48])
      · rfl
      · rw [h0] at hdec; cases hdec
    have hn : natB t = true := by rw [h0] at hdec; simpa using hdec.symm
    have h0' : (s.toList == [45, 48]) = false := by rw [same_list]; exact h0
    have hp := parse_dec hd
    clear hdec h0
    by_cases hf : fits (valL s.data.toList)
    · rw [if_pos hf] at hp
      obtain ⟨v, hv⟩ : ∃ v, valL s.data.toList = v := ⟨_, rfl⟩
      rw [hv] at hp hf
      have HP := Lib.hid hp
      have hf1 := hf.1
      have hf2 := hf.2
      have HI : Hid (intS s.data.toList low high = if low ≤ v ∧ v ≤ high then (v, 0) else (0, 7)) := Lib.hid (by
        unfold intS; rw [if_pos hd, hv]
        by_cases h : low ≤ v ∧ v ≤ high
        · rw [if_pos h, if_pos ⟨hf, h⟩]
        · rw [if_neg h, if_neg (fun k => h k.2)])
      clear hp hf hv hd
      by_cases h1 : v < low
      · go_enter Tryz.func62, Tryz.ntmps62
        go_wp2_with (first | (go_at_call 84; refine (Tryz.strings_TrimPrefix _ _ _).mono ?_; rintro e w' ⟨rfl, rfl⟩) | (go_at_call 80; refine (natural_any _ _ HTS.out).mono ?_; rintro e w' ⟨rfl, rfl⟩) | (go_at_call 85; refine (parse_ok _ hs v HP.out _).mono ?_; rintro e w' ⟨rfl, hb⟩))
        all_goals go_ret2
        all_goals exact intV_of (by rw [HI.out, if_neg (by omega)]) hb
      · by_cases h2 : high < v
        · go_enter Tryz.func62, Tryz.ntmps62
          go_wp2_with (first | (go_at_call 84; refine (Tryz.strings_TrimPrefix _ _ _).mono ?_; rintro e w' ⟨rfl, rfl⟩) | (go_at_call 80; refine (natural_any _ _ HTS.out).mono ?_; rintro e w' ⟨rfl, rfl⟩) | (go_at_call 85; refine (parse_ok _ hs v HP.out _).mono ?_; rintro e w' ⟨rfl, hb⟩))
          all_goals go_ret2
          all_goals exact intV_of (by rw [HI.out, if_neg (by omega)]) hb
        · go_enter Tryz.func62, Tryz.ntmps62
          go_wp2_with (first | (go_at_call 84; refine (Tryz.strings_TrimPrefix _ _ _).mono ?_; rintro e w' ⟨rfl, rfl⟩) | (go_at_call 80; refine (natural_any _ _ HTS.out).mono ?_; rintro e w' ⟨rfl, rfl⟩) | (go_at_call 85; refine (parse_ok _ hs v HP.out _).mono ?_; rintro e w' ⟨rfl, hb⟩))
          all_goals go_ret2
          all_goals first | (exfalso; omega) | exact intV_of (by rw [HI.out, if_pos (by omega)]) hb
    · rw [if_neg hf] at hp
      have HP := Lib.hid hp
      have HI : Hid (intS s.data.toList low high = (0, 7)) := Lib.hid (by
        unfold intS; rw [if_pos hd, if_neg (fun k => hf k.1)])
      clear hp hf hd
      go_enter Tryz.func62, Tryz.ntmps62
      go_wp2_with (first | (go_at_call 84; refine (Tryz.strings_TrimPrefix _ _ _).mono ?_; rintro e w' ⟨rfl, rfl⟩) | (go_at_call 80; refine (natural_any _ _ HTS.out).mono ?_; rintro e w' ⟨rfl, rfl⟩) | (go_at_call 85; refine (parse_rng _ hs HP.out _ hr).mono ?_; rintro e w' ⟨N, m, rfl, hb⟩))
      all_goals go_ret2
      all_goals exact intV_of HI.out hb

/-- The number that the reference has read: the negative of what the digits before spell. -/
theorem numFrom_snoc (d : List UInt8) (c : UInt8) (acc : Nat) : numFrom acc (d ++ [c]) = 10 * numFrom acc d + (c.toNat - 48) := by
  simp [numFrom]
theorem numFrom_append (d r : List UInt8) (acc : Nat) : numFrom acc (d ++ r) = numFrom (numFrom acc d) r := by simp [numFrom]
/-- What is read of the string up to byte k: its digits. -/
def readTo (s : ByteArray) (k : Nat) : Nat := numFrom 0 ((s.data.toList.take k).filter fun c => !(c == 45))
theorem readTo_digit {s : ByteArray} {k : Nat} (hk : k < s.size) (h : bt s k ≠ 45) : readTo s (k + 1) = 10 * readTo s k + ((bt s k).toNat - 48) := by
  unfold readTo
  rw [List.take_succ_eq_append_getElem (by simpa using hk), List.filter_append]
  have hb := bt_nth s k hk
  have hne : (s.data.toList[k]'(by simpa using hk) == 45) = false := beq_eq_false_iff_ne.mpr (fun e => h (by rw [hb, e]; rfl))
  rw [List.filter_cons, hne]
  simp only [Bool.not_false, if_true, List.filter_nil]
  rw [numFrom_snoc, hb]
  simp
theorem readTo_minus {s : ByteArray} {k : Nat} (hk : k < s.size) (h : bt s k = 45) : readTo s (k + 1) = readTo s k := by
  unfold readTo
  rw [List.take_succ_eq_append_getElem (by simpa using hk), List.filter_append]
  have hb := bt_nth s k hk
  have he : s.data.toList[k]'(by simpa using hk) = 45 := u8_eq (n := 45) (by omega)
  rw [List.filter_cons, he]
  simp
end Go.Proofs.YtchnmbfeaaialaaGreatDoor
