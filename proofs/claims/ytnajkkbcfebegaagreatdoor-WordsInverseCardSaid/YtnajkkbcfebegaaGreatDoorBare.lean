/- Contracts of words.bareEnd and words.bareField. -/
import Derived.Test.YtnajkkbcfebegaaGreatDoorDigits
import Derived.Test.YtnajkkbcfebegaaGreatDoorShelf
import Derived.Lib.Strings
import Derived.Handy
namespace Go.Proofs.YtnajkkbcfebegaaGreatDoor
open Go.RowKit Go.PlainAid

/-- A byte that a bare field may have. -/
def bareC (c : UInt8) : Bool := plainB c.toNat && !(c == 32)
def bareI (c : Int) : Bool := plainB c && (c != 32)
theorem bareI_u8 (c : UInt8) : bareI (c.toNat : Int) = bareC c := by
  unfold bareI bareC
  congr 1
  rw [Bool.eq_iff_iff, bne_iff_ne]
  simp only [Bool.not_eq_true', beq_eq_false_iff_ne]
  constructor
  · intro h e; subst e; exact h rfl
  · intro h e; apply h; apply UInt8.toNat_inj.1; have : (32 : UInt8).toNat = 32 := rfl; omega
/-- Where the bytes from p on that a bare field may have end. -/
def bareE (l : List UInt8) (p : Nat) : Nat := p + ((l.drop p).takeWhile bareC).length
theorem bareE_yes {l : List UInt8} {p : Nat} (h : p < l.length) (hb : bareC l[p] = true) : bareE l p = bareE l (p + 1) := by
  unfold bareE
  rw [List.drop_eq_getElem_cons h, List.takeWhile_cons, if_pos hb, List.length_cons]; omega
theorem bareE_no {l : List UInt8} {p : Nat} (h : p < l.length) (hb : bareC l[p] = false) : bareE l p = p := by
  unfold bareE
  rw [List.drop_eq_getElem_cons h, List.takeWhile_cons, if_neg (by rw [hb]; decide)]; rfl
theorem bareE_end {l : List UInt8} {p : Nat} (h : l.length ≤ p) : bareE l p = p := by
  unfold bareE; rw [List.drop_of_length_le h]; rfl
theorem takeWhile_le (f : UInt8 → Bool) (l : List UInt8) : (l.takeWhile f).length ≤ l.length := (List.takeWhile_prefix f).length_le
theorem bareE_le {l : List UInt8} {p : Nat} (h : p ≤ l.length) : p ≤ bareE l p ∧ bareE l p ≤ l.length := by
  unfold bareE
  have := takeWhile_le bareC (l.drop p)
  rw [List.length_drop] at this
  omega
theorem bare_bt {s : ByteArray} {p : Nat} (h : p < s.size) : bareC (s.data.toList[p]'(by simpa using h)) = bareI (bt s p) := by
  rw [← bareI_u8, bt_get s p h]; rfl

set_option maxHeartbeats 800000 in
theorem bareEnd_any (s : ByteArray) (p : Nat) (w : World) (hp : p ≤ s.size) (hs : s.size ≤ 1000000000) :
    Calls Tryz.prog 37 #[.string s, .int .i64 (p : Int)] w fun e w' => e = .returned (.int .i64 (bareE s.data.toList p : Int)) ∧ w = w' := by
  have hb := get_bt s
  go_enter Tryz.func37, Tryz.ntmps37
  go_wp2
  go_loop [1] (fun i => ∃ k : Nat, p ≤ k ∧ k ≤ s.size ∧ i = .int .i64 k ∧ Hid (bareE s.data.toList p = bareE s.data.toList k)) (fun i => s.size - (intOf i).toNat)
  case atStart => exact ⟨p, Nat.le_refl _, hp, rfl, Lib.hid rfl⟩
  case round =>
    obtain ⟨k, hk, hks, rfl, he⟩ := hrel
    by_cases hlt : k < s.size
    · have hl : k < s.data.toList.length := by rw [len_list]; exact hlt
      cases hq : bareI (bt s k)
      · have HE := Lib.hid (he.out.trans (bareE_no hl (by rw [bare_bt hlt]; exact hq)))
        clear hl
        cases hpl : plainB (bt s k)
        · go_wp2_with (go_at_call 56; refine (plainByte_any _ _).mono ?_; rintro e w' ⟨rfl, rfl⟩)
          all_goals go_ret
          all_goals exact ⟨ret_int (by rw [HE.out]), rfl⟩
        · have hne : (bt s k != 32) = false := by unfold bareI at hq; rw [hpl] at hq; simpa using hq
          clear hq
          go_wp2_with (go_at_call 56; refine (plainByte_any _ _).mono ?_; rintro e w' ⟨rfl, rfl⟩)
          all_goals go_ret
          all_goals exact ⟨ret_int (by rw [HE.out]), rfl⟩
      · have HE := Lib.hid (he.out.trans (bareE_yes hl (by rw [bare_bt hlt]; exact hq)))
        have hpl : plainB (bt s k) = true := by unfold bareI at hq; simp at hq; exact hq.1
        have hne : (bt s k != 32) = true := by unfold bareI at hq; rw [hpl] at hq; simpa using hq
        clear hq hl
        go_wp2_with (go_at_call 56; refine (plainByte_any _ _).mono ?_; rintro e w' ⟨rfl, rfl⟩)
        all_goals
          go_round
          case rel => exact ⟨k + 1, by omega, by omega, by go_num, HE⟩
          case measure => simp [intOf]; omega
    · have HE := Lib.hid (he.out.trans (bareE_end (by rw [len_list]; omega)))
      go_wp2
      all_goals go_ret
      all_goals exact ⟨ret_int (by rw [HE.out]), rfl⟩

theorem clone_any (s : ByteArray) (w : World) (h : s.size ≤ 281474976710656) :
    Calls Tryz.prog 67 #[.string s] w fun e w' => e = .returned (.string s) ∧ Below w.heap.size w w' := by
  go_enter Tryz.func67, Tryz.ntmps67
  go_wp2_with (go_at_call 91; refine (Tryz.stringslite_Clone s _ h).mono ?_; rintro e w1 ⟨rfl, hb1⟩)
  go_ret
  exact ⟨rfl, hb1⟩
theorem cell_at {B : Nat} {W w1 : World} (hb : Below B W w1) (b : Nat) (h : b < B) : ∀ o, w1.cell? ⟨b, o, none⟩ = W.cell? ⟨b, o, none⟩ := fun o => hb.cell (p := ⟨b, o, none⟩) h
theorem frozen_at {B : Nat} {W w1 : World} (hb : Below B W w1) (b : Nat) (h : b < B) : ∀ o, w1.frozen? ⟨b, o, none⟩ = W.frozen? ⟨b, o, none⟩ := fun o => hb.frozen (p := ⟨b, o, none⟩) h

/-- A bare field's struct, as it lies in cells. -/
def fldV (x : List UInt8) (q : Bool) : Value := .agg #[.string (str x), .bool q]

set_option maxHeartbeats 800000 in
theorem bareField_any (s : ByteArray) (p : Nat) (w : World) (hp : p ≤ s.size) (hs : s.size ≤ 1000000000) :
    Calls Tryz.prog 54 #[.string s, .int .i64 (p : Int)] w fun e w' =>
      e = .returned (.tuple #[fldV ((s.data.toList.drop p).takeWhile bareC) false, .int .i64 (bareE s.data.toList p : Int), .bool (decide (p < bareE s.data.toList p))]) ∧ Below w.heap.size w w' := by
  have hle := bareE_le (l := s.data.toList) (p := p) (by rw [len_list]; exact hp)
  rw [len_list] at hle
  obtain ⟨q, hq⟩ : ∃ q, q = bareE s.data.toList p := ⟨_, rfl⟩
  obtain ⟨t, ht⟩ : ∃ t, s.extract p q = t := ⟨_, rfl⟩
  have HT : Hid (t = str ((s.data.toList.drop p).takeWhile bareC)) := Lib.hid (by
    rw [← ht, ← str_data (s.extract p q), Lib.extract_data]
    congr 1
    have : q - p = ((s.data.toList.drop p).takeWhile bareC).length := by rw [hq]; unfold bareE; omega
    rw [this]
    have h := List.takeWhile_prefix bareC (l := s.data.toList.drop p)
    exact (List.prefix_iff_eq_take.1 h).symm)
  rw [← hq] at hle ⊢
  have HQ := Lib.hid hq
  have h1 := hle.1
  have h2 := hle.2
  have C := Lib.hid (bareEnd_any s p)
  have hlim : t.size ≤ 281474976710656 := by rw [← ht]; simp; omega
  rw [← hq] at C
  clear hq hle
  go_enter Tryz.func54, Tryz.ntmps54
  go_wp2_with (first | (go_at_call 37; refine (C.out _ hp hs).mono ?_; rintro e w' ⟨rfl, rfl⟩) | (go_at_call 67; refine (clone_any t _ hlim).mono ?_; rintro e w1 ⟨rfl, hb1⟩; have hc1 := cell_at hb1 w.heap.size (by simp); have hf1 := frozen_at hb1 w.heap.size (by simp); have hz1 := hb1.size))
  have hs0 : (w1.setCell ⟨w.heap.size, 0, none⟩ (.string t)).cell? ⟨w.heap.size, 0, none⟩ = some (.string t) := World.cell?_setCell_same' _ _ _ (by rw [hc1]; simp)
  have hs1 : ((w1.setCell ⟨w.heap.size, 0, none⟩ (.string t)).setCell ⟨w.heap.size, 1, none⟩ (.bool false)).cell? ⟨w.heap.size, 1, none⟩ = some (.bool false) := World.cell?_setCell_same' _ _ _ (by
    rw [World.cell?_setCell_other _ _ _ _ (by simp), hc1]; simp)
  refine bodyPost_ret (v := .tuple #[.agg #[.string t, .bool false], .int .i64 (q : Int), .bool (decide ((p : Int) < (q : Int)))]) (by simp [results, Tryz.results54, go_sem, hs0, hs1]) rfl ⟨?_, ?_⟩
  · rw [HT.out, show decide ((p : Int) < (q : Int)) = decide (p < q) from dec_dec (by omega)]; rfl
  · exact (((Below.refl _ _).alloc (Nat.le_refl _) _).trans (hb1.mono (by simp))).setCell (by simp) _ |>.setCell (by simp) _
end Go.Proofs.YtnajkkbcfebegaaGreatDoor
