/- The reference's digits and text. -/
import Derived.Test.YtlpbhncdkhppkaaDoorLq3
namespace Go.Proofs.YtlpbhncdkhppkaaDoor
open Go.RowKit Go.PlainAid

def dig0 (v : Nat) : List UInt8 := if v = 0 then [] else Lib.decDigits v
theorem dig0_step {v : Nat} (h : v ≠ 0) : dig0 v = dig0 (v / 10) ++ [UInt8.ofNat (48 + v % 10)] := by
  unfold dig0
  rw [if_neg h]
  by_cases h10 : v < 10
  · rw [if_pos (by omega), Lib.decDigits_one h10, show v % 10 = v by omega]; rfl
  · rw [if_neg (by omega), Lib.decDigits, dif_neg h10]
theorem dig_char {v : Nat} : ((UInt8.ofNat (48 + v % 10)).toNat : Int) = 48 + ((v % 10 : Nat) : Int) := by simp; omega
theorem lit1_conv (x : UInt8) (W : World) : (convert 22 9 (.slice (some ⟨W.heap.size, 0, none⟩) 1 1)).run Tryd.prog (W.alloc (.cells #[.int .u8 (x.toNat : Int)] 5)) = .ok (.string (str [x])) (W.alloc (.cells #[.int .u8 (x.toNat : Int)] 5)) :=
  conv_own (l := [x]) Tryd.underlying22 Tryd.underlying5 (World.ownsRow_lit (base := 0) (e := 5) (size := 1) W #[.int .u8 (x.toNat : Int)] 1 (by omega) (by decide) rfl) 9 Tryd.underlying9
theorem str_add (a b : List UInt8) : str a ++ str b = str (a ++ b) := by
  unfold str
  apply ByteArray.ext
  simp [ByteArray.data_append]
set_option maxRecDepth 50000 in
set_option maxHeartbeats 6400000 in
theorem rdigits_any (n : Int) (w : World) (hn : fits n) : Calls Tryd.prog 59 #[.int .i64 n] w fun e w' => e = .returned (.string (str (Lib.itoa n))) ∧ Below w.heap.size w w' := by
  by_cases h0 : n = 0
  · subst h0
    have HV : Hid (Lib.itoa 0 = [48]) := Lib.hid (by decide +kernel)
    go_enter Tryd.func59, Tryd.ntmps59
    go_wp2_with fail
    go_ret
    exact ⟨by rw [HV.out]; rfl, Below.refl _ _⟩
  have g0 : (n == 0) = false := beq_eq_false_iff_ne.2 h0
  have hn1 := hn.1
  have hn2 := hn.2
  obtain ⟨u, hu⟩ : ∃ u, n.natAbs = u := ⟨_, rfl⟩
  have hu0 : u ≠ 0 := by omega
  have HD : Hid (Lib.decDigits u = dig0 u ++ []) := Lib.hid (by unfold dig0; rw [if_neg hu0, List.append_nil])
  have HL : Hid ((Lib.decDigits u).length ≤ 20) := Lib.hid (by rw [Lib.decDigits_length]; exact Lib.nDigits_le20 u (by omega))
  by_cases hpos : 0 < n
  · have HV : Hid (Lib.itoa n = Lib.decDigits u) := Lib.hid (by unfold Lib.itoa; rw [if_neg (by omega)]; congr 1; omega)
    have hnu : n = (u : Int) := by omega
    have hd : decide (n < 0) = false := decide_eq_false (by omega)
    have HNu := Lib.hid hnu
    clear hnu hu h0 hn hu0
    go_enter Tryd.func59, Tryd.ntmps59
    go_wp2_with fail
    go_loopw [3, 4] (fun x3 x4 wr => ∃ (v : Nat) (p : Int) (s : List UInt8), x4 = .int .i64 p ∧ x3 = .string (str s) ∧ 0 ≤ p ∧ p ≤ 9223372036854775807 ∧ Hid (p = (v : Int)) ∧ Hid (Lib.decDigits u = dig0 v ++ s) ∧ Below w.heap.size w wr) (fun _ x4 _ => (intOf x4).toNat)
    case atStart => exact ⟨u, n, [], rfl, rfl, by omega, by omega, HNu, HD, Below.refl _ _⟩
    case round =>
      obtain ⟨v, p, s, rfl, rfl, hp0, hp1, HP, HI, hb⟩ := hrel
      by_cases hp : p = 0
      · have HF : Hid (Lib.decDigits u = s) := Lib.hid (by rw [HI.out, show v = 0 by have := HP.out; omega]; rfl)
        have gp : (p != 0) = false := by rw [hp]; rfl
        clear hp
        go_wp2_with fail
        go_ret
        exact ⟨by rw [HV.out, HF.out]; rfl, hb⟩
      · have gp : (p != 0) = true := bne_iff_ne.2 hp
        obtain ⟨x, hx⟩ : ∃ x, UInt8.ofNat (48 + v % 10) = x := ⟨_, rfl⟩
        have hxc : (x.toNat : Int) = 48 + p % 10 := by rw [← hx, dig_char]; have := HP.out; omega
        have HS : Hid (Lib.decDigits u = dig0 (v / 10) ++ (x :: s)) := Lib.hid (by
          rw [HI.out, dig0_step (by have := HP.out; omega), hx, List.append_assoc]; rfl)
        have hsl : s.length ≤ 20 := by have := HL.out; rw [HI.out, List.length_append] at this; omega
        have hz : (str s).size = s.length := str_size s
        have hz1 : (str [x]).size = 1 := rfl
        have hcv := lit1_conv x wr
        rw [hxc] at hcv
        have hadd : ∀ W : World, (Op.stringOp .add (str [x]) (str s)).run Tryd.prog W = .ok (.string (str (x :: s))) W := fun W => by
          have h := run_string_add_sum (P := Tryd.prog) W (str [x]) (str s) (by rw [hz1, hz]; omega)
          rw [str_add] at h; exact h
        have hms : Hid ((p / 10).toNat < p.toNat) := Lib.hid (by omega)
        clear hx hp
        go_wp2_with fail
        -- MARK1
        exact ⟨⟨v / 10, p / 10, x :: s, rfl, rfl, by omega, by omega, Lib.hid (by have := HP.out; omega), HS, hb.alloc hb.size _⟩, by simp only [intOf]; exact hms.out⟩
  · have HV : Hid (Lib.itoa n = 45 :: Lib.decDigits u) := Lib.hid (by unfold Lib.itoa; rw [if_pos (by omega), hu])
    have hnu : n = -(u : Int) := by omega
    have hd : decide (n < 0) = true := decide_eq_true (by omega)
    have HNu := Lib.hid hnu
    have hnn : n ≤ 0 := by omega
    clear hnu hu h0 hn hu0 hpos
    go_enter Tryd.func59, Tryd.ntmps59
    go_wp2_with fail
    go_loopw [3, 4] (fun x3 x4 wr => ∃ (v : Nat) (p : Int) (s : List UInt8), x4 = .int .i64 p ∧ x3 = .string (str s) ∧ -9223372036854775808 ≤ p ∧ p ≤ 0 ∧ Hid (p = -(v : Int)) ∧ Hid (Lib.decDigits u = dig0 v ++ s) ∧ Below w.heap.size w wr) (fun _ x4 _ => (-(intOf x4)).toNat)
    case atStart => exact ⟨u, n, [], rfl, rfl, by omega, by omega, HNu, HD, Below.refl _ _⟩
    case round =>
      obtain ⟨v, p, s, rfl, rfl, hp0, hp1, HP, HI, hb⟩ := hrel
      by_cases hp : p = 0
      · have HF : Hid (Lib.decDigits u = s) := Lib.hid (by rw [HI.out, show v = 0 by have := HP.out; omega]; rfl)
        have gp : (p != 0) = false := by rw [hp]; rfl
        have hsl : s.length ≤ 20 := by rw [← HF.out]; exact HL.out
        have hz : (str s).size = s.length := str_size s
        have hadd : ∀ W : World, (Op.stringOp .add ⟨#[45]⟩ (str s)).run Tryd.prog W = .ok (.string (str (45 :: s))) W := fun W => by
          have h := run_string_add_sum (P := Tryd.prog) W (str [45]) (str s) (by rw [hz]; show 1 + s.length ≤ _; omega)
          rw [str_add] at h; exact h
        clear hp
        go_wp2_with fail
        -- MARK2
        go_ret
        exact ⟨by rw [HV.out, HF.out]; rfl, hb⟩
      · have gp : (p != 0) = true := bne_iff_ne.2 hp
        obtain ⟨x, hx⟩ : ∃ x, UInt8.ofNat (48 + v % 10) = x := ⟨_, rfl⟩
        obtain ⟨d, hdd⟩ : ∃ d, p.tmod 10 = d := ⟨_, rfl⟩
        obtain ⟨p', hpp⟩ : ∃ p', p.tdiv 10 = p' := ⟨_, rfl⟩
        have hv := HP.out
        have hd1 : d = -((v % 10 : Nat) : Int) := by rw [← hdd, hv, Int.neg_tmod]; congr 1
        have hp2 : p' = -((v / 10 : Nat) : Int) := by rw [← hpp, hv, Int.neg_tdiv]; congr 1
        have hxc : (x.toNat : Int) = 48 + -d := by rw [← hx, dig_char]; omega
        have hxc2 : (x.toNat : Int) = 48 - d := by rw [hxc]; omega
        have HS : Hid (Lib.decDigits u = dig0 (v / 10) ++ (x :: s)) := Lib.hid (by
          rw [HI.out, dig0_step (by omega), hx, List.append_assoc]; rfl)
        have hsl : s.length ≤ 20 := by have := HL.out; rw [HI.out, List.length_append] at this; omega
        have hz : (str s).size = s.length := str_size s
        have hz1 : (str [x]).size = 1 := rfl
        have hcv := lit1_conv x wr
        have hadd : ∀ W : World, (Op.stringOp .add (str [x]) (str s)).run Tryd.prog W = .ok (.string (str (x :: s))) W := fun W => by
          have h := run_string_add_sum (P := Tryd.prog) W (str [x]) (str s) (by rw [hz1, hz]; omega)
          rw [str_add] at h; exact h
        have hP2 := Lib.hid hp2
        have hb9 : -9 ≤ d := by omega
        have hb0 : d ≤ 0 := by omega
        have hp'0 : -922337203685477580 ≤ p' := by omega
        have hp'1 : p' ≤ 0 := by omega
        have hp'2 : Hid ((-p').toNat < (-p).toNat) := Lib.hid (by omega)
        by_cases hdz : d < 0
        · have gd : decide (d < 0) = true := decide_eq_true hdz
          rw [hxc] at hcv
          clear hx hp hv hd1 hp2 hxc hxc2
          go_wp2_with fail
          -- MARK3
          exact ⟨⟨v / 10, p', x :: s, rfl, rfl, by omega, by omega, hP2, HS, hb.alloc hb.size _⟩, by simp only [intOf]; exact hp'2.out⟩
        · have gd : decide (d < 0) = false := decide_eq_false hdz
          have hxc3 : (x.toNat : Int) = 48 + d := by rw [hxc]; omega
          rw [hxc3] at hcv
          clear hx hp hv hd1 hp2 hxc hxc2 hxc3
          go_wp2_with fail
          -- MARK4
          exact ⟨⟨v / 10, p', x :: s, rfl, rfl, by omega, by omega, hP2, HS, hb.alloc hb.size _⟩, by simp only [intOf]; exact hp'2.out⟩
end Go.Proofs.YtlpbhncdkhppkaaDoor
