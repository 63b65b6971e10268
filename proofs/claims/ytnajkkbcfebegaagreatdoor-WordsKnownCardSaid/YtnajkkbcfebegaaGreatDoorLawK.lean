/- The law WordsKnown, walked. -/
import Derived.Test.YtnajkkbcfebegaaGreatDoorLaw1
import Derived.Test.YtnajkkbcfebegaaGreatDoorPlF
namespace Go.Proofs.YtnajkkbcfebegaaGreatDoor
open Go.RowKit Go.PlainAid

theorem itoa_ten : (Lib.itoa 1000000000).length = 10 := by
  unfold Lib.itoa
  rw [if_neg (by omega)]
  have h : ∀ n : Nat, 10 ≤ n → (Lib.decDigits n).length = (Lib.decDigits (n / 10)).length + 1 := fun n hn => by
    rw [Lib.decDigits, dif_neg (by omega)]; simp
  have h1 : ∀ n : Nat, n < 10 → (Lib.decDigits n).length = 1 := fun n hn => by rw [Lib.decDigits_one hn]; rfl
  show (Lib.decDigits 1000000000).length = 10
  rw [h _ (by omega), h _ (by omega), h _ (by omega), h _ (by omega), h _ (by omega), h _ (by omega), h _ (by omega), h _ (by omega), h _ (by omega), h1 _ (by omega)]
theorem parse_ex1 : parseV [49, 45, 51, 44, 52] = ([], 6) := parse_form (by decide) (by decide)
theorem parse_ex2 : parseV [51, 45, 51] = ([], 6) := parse_form (by decide) (by decide)
theorem parse_ex3 : parseV [50, 44, 49] = ([], 6) := parse_form (by decide) (by decide)
theorem parse_ex4 : parseV [48, 45, 54, 48, 48] = ([], 3) := parse_long (rs := [([48], [54, 48, 48])]) (by decide) (by decide) (by
  unfold lessL; rw [itoa_ten]; decide) (by decide)

set_option maxRecDepth 100000 in
set_option maxHeartbeats 6400000 in
theorem known_any (w : World) (T : Ties w) (hm : MaxIs w) (hrl : 2 < w.heap.size) :
    Calls Tryz.prog 5 #[] w fun e w' => e = .returned (.bool true) ∧ Below w.heap.size w w' := by
  have CS : Hid (∀ w', Below w.heap.size w w' → Calls Tryz.prog 6 #[] w' fun e w'' => e = .returned (.bool true) ∧ Below w'.heap.size w' w'') := Lib.hid fun w' hb => shown_any w' (T w' hb) (T.below hb)
  have C1 : Hid (∀ w', Below w.heap.size w w' → Calls Tryz.prog 18 #[.string ⟨#[48, 48, 55]⟩, .int .i64 0, .int .i64 10] w' fun e w'' => e = .returned (.tuple #[.int .i64 0, .int .i64 6]) ∧ Below w'.heap.size w' w'') := Lib.hid fun w' hb => by
    refine (int_any ⟨#[48, 48, 55]⟩ 0 10 w' (by decide) (T w' hb).rng).mono ?_
    rintro e w'' ⟨h1, h2⟩
    exact ⟨by rw [h1]; exact congrArg (fun x : Int × Int => Ending.returned (.tuple #[.int .i64 x.1, .int .i64 x.2])) (show intS [48, 48, 55] 0 10 = (0, 6) by decide), h2⟩
  have C2 : Hid (∀ w', Below w.heap.size w w' → Calls Tryz.prog 18 #[.string ⟨#[45, 48]⟩, .int .i64 0, .int .i64 10] w' fun e w'' => e = .returned (.tuple #[.int .i64 0, .int .i64 6]) ∧ Below w'.heap.size w' w'') := Lib.hid fun w' hb => by
    refine (int_any ⟨#[45, 48]⟩ 0 10 w' (by decide) (T w' hb).rng).mono ?_
    rintro e w'' ⟨h1, h2⟩
    exact ⟨by rw [h1]; exact congrArg (fun x : Int × Int => Ending.returned (.tuple #[.int .i64 x.1, .int .i64 x.2])) (show intS [45, 48] 0 10 = (0, 6) by decide), h2⟩
  have C3 : Hid (∀ w', Below w.heap.size w w' → Calls Tryz.prog 18 #[.string ⟨#[49, 50]⟩, .int .i64 0, .int .i64 10] w' fun e w'' => e = .returned (.tuple #[.int .i64 0, .int .i64 7]) ∧ Below w'.heap.size w' w'') := Lib.hid fun w' hb => by
    refine (int_any ⟨#[49, 50]⟩ 0 10 w' (by decide) (T w' hb).rng).mono ?_
    rintro e w'' ⟨h1, h2⟩
    exact ⟨by rw [h1]; exact congrArg (fun x : Int × Int => Ending.returned (.tuple #[.int .i64 x.1, .int .i64 x.2])) (show intS [49, 50] 0 10 = (0, 7) by decide), h2⟩
  have C4 : Hid (∀ w', Below w.heap.size w w' → Calls Tryz.prog 16 #[.string ⟨#[34, 92, 120, 52, 49, 34]⟩] w' fun e w'' => e = .returned (.tuple #[.string ⟨#[]⟩, .int .i64 6]) ∧ Below w'.heap.size w' w'') := Lib.hid fun w' hb => by
    refine (unquote_any ⟨#[34, 92, 120, 52, 49, 34]⟩ w' (by decide) (T w' hb).esc (Nat.lt_of_le_of_lt (Nat.zero_le _) (T w' hb).he)).mono ?_
    rintro e w'' ⟨h1, h2⟩
    rw [show unqS ⟨#[34, 92, 120, 52, 49, 34]⟩ = none by decide] at h1
    exact ⟨h1, h2⟩
  have C5 : Hid (∀ w', Below w.heap.size w w' → Calls Tryz.prog 16 #[.string ⟨#[34, 92, 120, 55, 70, 34]⟩] w' fun e w'' => e = .returned (.tuple #[.string ⟨#[]⟩, .int .i64 6]) ∧ Below w'.heap.size w' w'') := Lib.hid fun w' hb => by
    refine (unquote_any ⟨#[34, 92, 120, 55, 70, 34]⟩ w' (by decide) (T w' hb).esc (Nat.lt_of_le_of_lt (Nat.zero_le _) (T w' hb).he)).mono ?_
    rintro e w'' ⟨h1, h2⟩
    rw [show unqS ⟨#[34, 92, 120, 55, 70, 34]⟩ = none by decide] at h1
    exact ⟨h1, h2⟩
  have C6 : Hid (∀ w', Below w.heap.size w w' → Calls Tryz.prog 16 #[.string ⟨#[34, 97]⟩] w' fun e w'' => e = .returned (.tuple #[.string ⟨#[]⟩, .int .i64 6]) ∧ Below w'.heap.size w' w'') := Lib.hid fun w' hb => by
    refine (unquote_any ⟨#[34, 97]⟩ w' (by decide) (T w' hb).esc (Nat.lt_of_le_of_lt (Nat.zero_le _) (T w' hb).he)).mono ?_
    rintro e w'' ⟨h1, h2⟩
    rw [show unqS ⟨#[34, 97]⟩ = none by decide] at h1
    exact ⟨h1, h2⟩
  have C7 : Hid (∀ w', Below w.heap.size w w' → Calls Tryz.prog 13 #[.string ⟨#[97, 32, 32, 98]⟩] w' fun e w'' => (∃ a c, e = .returned (.tuple #[.slice a 0 c, .int .i64 6])) ∧ Below w'.heap.size w' w'') := Lib.hid fun w' hb => by
    refine (split_any ⟨#[97, 32, 32, 98]⟩ w' (T w' hb).esc (T w' hb).he).mono ?_
    rintro e w'' ⟨v, h1, h2, h3⟩
    rw [show splitS (⟨#[97, 32, 32, 98]⟩ : ByteArray).data.toList = ([], 6) by decide] at h1 h2
    obtain ⟨a, c, rfl⟩ := own_lenP h2
    exact ⟨⟨a, c, h1⟩, h3⟩
  have C8 : Hid (∀ w', Below w.heap.size w w' → Calls Tryz.prog 13 #[.string ⟨#[]⟩] w' fun e w'' => (∃ a c, e = .returned (.tuple #[.slice a 0 c, .int .i64 0])) ∧ Below w'.heap.size w' w'') := Lib.hid fun w' hb => by
    refine (split_any ⟨#[]⟩ w' (T w' hb).esc (T w' hb).he).mono ?_
    rintro e w'' ⟨v, h1, h2, h3⟩
    rw [show splitS (⟨#[]⟩ : ByteArray).data.toList = ([], 0) by decide] at h1 h2
    obtain ⟨a, c, rfl⟩ := own_lenP h2
    exact ⟨⟨a, c, h1⟩, h3⟩
  have C9 : Hid (∀ w', Below w.heap.size w w' → Calls Tryz.prog 7 #[.slice none 0 0] w' fun e w'' => e = .returned (.tuple #[.string ⟨#[45]⟩, .int .i64 0]) ∧ Below w'.heap.size w' w'') := Lib.hid fun w' hb =>
    list_any _ [] w' (.inl ⟨rfl, rfl⟩) (by decide) (fun n hn => by cases hn) (T w' hb).pow (T w' hb).hp
  have C10 : Hid (∀ w', Below w.heap.size w w' → Calls Tryz.prog 9 #[.string ⟨#[49, 45, 51, 44, 52]⟩] w' fun e w'' => (∃ v, e = .returned (.tuple #[v, .int .i64 6])) ∧ Below w'.heap.size w' w'') := Lib.hid fun w' hb => by
    refine (parse_any [49, 45, 51, 44, 52] w' (by decide) (hm.below hb) (T w' hb).rng (Nat.lt_of_lt_of_le hrl hb.size) (T w' hb).pow (T w' hb).hp).mono ?_
    rintro e w'' ⟨v, h1, h2, h3⟩
    rw [parse_ex1] at h1
    exact ⟨⟨v, h1⟩, h3⟩
  have C11 : Hid (∀ w', Below w.heap.size w w' → Calls Tryz.prog 9 #[.string ⟨#[51, 45, 51]⟩] w' fun e w'' => (∃ v, e = .returned (.tuple #[v, .int .i64 6])) ∧ Below w'.heap.size w' w'') := Lib.hid fun w' hb => by
    refine (parse_any [51, 45, 51] w' (by decide) (hm.below hb) (T w' hb).rng (Nat.lt_of_lt_of_le hrl hb.size) (T w' hb).pow (T w' hb).hp).mono ?_
    rintro e w'' ⟨v, h1, h2, h3⟩
    rw [parse_ex2] at h1
    exact ⟨⟨v, h1⟩, h3⟩
  have C12 : Hid (∀ w', Below w.heap.size w w' → Calls Tryz.prog 9 #[.string ⟨#[50, 44, 49]⟩] w' fun e w'' => (∃ v, e = .returned (.tuple #[v, .int .i64 6])) ∧ Below w'.heap.size w' w'') := Lib.hid fun w' hb => by
    refine (parse_any [50, 44, 49] w' (by decide) (hm.below hb) (T w' hb).rng (Nat.lt_of_lt_of_le hrl hb.size) (T w' hb).pow (T w' hb).hp).mono ?_
    rintro e w'' ⟨v, h1, h2, h3⟩
    rw [parse_ex3] at h1
    exact ⟨⟨v, h1⟩, h3⟩
  have C13 : Hid (∀ w', Below w.heap.size w w' → Calls Tryz.prog 9 #[.string ⟨#[48, 45, 54, 48, 48]⟩] w' fun e w'' => (∃ v, e = .returned (.tuple #[v, .int .i64 3])) ∧ Below w'.heap.size w' w'') := Lib.hid fun w' hb => by
    refine (parse_any [48, 45, 54, 48, 48] w' (by decide) (hm.below hb) (T w' hb).rng (Nat.lt_of_lt_of_le hrl hb.size) (T w' hb).pow (T w' hb).hp).mono ?_
    rintro e w'' ⟨v, h1, h2, h3⟩
    rw [parse_ex4] at h1
    exact ⟨⟨v, h1⟩, h3⟩
  have C14 : Hid (∀ w', Calls Tryz.prog 20 #[.string ⟨#[87, 101, 98]⟩] w' fun e w'' => e = .returned (.bool false) ∧ w' = w'') := Lib.hid fun w' => by
    refine (name_any ⟨#[87, 101, 98]⟩ w' (by decide)).mono ?_
    rintro e w'' ⟨h1, h2⟩
    rw [show nameB ⟨#[87, 101, 98]⟩ = false by decide] at h1
    exact ⟨h1, h2⟩
  have C15 : Hid (∀ w', Calls Tryz.prog 20 #[.string ⟨#[97, 97, 97, 97, 97, 97, 97, 97, 97, 97, 97, 97, 97, 97, 97, 97, 97]⟩] w' fun e w'' => e = .returned (.bool false) ∧ w' = w'') := Lib.hid fun w' => by
    refine (name_any ⟨#[97, 97, 97, 97, 97, 97, 97, 97, 97, 97, 97, 97, 97, 97, 97, 97, 97]⟩ w' (by decide)).mono ?_
    rintro e w'' ⟨h1, h2⟩
    rw [show nameB ⟨#[97, 97, 97, 97, 97, 97, 97, 97, 97, 97, 97, 97, 97, 97, 97, 97, 97]⟩ = false by decide] at h1
    exact ⟨h1, h2⟩
  clear T hm
  have hB0 := Below.refl w.heap.size w
  go_enter Tryz.func5, Tryz.ntmps5
  go_wp2_with fail
  refine (C1.out _ hB0).mono ?_
  rintro e w1 ⟨rfl, hb1⟩
  have hB1 := hB0.trans (hb1.mono hB0.size)
  go_wp2_with fail
  refine (C2.out _ hB1).mono ?_
  rintro e w2 ⟨rfl, hb2⟩
  have hB2 := hB1.trans (hb2.mono hB1.size)
  go_wp2_with fail
  refine (C3.out _ hB2).mono ?_
  rintro e w3 ⟨rfl, hb3⟩
  have hB3 := hB2.trans (hb3.mono hB2.size)
  go_wp2_with fail
  refine (C4.out _ hB3).mono ?_
  rintro e w4 ⟨rfl, hb4⟩
  have hB4 := hB3.trans (hb4.mono hB3.size)
  go_wp2_with fail
  refine (C5.out _ hB4).mono ?_
  rintro e w5 ⟨rfl, hb5⟩
  have hB5 := hB4.trans (hb5.mono hB4.size)
  go_wp2_with fail
  refine (C6.out _ hB5).mono ?_
  rintro e w6 ⟨rfl, hb6⟩
  have hB6 := hB5.trans (hb6.mono hB5.size)
  go_wp2_with fail
  refine (C7.out _ hB6).mono ?_
  rintro e w7 ⟨⟨a7, c7, rfl⟩, hb7⟩
  have hB7 := hB6.trans (hb7.mono hB6.size)
  go_wp2_with fail
  refine (C8.out _ hB7).mono ?_
  rintro e w8 ⟨⟨a8, c8, rfl⟩, hb8⟩
  have hB8 := hB7.trans (hb8.mono hB7.size)
  go_wp2_with fail
  refine (C9.out _ hB8).mono ?_
  rintro e w9 ⟨rfl, hb9⟩
  have hB9 := hB8.trans (hb9.mono hB8.size)
  go_wp2_with fail
  refine (C10.out _ hB9).mono ?_
  rintro e w10 ⟨⟨v10, rfl⟩, hb10⟩
  have hB10 := hB9.trans (hb10.mono hB9.size)
  go_wp2_with fail
  refine (C11.out _ hB10).mono ?_
  rintro e w11 ⟨⟨v11, rfl⟩, hb11⟩
  have hB11 := hB10.trans (hb11.mono hB10.size)
  go_wp2_with fail
  refine (C12.out _ hB11).mono ?_
  rintro e w12 ⟨⟨v12, rfl⟩, hb12⟩
  have hB12 := hB11.trans (hb12.mono hB11.size)
  go_wp2_with fail
  refine (C13.out _ hB12).mono ?_
  rintro e w13 ⟨⟨v13, rfl⟩, hb13⟩
  have hB13 := hB12.trans (hb13.mono hB12.size)
  -- MARK1
  go_wp2_with fail
  refine (C14.out _).mono ?_
  rintro e x1 ⟨rfl, rfl⟩
  go_wp2_with fail
  refine (C15.out _).mono ?_
  rintro e x2 ⟨rfl, rfl⟩
  go_wp2_with fail
  refine (CS.out _ hB13).mono ?_
  rintro e w9 ⟨rfl, hb9⟩
  go_wp2_with fail
  go_ret
  exact ⟨rfl, hB13.trans (hb9.mono hB13.size)⟩
end Go.Proofs.YtnajkkbcfebegaaGreatDoor
