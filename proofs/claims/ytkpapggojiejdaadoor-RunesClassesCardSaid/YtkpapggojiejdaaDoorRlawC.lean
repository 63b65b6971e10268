/- The law RunesClasses, walked. -/
import Derived.Test.YtkpapggojiejdaaDoorRawake
namespace Go.Proofs.YtkpapggojiejdaaDoor
open Go.RowKit Go.PlainAid

/-- The sets of the law. -/
def lawS : List (List UInt8) := [[], [9, 10, 13, 32], [40, 91], [93, 41], [39], [35], [59], [48, 49, 50, 51, 52, 53, 54, 55, 56, 57], [45, 43], [97, 98, 99, 100, 101, 102, 103, 104, 105, 106, 107, 108, 109, 110, 111, 112, 113, 114, 115, 116, 117, 118, 119, 120, 121, 122, 65, 66, 67, 68, 69, 70, 71, 72, 73, 74, 75, 76, 77, 78, 79, 80, 81, 82, 83, 84, 85, 86, 87, 88, 89, 90, 33, 36, 37, 38, 42, 47, 58, 60, 61, 62, 63, 94, 95, 126, 46, 64]]
def sL (k : Nat) : List UInt8 := lawS.getD k []
def hasB (l : List UInt8) (r : Int) : Bool := l.any fun c => ub c == r
theorem cls_law : ∀ n : Fin 161, ∀ k : Fin 10, 1 ≤ k.val → hasB (sL k.val) (n.val : Int) = (clsS (n.val : Int) == (k.val : Int)) := by decide +kernel
theorem cls_bd : ∀ n : Fin 161, 1 ≤ clsS (n.val : Int) ∧ clsS (n.val : Int) ≤ 10 := by decide +kernel
theorem sL_len : ∀ k : Fin 10, (sL k.val).length ≤ 100 := by decide +kernel
theorem cls_at {r : Int} (h0 : 0 ≤ r) (h1 : r < 161) (k : Nat) (h2 : 1 ≤ k) (h3 : k < 10) : hasB (sL k) r = (clsS r == (k : Int)) := by
  have := cls_law ⟨r.toNat, by omega⟩ ⟨k, h3⟩ h2
  simp only [Int.toNat_of_nonneg h0] at this; exact this
theorem cls_in {r : Int} (h0 : 0 ≤ r) (h1 : r < 161) : 1 ≤ clsS r ∧ clsS r ≤ 10 := by
  have := cls_bd ⟨r.toNat, by omega⟩
  simp only [Int.toNat_of_nonneg h0] at this; exact this
theorem hasB_take {l : List UInt8} {i : Nat} {c : UInt8} (h : l[i]? = some c) (r : Int) : hasB (l.take (i + 1)) r = (hasB (l.take i) r || (ub c == r)) := by
  rw [List.take_add_one, h]; simp [hasB, List.any_append]

set_option maxRecDepth 100000 in
set_option maxHeartbeats 3200000 in
theorem lawC_any (r : Int) (w : World) (T : Tabs w) : Calls Tryd.prog 8 #[.int .i32 r] w fun e w' => e = .returned (.bool true) ∧ Below w.heap.size w w' := by
  have CA : Hid (∀ W, Below w.heap.size w W → Calls Tryd.prog 10 #[] W fun e w' => e = .returned (.bool true) ∧ Below W.heap.size W w') := Lib.hid fun W hb => awake_any W (T.below hb)
  obtain ⟨c, hc⟩ : ∃ c, clsS r = c := ⟨_, rfl⟩
  obtain ⟨f, hf⟩ : ∃ f : Int, (if isR r then (0 : Int) else 7) = f := ⟨_, rfl⟩
  have CC : Hid (Calls Tryd.prog 15 #[.int .i32 r] w fun e w' => e = .returned (.tuple #[.int .i64 c, .int .i64 f]) ∧ w = w') := Lib.hid (by
    have := class_any r w T.members
    unfold clsV at this; rw [hc, hf] at this; exact this)
  have CE : Hid (Calls Tryd.prog 13 #[.int .i32 r] w fun e w' => ∃ a n k, e = .returned (.tuple #[.slice a n k, .int .i64 f]) ∧ Below w.heap.size w w') := Lib.hid (by
    refine (encode_any r w T.marks T.hm).mono ?_
    rintro e w' ⟨v, h1, h2, h3⟩
    obtain ⟨a, k, rfl⟩ := (RowAt.own h2).slice
    rw [hf] at h1
    exact ⟨_, _, _, h1, h3⟩)
  clear T
  cases hir : isR r
  · rw [hir] at hf
    have hf7 : f = 7 := by rw [← hf]; rfl
    have hc0 : c = 0 := by rw [← hc]; unfold clsS; rw [if_pos hir]
    subst hf7 hc0
    clear hf hc hir
    go_enter Tryd.func8, Tryd.ntmps8
    go_wp2_with (first | (go_at_call 15; refine CC.out.mono ?_; rintro e w1 ⟨rfl, rfl⟩) | (go_at_call 13; refine CE.out.mono ?_; rintro e w1 ⟨a, n, k, rfl, hb1⟩) | (go_at_call 10; refine (CA.out _ hb1).mono ?_; rintro e w2 ⟨rfl, hb2⟩))
    go_ret
    exact ⟨rfl, hb1.trans (hb2.mono hb1.size)⟩
  · rw [hir, if_pos rfl] at hf
    have hr := isR_iff.1 hir
    have hr0 : 0 ≤ r := hr.1
    clear hr
    subst hf
    by_cases h9 : 161 ≤ r
    · have hc0 : c = 9 := by rw [← hc]; unfold clsS; rw [hir, if_neg (by simp), if_pos h9]
      subst hc0
      clear hc hir
      go_enter Tryd.func8, Tryd.ntmps8
      go_wp2_with (first | (go_at_call 15; refine CC.out.mono ?_; rintro e w1 ⟨rfl, rfl⟩) | (go_at_call 13; refine CE.out.mono ?_; rintro e w1 ⟨a, n, k, rfl, hb1⟩) | (go_at_call 10; refine (CA.out _ hb1).mono ?_; rintro e w2 ⟨rfl, hb2⟩))
      go_ret
      exact ⟨rfl, hb1.trans (hb2.mono hb1.size)⟩
    · have h9' : r < 161 := by omega
      have hcb := cls_in hr0 h9'
      rw [hc] at hcb
      obtain ⟨hcb1, hcb2⟩ := hcb
      have HK : Hid (∀ k : Nat, 1 ≤ k → k < 10 → hasB (sL k) r = (c == (k : Int))) := Lib.hid fun k h2 h3 => by rw [← hc]; exact cls_at hr0 h9' k h2 h3
      clear hc hir h9
      go_enter Tryd.func8, Tryd.ntmps8
      go_wp2_with (first | (go_at_call 15; refine CC.out.mono ?_; rintro e w1 ⟨rfl, rfl⟩) | (go_at_call 13; refine CE.out.mono ?_; rintro e w1 ⟨a, n, k, rfl, hb1⟩) | (go_at_call 10; refine (CA.out _ hb1).mono ?_; rintro e w2 ⟨rfl, hb2⟩))
      obtain ⟨W1, hW1⟩ : ∃ W1, W1 = w1.alloc (.cells (lawS.map fun l => Value.string (str l)).toArray 50) := ⟨_, rfl⟩
      have hcell : Hid (∀ j : Nat, j < 10 → W1.cell? ⟨w1.heap.size, j, none⟩ = some (.string (str (sL j)))) := Lib.hid (by
        intro j hj
        rw [hW1, World.cell?_alloc_new, List.getElem?_toArray, List.getElem?_map]
        unfold sL
        rw [List.getD_eq_getElem?_getD, List.getElem?_eq_getElem (show j < lawS.length from hj)]; rfl)
      have hbW : Hid (Below w.heap.size w W1) := Lib.hid (by rw [hW1]; exact hb1.alloc hb1.size _)
      have hsub : w1.alloc (.cells #[.string ⟨#[]⟩, .string ⟨#[9, 10, 13, 32]⟩, .string ⟨#[40, 91]⟩, .string ⟨#[93, 41]⟩, .string ⟨#[39]⟩, .string ⟨#[35]⟩, .string ⟨#[59]⟩, .string ⟨#[48, 49, 50, 51, 52, 53, 54, 55, 56, 57]⟩, .string ⟨#[45, 43]⟩, .string ⟨#[97, 98, 99, 100, 101, 102, 103, 104, 105, 106, 107, 108, 109, 110, 111, 112, 113, 114, 115, 116, 117, 118, 119, 120, 121, 122, 65, 66, 67, 68, 69, 70, 71, 72, 73, 74, 75, 76, 77, 78, 79, 80, 81, 82, 83, 84, 85, 86, 87, 88, 89, 90, 33, 36, 37, 38, 42, 47, 58, 60, 61, 62, 63, 94, 95, 126, 46, 64]⟩] 50) = W1 := by rw [hW1]; rfl
      rw [hsub]
      clear hsub hW1
      go_loop [8] (fun x8 => ∃ q : Nat, 1 ≤ q ∧ q ≤ 10 ∧ x8 = .int .i64 q) (fun x8 => 10 - (intOf x8).toNat)
      case atStart => exact ⟨1, by omega, by omega, rfl⟩
      case round =>
        obtain ⟨q, hq1, hq2, rfl⟩ := hrel
        by_cases hlt : q < 10
        · have hcq := hcell.out q hlt
          obtain ⟨S, hS⟩ : ∃ S, sL q = S := ⟨_, rfl⟩
          rw [hS] at hcq
          have HS : Hid (hasB S r = (c == (q : Int))) := Lib.hid (by rw [← hS]; exact HK.out q hq1 hlt)
          have hSl : S.length ≤ 100 := by rw [← hS]; exact sL_len ⟨q, hlt⟩
          have hSz : (str S).size = S.length := str_size S
          have hgb := get_bt (str S)
          obtain ⟨t, ht⟩ : ∃ t, t = str S := ⟨_, rfl⟩
          rw [← ht] at hcq hSz hgb
          have HB : Hid (∀ j c, S[j]? = some c → bt t j = ub c) := Lib.hid (by
            intro j c hj
            obtain ⟨h1, h2⟩ := List.getElem?_eq_some_iff.1 hj
            rw [ht, bt_str S j h1, h2]; rfl)
          have htl : t.size ≤ 100 := by omega
          have HZ := Lib.hid hSz
          clear hS ht hSz hSl
          go_wp2
          go_loop [9, 10] (fun x9 x10 => ∃ i : Nat, i ≤ t.size ∧ x10 = .int .i64 i ∧ x9 = .bool (hasB (S.take i) r)) (fun _ x10 => t.size - (intOf x10).toNat)
          case atStart => exact ⟨0, Nat.zero_le _, rfl, rfl⟩
          case round =>
            obtain ⟨i, hi, rfl, rfl⟩ := hrel
            by_cases hil : i < t.size
            · obtain ⟨d, hd⟩ : ∃ d, S[i]? = some d := ⟨_, List.getElem?_eq_getElem (by rw [← HZ.out]; exact hil)⟩
              have hbd := HB.out i d hd
              have HT : Hid (hasB (S.take (i + 1)) r = (hasB (S.take i) r || (bt t i == r))) := Lib.hid (by rw [hbd]; exact hasB_take hd r)
              obtain ⟨hb0, hb9⟩ : 0 ≤ bt t i ∧ bt t i < 256 := by rw [hbd]; exact ub_bd d
              clear hd hbd
              cases hx : hasB (S.take i) r
              · rw [hx, Bool.false_or] at HT
                clear hx
                go_wp2
                go_round
                case rel => exact ⟨i + 1, by omega, by go_num, ret_bv HT.out.symm⟩
                case measure => simp [intOf]; omega
              · rw [hx, Bool.true_or] at HT
                clear hx
                go_wp2
                go_round
                case rel => exact ⟨i + 1, by omega, by go_num, ret_bv HT.out.symm⟩
                case measure => simp [intOf]; omega
            · obtain rfl : i = t.size := by omega
              have HF : Hid (hasB (S.take t.size) r = (c == (q : Int))) := Lib.hid (by rw [HZ.out, List.take_length]; exact HS.out)
              rw [HF.out]
              cases hx : (c == (q : Int))
              · go_wp2
                go_round
                case rel => exact ⟨q + 1, by omega, by omega, by go_num⟩
                case measure => simp [intOf]; omega
              · go_wp2
                go_round
                case rel => exact ⟨q + 1, by omega, by omega, by go_num⟩
                case measure => simp [intOf]; omega
        · obtain rfl : q = 10 := by omega
          go_wp2_with (go_at_call 10; refine (CA.out _ hbW.out).mono ?_; rintro e w2 ⟨rfl, hb2⟩)
          go_ret
          exact ⟨rfl, hbW.out.trans (hb2.mono hbW.out.size)⟩
end Go.Proofs.YtkpapggojiejdaaDoor
