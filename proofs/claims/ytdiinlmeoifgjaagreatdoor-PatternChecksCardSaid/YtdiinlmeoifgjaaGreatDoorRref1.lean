/- The reference's Encode, number, stands. -/
import Derived.Test.YtdiinlmeoifgjaaGreatDoorRrs
namespace Go.Proofs.YtdiinlmeoifgjaaGreatDoor
open Go.RowKit Go.PlainAid

set_option maxHeartbeats 1600000 in
theorem rencode_no (r : Int) (w : World) (h : isR r = false) : Calls Tryz.prog 73 #[.int .i32 r] w (EncV r w) := by
  have C : Hid (∀ w, Calls Tryz.prog 60 #[.int .i32 r] w fun e w' => e = .returned (.bool false) ∧ w = w') := Lib.hid (by
    intro w; have := is_any r w; rw [h] at this; exact this)
  have H := Lib.hid h
  clear h
  go_enter Tryz.func73, Tryz.ntmps73
  go_wp2_with (go_at_call 60; refine (C.out _).mono ?_; rintro e w' ⟨rfl, rfl⟩)
  go_ret2
  exact ⟨_, by rw [H.out]; rfl, by rw [enc_0 H.out]; exact ⟨rfl, .inl ⟨rfl, rfl⟩⟩, Below.refl _ _⟩
set_option maxHeartbeats 1600000 in
theorem rencode_1 (r : Int) (w : World) (hr : isR r = true) (h0 : 0 ≤ r) (h1 : r < 128) : Calls Tryz.prog 73 #[.int .i32 r] w (EncV r w) := by
  have C : Hid (∀ w, Calls Tryz.prog 60 #[.int .i32 r] w fun e w' => e = .returned (.bool true) ∧ w = w') := Lib.hid (by
    intro w; have := is_any r w; rw [hr] at this; exact this)
  have HR := Lib.hid hr
  clear hr
  go_enter Tryz.func73, Tryz.ntmps73
  go_wp2_with (go_at_call 60; refine (C.out _).mono ?_; rintro e w' ⟨rfl, rfl⟩)
  go_ret2
  have hr := HR.out
  refine enc_new r w _ 1 hr ?_ (wO_1 h0 h1).symm
  rw [enc_1 h0 h1]
  refine congrArg List.toArray ?_
  refine List.cons_eq_cons.2 ⟨bc_u8 (by omega) (by omega), ?_⟩
  rfl
set_option maxHeartbeats 1600000 in
theorem rencode_2 (r : Int) (w : World) (hr : isR r = true) (h0 : 128 ≤ r) (h1 : r < 2048) : Calls Tryz.prog 73 #[.int .i32 r] w (EncV r w) := by
  have C : Hid (∀ w, Calls Tryz.prog 60 #[.int .i32 r] w fun e w' => e = .returned (.bool true) ∧ w = w') := Lib.hid (by
    intro w; have := is_any r w; rw [hr] at this; exact this)
  have HR := Lib.hid hr
  clear hr
  go_enter Tryz.func73, Tryz.ntmps73
  go_wp2_with (go_at_call 60; refine (C.out _).mono ?_; rintro e w' ⟨rfl, rfl⟩)
  go_ret2
  have hr := HR.out
  refine enc_new r w _ 2 hr ?_ (wO_2 h0 h1).symm
  rw [enc_2 h0 h1]
  refine congrArg List.toArray ?_
  refine List.cons_eq_cons.2 ⟨bc_u8 (by omega) (by omega), ?_⟩; refine List.cons_eq_cons.2 ⟨bc_u8 (by omega) (by omega), ?_⟩
  rfl
set_option maxHeartbeats 1600000 in
theorem rencode_3 (r : Int) (w : World) (hr : isR r = true) (h0 : 2048 ≤ r) (h1 : r < 65536) : Calls Tryz.prog 73 #[.int .i32 r] w (EncV r w) := by
  have C : Hid (∀ w, Calls Tryz.prog 60 #[.int .i32 r] w fun e w' => e = .returned (.bool true) ∧ w = w') := Lib.hid (by
    intro w; have := is_any r w; rw [hr] at this; exact this)
  have HR := Lib.hid hr
  clear hr
  go_enter Tryz.func73, Tryz.ntmps73
  go_wp2_with (go_at_call 60; refine (C.out _).mono ?_; rintro e w' ⟨rfl, rfl⟩)
  go_ret2
  have hr := HR.out
  refine enc_new r w _ 3 hr ?_ (wO_3 hr h0 h1).symm
  rw [enc_3 hr h0 h1]
  refine congrArg List.toArray ?_
  refine List.cons_eq_cons.2 ⟨bc_u8 (by omega) (by omega), ?_⟩; refine List.cons_eq_cons.2 ⟨bc_u8 (by omega) (by omega), ?_⟩; refine List.cons_eq_cons.2 ⟨bc_u8 (by omega) (by omega), ?_⟩
  rfl
set_option maxHeartbeats 1600000 in
theorem rencode_4 (r : Int) (w : World) (hr : isR r = true) (h0 : 65536 ≤ r) (h1 : r ≤ 1114111) : Calls Tryz.prog 73 #[.int .i32 r] w (EncV r w) := by
  have C : Hid (∀ w, Calls Tryz.prog 60 #[.int .i32 r] w fun e w' => e = .returned (.bool true) ∧ w = w') := Lib.hid (by
    intro w; have := is_any r w; rw [hr] at this; exact this)
  have HR := Lib.hid hr
  clear hr
  go_enter Tryz.func73, Tryz.ntmps73
  go_wp2_with (go_at_call 60; refine (C.out _).mono ?_; rintro e w' ⟨rfl, rfl⟩)
  go_ret2
  have hr := HR.out
  refine enc_new r w _ 4 hr ?_ (wO_4 h0 h1).symm
  rw [enc_4 h0 h1]
  refine congrArg List.toArray ?_
  refine List.cons_eq_cons.2 ⟨bc_u8 (by omega) (by omega), ?_⟩; refine List.cons_eq_cons.2 ⟨bc_u8 (by omega) (by omega), ?_⟩; refine List.cons_eq_cons.2 ⟨bc_u8 (by omega) (by omega), ?_⟩; refine List.cons_eq_cons.2 ⟨bc_u8 (by omega) (by omega), ?_⟩
  rfl
theorem rencode_any (r : Int) (w : World) : Calls Tryz.prog 73 #[.int .i32 r] w (EncV r w) := by
  cases hr : isR r
  · exact rencode_no r w hr
  · rcases isR_forms hr with ⟨a, b⟩ | ⟨a, b⟩ | ⟨a, b⟩ | ⟨a, b⟩
    · exact rencode_1 r w hr a b
    · exact rencode_2 r w hr a b
    · exact rencode_3 r w hr a b
    · exact rencode_4 r w hr a b

theorem accG_step {n : Nat} {r : Int} {l : List UInt8} {i : Nat} {c : UInt8} (hi : l[i]? = some c) (hn : n = i + 1 + (n - i - 1)) : accG (n - i) r (l.drop i) = if 128 ≤ ub c ∧ ub c < 192 then accG (n - (i + 1)) (64 * r + ub c - 128) (l.drop (i + 1)) else -1 := by
  obtain ⟨hl, rfl⟩ := List.getElem?_eq_some_iff.1 hi
  rw [drop_cons hl, show n - i = (n - (i + 1)) + 1 by omega, accG]
theorem inRg_3 {n : Nat} {c : Int} : inRg n c = true ↔ (n = 2 ∧ 192 ≤ c ∧ c < 224) ∨ (n = 3 ∧ 224 ≤ c ∧ c < 240) ∨ (n = 4 ∧ 240 ≤ c ∧ c < 248) := decide_eq_true_iff
theorem num_acc {c : UInt8} {t : List UInt8} {n : Nat} (hn : n = t.length + 1) (h : inRg n (ub c) = true) : numS (c :: t) = accG (n - 1) (ub c - mkB n) ((c :: t).drop 1) := by
  subst hn; rw [numS, if_pos h]; rfl
theorem num_else {c : UInt8} {t : List UInt8} (h : inRg (t.length + 1) (ub c) = false) : numS (c :: t) = if t.length = 0 ∧ ub c < 128 then ub c else -1 := by
  rw [numS, if_neg (by rw [h]; simp)]

set_option maxRecDepth 100000 in
set_option maxHeartbeats 6400000 in
theorem number_any (v : Value) (c : UInt8) (t : List UInt8) (w : World) (h : BytesAt w v (c :: t)) (hl : t.length ≤ 1000000) :
    Calls Tryz.prog 72 #[v] w fun e w' => e = .returned (.int .i32 (numS (c :: t))) ∧ Below w.heap.size w w' := by
  rcases h with ⟨_, _, _, hnil⟩ | ⟨g, off, n, cap, rfl, hn, hg, hc⟩
  · simp at hnil
  rw [List.length_map, List.length_cons] at hn
  have HC : Hid (∀ W, Below w.heap.size w W → ∀ j d, (c :: t)[j]? = some d → W.cell? ⟨g, off + j, none⟩ = some (.int .u8 (ub d))) := Lib.hid fun W hb j d hj => (hb.cell (p := ⟨g, off + j, none⟩) hg).trans (hc j _ (bc_at hj))
  have c0 := HC.out w (Below.refl _ _) 0 c rfl
  rw [Nat.add_zero] at c0
  have hcb := ub_bd c
  have hn0 : 1 ≤ n := by omega
  have hnb : n ≤ 1000001 := by omega
  have HN := Lib.hid hn
  obtain ⟨x, hx⟩ : ∃ x, ub c = x := ⟨_, rfl⟩
  have HX := Lib.hid hx
  rw [hx] at c0 hcb
  clear hc hn hl hx
  go_enter Tryz.func72, Tryz.ntmps72
  go_wp2
  obtain ⟨W1, hW1⟩ : ∃ W1, W1 = w.alloc (.cells #[.int .i32 0, .int .i32 0, .int .i32 192, .int .i32 224, .int .i32 240] 124) := ⟨_, rfl⟩
  have HB1 : Hid (Below w.heap.size w W1) := Lib.hid (by rw [hW1]; exact (Below.refl _ _).alloc (Nat.le_refl _) _)
  have d2 : W1.cell? ⟨w.heap.size, 2, none⟩ = some (.int .i32 192) := by rw [hW1, World.cell?_alloc_new]; rfl
  have d3 : W1.cell? ⟨w.heap.size, 3, none⟩ = some (.int .i32 224) := by rw [hW1, World.cell?_alloc_new]; rfl
  have d4 : W1.cell? ⟨w.heap.size, 4, none⟩ = some (.int .i32 240) := by rw [hW1, World.cell?_alloc_new]; rfl
  rw [← hW1]
  clear hW1 c0
  obtain ⟨hcb0, hcb1⟩ := hcb
  go_loop [5] (fun x5 => ∃ k : Nat, 2 ≤ k ∧ k ≤ 5 ∧ x5 = .int .i64 k ∧ Hid (∀ j, 2 ≤ j → j < k → ¬ (n = j ∧ inRg j x = true))) (fun x5 => 5 - (intOf x5).toNat)
  case atStart => exact ⟨2, by omega, by omega, rfl, Lib.hid fun j h1 h2 => by omega⟩
  case round =>
    obtain ⟨k, hk1, hk2, rfl, HQ⟩ := hrel
    have hk : k = 2 ∨ k = 3 ∨ k = 4 ∨ k = 5 := by omega
    rcases hk with rfl | rfl | rfl | rfl
    · rw [show (((2 : Nat)) : Int) = 2 from rfl]
      have HQ : Hid (∀ j, 2 ≤ j → j < 2 → ¬ (n = j ∧ inRg j x = true)) := HQ
      by_cases hit : n = 2 ∧ 192 ≤ x ∧ x < 224
      · obtain ⟨hnk, hx1, hx2⟩ := hit
        have hr : inRg n (ub c) = true := by rw [inRg_3, HX.out]; omega
        have HA : Hid (numS (c :: t) = accG (2 - 1) (x - 192) ((c :: t).drop 1)) := Lib.hid (by
          have := num_acc HN.out hr
          rw [HX.out, hnk] at this
          simpa [mkB] using this)
        have hlen : (c :: t).length = 2 := by have := HN.out; rw [List.length_cons]; omega
        have HL := Lib.hid hlen
        clear hr hlen
        subst hnk
        have hdd : decide ((224 : Int) ≤ x) = false := decide_eq_false (by omega)
        have hdl : decide (x < 192) = false := decide_eq_false (by omega)
        go_wp2
        go_loop [7, 8] (fun x7 x8 => ∃ (i : Nat) (r : Int), 1 ≤ i ∧ i ≤ 2 ∧ x8 = .int .i64 i ∧ x7 = .int .i32 r ∧ 0 ≤ r ∧ r ≤ rb i ∧ Hid (numS (c :: t) = accG (2 - i) r ((c :: t).drop i))) (fun _ x8 => 2 - (intOf x8).toNat)
        case atStart => exact ⟨1, x - 192, by omega, by omega, rfl, by first | rfl | exact int_v (by omega), by omega, by simp [rb]; omega, HA⟩
        case round =>
          obtain ⟨i, r, hi1, hi2, rfl, rfl, hr0, hr1, HG⟩ := hrel
          by_cases hlt : i < 2
          · have hrb := rb_le (i := i) (by omega)
            obtain ⟨d, hd⟩ : ∃ d, (c :: t)[i]? = some d := ⟨_, List.getElem?_eq_getElem (by rw [HL.out]; exact hlt)⟩
            have c2 := HC.out W1 HB1.out i d hd
            have hdb := ub_bd d
            have HS : Hid (accG (2 - i) r ((c :: t).drop i) = if 128 ≤ ub d ∧ ub d < 192 then accG (2 - (i + 1)) (64 * r + ub d - 128) ((c :: t).drop (i + 1)) else -1) := Lib.hid (accG_step hd (by omega))
            obtain ⟨y, hy⟩ : ∃ y, ub d = y := ⟨_, rfl⟩
            rw [hy] at c2 hdb HS
            clear hd hy
            by_cases hok : 128 ≤ y ∧ y < 192
            · have HN' : Hid (numS (c :: t) = accG (2 - (i + 1)) (64 * r + y - 128) ((c :: t).drop (i + 1))) := Lib.hid (by rw [HG.out, HS.out, if_pos hok])
              have HB : Hid (64 * r + y - 128 ≤ rb (i + 1)) := Lib.hid (by have := rb_succ (d := y - 128) hi1 (by omega) hr1 (by omega); omega)
              have hk3 : decide (y < 128) = false := decide_eq_false (by omega)
              have hk4 : decide (192 ≤ y) = false := decide_eq_false (by omega)
              obtain ⟨k1, k2⟩ := hok
              go_wp2
              exact ⟨⟨i + 1, 64 * r + y - 128, by omega, by omega, by go_num, rfl, by omega, HB.out, HN'⟩, by simp [intOf]; omega⟩
            · have HN' : Hid (numS (c :: t) = -1) := Lib.hid (by rw [HG.out, HS.out, if_neg hok])
              have hok' : y < 128 ∨ 192 ≤ y := by omega
              clear hok
              go_wp2
              all_goals
                go_ret
                exact ⟨ret_int HN'.out.symm, HB1.out⟩
          · obtain rfl : i = 2 := by omega
            have HN' : Hid (numS (c :: t) = r) := Lib.hid (by rw [HG.out, Nat.sub_self, accG])
            go_wp2
            go_ret
            exact ⟨ret_int HN'.out.symm, HB1.out⟩
      · have HQ' : Hid (∀ j, 2 ≤ j → j < 3 → ¬ (n = j ∧ inRg j x = true)) := Lib.hid fun j h1 h2 => by
          by_cases hj : j = 2
          · subst hj; rintro ⟨h3, h4⟩; rw [inRg_3] at h4; omega
          · exact HQ.out j h1 (by omega)
        have hor : n ≠ 2 ∨ x < 192 ∨ 224 ≤ x := by omega
        clear hit
        rcases hor with h1 | h1 | h1
        · have hne : ((n : Int) != 2) = true := by rw [bne_iff_ne]; omega
          go_wp2
          go_round
          case rel => exact ⟨3, by omega, by omega, rfl, HQ'⟩
          case measure => simp [intOf]
        · go_wp2
          all_goals
            go_round
            case rel => exact ⟨3, by omega, by omega, rfl, HQ'⟩
            case measure => simp [intOf]
        · go_wp2
          all_goals
            go_round
            case rel => exact ⟨3, by omega, by omega, rfl, HQ'⟩
            case measure => simp [intOf]
    · rw [show (((3 : Nat)) : Int) = 3 from rfl]
      have HQ : Hid (∀ j, 2 ≤ j → j < 3 → ¬ (n = j ∧ inRg j x = true)) := HQ
      by_cases hit : n = 3 ∧ 224 ≤ x ∧ x < 240
      · obtain ⟨hnk, hx1, hx2⟩ := hit
        have hr : inRg n (ub c) = true := by rw [inRg_3, HX.out]; omega
        have HA : Hid (numS (c :: t) = accG (3 - 1) (x - 224) ((c :: t).drop 1)) := Lib.hid (by
          have := num_acc HN.out hr
          rw [HX.out, hnk] at this
          simpa [mkB] using this)
        have hlen : (c :: t).length = 3 := by have := HN.out; rw [List.length_cons]; omega
        have HL := Lib.hid hlen
        clear hr hlen
        subst hnk
        have hdd : decide ((240 : Int) ≤ x) = false := decide_eq_false (by omega)
        have hdl : decide (x < 224) = false := decide_eq_false (by omega)
        go_wp2
        go_loop [7, 8] (fun x7 x8 => ∃ (i : Nat) (r : Int), 1 ≤ i ∧ i ≤ 3 ∧ x8 = .int .i64 i ∧ x7 = .int .i32 r ∧ 0 ≤ r ∧ r ≤ rb i ∧ Hid (numS (c :: t) = accG (3 - i) r ((c :: t).drop i))) (fun _ x8 => 3 - (intOf x8).toNat)
        case atStart => exact ⟨1, x - 224, by omega, by omega, rfl, by first | rfl | exact int_v (by omega), by omega, by simp [rb]; omega, HA⟩
        case round =>
          obtain ⟨i, r, hi1, hi2, rfl, rfl, hr0, hr1, HG⟩ := hrel
          by_cases hlt : i < 3
          · have hrb := rb_le (i := i) (by omega)
            obtain ⟨d, hd⟩ : ∃ d, (c :: t)[i]? = some d := ⟨_, List.getElem?_eq_getElem (by rw [HL.out]; exact hlt)⟩
            have c2 := HC.out W1 HB1.out i d hd
            have hdb := ub_bd d
            have HS : Hid (accG (3 - i) r ((c :: t).drop i) = if 128 ≤ ub d ∧ ub d < 192 then accG (3 - (i + 1)) (64 * r + ub d - 128) ((c :: t).drop (i + 1)) else -1) := Lib.hid (accG_step hd (by omega))
            obtain ⟨y, hy⟩ : ∃ y, ub d = y := ⟨_, rfl⟩
            rw [hy] at c2 hdb HS
            clear hd hy
            by_cases hok : 128 ≤ y ∧ y < 192
            · have HN' : Hid (numS (c :: t) = accG (3 - (i + 1)) (64 * r + y - 128) ((c :: t).drop (i + 1))) := Lib.hid (by rw [HG.out, HS.out, if_pos hok])
              have HB : Hid (64 * r + y - 128 ≤ rb (i + 1)) := Lib.hid (by have := rb_succ (d := y - 128) hi1 (by omega) hr1 (by omega); omega)
              have hk3 : decide (y < 128) = false := decide_eq_false (by omega)
              have hk4 : decide (192 ≤ y) = false := decide_eq_false (by omega)
              obtain ⟨k1, k2⟩ := hok
              go_wp2
              exact ⟨⟨i + 1, 64 * r + y - 128, by omega, by omega, by go_num, rfl, by omega, HB.out, HN'⟩, by simp [intOf]; omega⟩
            · have HN' : Hid (numS (c :: t) = -1) := Lib.hid (by rw [HG.out, HS.out, if_neg hok])
              have hok' : y < 128 ∨ 192 ≤ y := by omega
              clear hok
              go_wp2
              all_goals
                go_ret
                exact ⟨ret_int HN'.out.symm, HB1.out⟩
          · obtain rfl : i = 3 := by omega
            have HN' : Hid (numS (c :: t) = r) := Lib.hid (by rw [HG.out, Nat.sub_self, accG])
            go_wp2
            go_ret
            exact ⟨ret_int HN'.out.symm, HB1.out⟩
      · have HQ' : Hid (∀ j, 2 ≤ j → j < 4 → ¬ (n = j ∧ inRg j x = true)) := Lib.hid fun j h1 h2 => by
          by_cases hj : j = 3
          · subst hj; rintro ⟨h3, h4⟩; rw [inRg_3] at h4; omega
          · exact HQ.out j h1 (by omega)
        have hor : n ≠ 3 ∨ x < 224 ∨ 240 ≤ x := by omega
        clear hit
        rcases hor with h1 | h1 | h1
        · have hne : ((n : Int) != 3) = true := by rw [bne_iff_ne]; omega
          go_wp2
          go_round
          case rel => exact ⟨4, by omega, by omega, rfl, HQ'⟩
          case measure => simp [intOf]
        · go_wp2
          all_goals
            go_round
            case rel => exact ⟨4, by omega, by omega, rfl, HQ'⟩
            case measure => simp [intOf]
        · go_wp2
          all_goals
            go_round
            case rel => exact ⟨4, by omega, by omega, rfl, HQ'⟩
            case measure => simp [intOf]
    · rw [show (((4 : Nat)) : Int) = 4 from rfl]
      have HQ : Hid (∀ j, 2 ≤ j → j < 4 → ¬ (n = j ∧ inRg j x = true)) := HQ
      by_cases hit : n = 4 ∧ 240 ≤ x ∧ x < 248
      · obtain ⟨hnk, hx1, hx2⟩ := hit
        have hr : inRg n (ub c) = true := by rw [inRg_3, HX.out]; omega
        have HA : Hid (numS (c :: t) = accG (4 - 1) (x - 240) ((c :: t).drop 1)) := Lib.hid (by
          have := num_acc HN.out hr
          rw [HX.out, hnk] at this
          simpa [mkB] using this)
        have hlen : (c :: t).length = 4 := by have := HN.out; rw [List.length_cons]; omega
        have HL := Lib.hid hlen
        clear hr hlen
        subst hnk
        have hdd : decide ((248 : Int) ≤ x) = false := decide_eq_false (by omega)
        have hdl : decide (x < 240) = false := decide_eq_false (by omega)
        go_wp2
        go_loop [7, 8] (fun x7 x8 => ∃ (i : Nat) (r : Int), 1 ≤ i ∧ i ≤ 4 ∧ x8 = .int .i64 i ∧ x7 = .int .i32 r ∧ 0 ≤ r ∧ r ≤ rb i ∧ Hid (numS (c :: t) = accG (4 - i) r ((c :: t).drop i))) (fun _ x8 => 4 - (intOf x8).toNat)
        case atStart => exact ⟨1, x - 240, by omega, by omega, rfl, by first | rfl | exact int_v (by omega), by omega, by simp [rb]; omega, HA⟩
        case round =>
          obtain ⟨i, r, hi1, hi2, rfl, rfl, hr0, hr1, HG⟩ := hrel
          by_cases hlt : i < 4
          · have hrb := rb_le (i := i) (by omega)
            obtain ⟨d, hd⟩ : ∃ d, (c :: t)[i]? = some d := ⟨_, List.getElem?_eq_getElem (by rw [HL.out]; exact hlt)⟩
            have c2 := HC.out W1 HB1.out i d hd
            have hdb := ub_bd d
            have HS : Hid (accG (4 - i) r ((c :: t).drop i) = if 128 ≤ ub d ∧ ub d < 192 then accG (4 - (i + 1)) (64 * r + ub d - 128) ((c :: t).drop (i + 1)) else -1) := Lib.hid (accG_step hd (by omega))
            obtain ⟨y, hy⟩ : ∃ y, ub d = y := ⟨_, rfl⟩
            rw [hy] at c2 hdb HS
            clear hd hy
            by_cases hok : 128 ≤ y ∧ y < 192
            · have HN' : Hid (numS (c :: t) = accG (4 - (i + 1)) (64 * r + y - 128) ((c :: t).drop (i + 1))) := Lib.hid (by rw [HG.out, HS.out, if_pos hok])
              have HB : Hid (64 * r + y - 128 ≤ rb (i + 1)) := Lib.hid (by have := rb_succ (d := y - 128) hi1 (by omega) hr1 (by omega); omega)
              have hk3 : decide (y < 128) = false := decide_eq_false (by omega)
              have hk4 : decide (192 ≤ y) = false := decide_eq_false (by omega)
              obtain ⟨k1, k2⟩ := hok
              go_wp2
              exact ⟨⟨i + 1, 64 * r + y - 128, by omega, by omega, by go_num, rfl, by omega, HB.out, HN'⟩, by simp [intOf]; omega⟩
            · have HN' : Hid (numS (c :: t) = -1) := Lib.hid (by rw [HG.out, HS.out, if_neg hok])
              have hok' : y < 128 ∨ 192 ≤ y := by omega
              clear hok
              go_wp2
              all_goals
                go_ret
                exact ⟨ret_int HN'.out.symm, HB1.out⟩
          · obtain rfl : i = 4 := by omega
            have HN' : Hid (numS (c :: t) = r) := Lib.hid (by rw [HG.out, Nat.sub_self, accG])
            go_wp2
            go_ret
            exact ⟨ret_int HN'.out.symm, HB1.out⟩
      · have HQ' : Hid (∀ j, 2 ≤ j → j < 5 → ¬ (n = j ∧ inRg j x = true)) := Lib.hid fun j h1 h2 => by
          by_cases hj : j = 4
          · subst hj; rintro ⟨h3, h4⟩; rw [inRg_3] at h4; omega
          · exact HQ.out j h1 (by omega)
        have hor : n ≠ 4 ∨ x < 240 ∨ 248 ≤ x := by omega
        clear hit
        rcases hor with h1 | h1 | h1
        · have hne : ((n : Int) != 4) = true := by rw [bne_iff_ne]; omega
          go_wp2
          go_round
          case rel => exact ⟨5, by omega, by omega, rfl, HQ'⟩
          case measure => simp [intOf]
        · go_wp2
          all_goals
            go_round
            case rel => exact ⟨5, by omega, by omega, rfl, HQ'⟩
            case measure => simp [intOf]
        · go_wp2
          all_goals
            go_round
            case rel => exact ⟨5, by omega, by omega, rfl, HQ'⟩
            case measure => simp [intOf]
    · have hin : inRg (t.length + 1) (ub c) = false := by
        cases h : inRg (t.length + 1) (ub c)
        · rfl
        · exfalso
          rw [HX.out, ← HN.out] at h
          have h5 := inRg_3.1 h
          exact HQ.out n (by omega) (by omega) ⟨rfl, h⟩
      have HE : Hid (numS (c :: t) = if n = 1 ∧ x < 128 then x else -1) := Lib.hid (by
        have h5 := HN.out
        rw [num_else hin, HX.out]
        by_cases h1 : n = 1 ∧ x < 128
        · rw [if_pos h1, if_pos (by omega)]
        · rw [if_neg h1, if_neg (by omega)])
      clear hin
      by_cases h1 : n = 1 ∧ x < 128
      · have HE' : Hid (numS (c :: t) = x) := Lib.hid (by rw [HE.out, if_pos h1])
        obtain ⟨h2, h3⟩ := h1
        subst h2
        go_wp2
        go_ret
        exact ⟨ret_int HE'.out.symm, HB1.out⟩
      · have HE' : Hid (numS (c :: t) = -1) := Lib.hid (by rw [HE.out, if_neg h1])
        have hor : n ≠ 1 ∨ 128 ≤ x := by omega
        clear h1
        rcases hor with h2 | h2
        · have hne : ((n : Int) == 1) = false := by rw [beq_eq_false_iff_ne]; omega
          go_wp2
          go_ret
          exact ⟨ret_int HE'.out.symm, HB1.out⟩
        · go_wp2
          all_goals
            go_ret
            exact ⟨ret_int HE'.out.symm, HB1.out⟩
end Go.Proofs.YtdiinlmeoifgjaaGreatDoor
