/- The reference's stands, begins. -/
import Derived.Test.YtdiinlmeoifgjaaGreatDoorRref1
namespace Go.Proofs.YtdiinlmeoifgjaaGreatDoor
open Go.RowKit Go.PlainAid

theorem numS_bd (c : UInt8) (t : List UInt8) : -1 ≤ numS (c :: t) := by
  have hc := ub_bd c
  rw [numS]
  split
  · rename_i h
    have := inRg_3.1 h
    refine accG_neg _ _ _ ?_
    unfold mkB; (repeat' split) <;> omega
  · split <;> omega
theorem str_toList (l : List UInt8) : (str l).toList = l := by rw [ByteArray.toList_eq]; rfl
theorem str_injR {a b : List UInt8} (h : str a = str b) : a = b := by
  have := congrArg (fun x : ByteArray => x.data.toList) h; exact this

set_option maxRecDepth 100000 in
set_option maxHeartbeats 3200000 in
theorem stands_any (v : Value) (c : UInt8) (t : List UInt8) (w : World) (h : SrcAt w v (t.length + 1) ((c :: t).map bc)) (hl : t.length ≤ 1000000) :
    Calls Tryz.prog 65 #[v] w fun e w' => e = .returned (.tuple #[.int .i32 (stdS (c :: t)).1, .bool (stdS (c :: t)).2]) ∧ Below w.heap.size w w' := by
  have hB : BytesAt w v (c :: t) := h.row (by simp)
  obtain ⟨r, hr⟩ : ∃ r, numS (c :: t) = r := ⟨_, rfl⟩
  have CN : Hid (Calls Tryz.prog 72 #[v] w fun e w' => e = .returned (.int .i32 r) ∧ Below w.heap.size w w') := Lib.hid (by rw [← hr]; exact number_any v c t w hB hl)
  obtain ⟨b, hb⟩ : ∃ b, isR r = b := ⟨_, rfl⟩
  have CI : Hid (∀ w, Calls Tryz.prog 60 #[.int .i32 r] w fun e w' => e = .returned (.bool b) ∧ w = w') := Lib.hid (by rw [← hb]; exact fun w => is_any r w)
  obtain ⟨a, cap, hv⟩ := hB.slice
  have hv' : v = .slice a (t.length + 1) cap := by rw [hv]; simp
  clear hv
  subst hv'
  obtain ⟨n, hn⟩ : ∃ n, t.length + 1 = n := ⟨_, rfl⟩
  rw [hn] at h hB CN ⊢
  cases b
  · have HV : Hid (stdS (c :: t) = (0, false)) := Lib.hid (by unfold stdS; rw [hr, hb]; rfl)
    clear h hB hr hb
    go_enter Tryz.func65, Tryz.ntmps65
    go_wp2_with (first | (go_at_call 72; refine CN.out.mono ?_; rintro e w1 ⟨rfl, hb1⟩) | (go_at_call 60; refine (CI.out _).mono ?_; rintro e w2 ⟨rfl, rfl⟩))
    go_ret2
    exact ⟨by rw [HV.out]; rfl, hb1⟩
  · have HV : Hid (stdS (c :: t) = (r, decide (c :: t = enc r))) := Lib.hid (by unfold stdS; rw [hr, hb]; rfl)
    have CE : Hid (∀ W, Calls Tryz.prog 73 #[.int .i32 r] W fun e w1 => ∃ a m k, e = .returned (.tuple #[.slice a m k, .int .i64 0]) ∧ m = (enc r).length ∧ SrcAt w1 (.slice a m k) m ((enc r).map bc) ∧ Below W.heap.size W w1) := Lib.hid fun W => by
      refine (rencode_any r W).mono ?_
      rintro e w1 ⟨v, h1, h2, h3⟩
      rw [hb, if_pos rfl] at h1
      obtain ⟨a, k, rfl⟩ := (RowAt.own h2).slice
      rw [List.length_map] at h1 h2
      exact ⟨_, _, _, h1, rfl, SrcAt.own h2, h3⟩
    have HS := Lib.hid h
    have HN : Hid (n = (c :: t).length) := Lib.hid (by rw [← hn]; rfl)
    clear h hB hr hb hn
    go_enter Tryz.func65, Tryz.ntmps65
    go_wp2_with (first | (go_at_call 72; refine CN.out.mono ?_; rintro e w1 ⟨rfl, hb1⟩) | (go_at_call 60; refine (CI.out _).mono ?_; rintro e w2 ⟨rfl, rfl⟩) | (go_at_call 73; refine (CE.out _).mono ?_; rintro e w3 ⟨a3, m3, k3, rfl, hm3, hs3, hb3⟩; have hB3 := hb1.trans (hb3.mono hb1.size); have hv1 : ∀ n', (convert 98 9 (.slice a n cap)).run Tryz.prog (w3.drewN n') = .ok (.string (str (c :: t))) (w3.drewN n') := fun n' => conv_src ((HS.out.below hB3 (Nat.le_refl _)).below (below_drewN w3 n') (Nat.le_refl _)) HN.out; have hv2 : ∀ n', (convert 98 9 (.slice a3 m3 k3)).run Tryz.prog (w3.drewN n') = .ok (.string (str (enc r))) (w3.drewN n') := fun n' => conv_src (hs3.below (below_drewN w3 n') (Nat.le_refl _)) hm3; clear hm3 hs3))
    go_quiet (fail)
    go_wp2_with fail
    go_ret2
    refine ⟨?_, hB3.trans ((below_drewN _ _).mono hB3.size)⟩
    rw [HV.out]
    exact ret_two rfl (congrArg Value.bool (by rw [str_toList, str_toList, Bool.eq_iff_iff]; simp))

/-- The arms of begins: nothing is expected, or as many bytes are there. -/
theorem beg_no {c : UInt8} {t : List UInt8} (h : manyS (ub c) ≤ t.length + 1) : begS (c :: t) = false := by rw [begS, if_pos h]
theorem beg_else {c : UInt8} {t : List UInt8} (h : ¬ manyS (ub c) ≤ t.length + 1) : begS (c :: t) = ((stdS (fillS (c :: t) (manyS (ub c)) 128)).2 || (stdS (fillS (c :: t) (manyS (ub c)) 191)).2) := by rw [begS, if_neg h]
theorem many_0 {c : Int} (h : c < 192 ∨ 248 ≤ c) : manyS c = 0 := by unfold manyS; rw [if_neg (by omega), if_neg (by omega), if_neg (by omega)]
def sliceLen : Value → Nat
  | .slice _ n _ => n
  | _ => 0

set_option maxRecDepth 100000 in
set_option maxHeartbeats 12800000 in
theorem begins_2 (a : Option Addr) (n cap : Nat) (c : UInt8) (t : List UInt8) (w : World) (h : SrcAt w (.slice a n cap) n ((c :: t).map bc)) (hn : n = t.length + 1) (h1 : 192 ≤ ub c) (h2 : ub c < 224) (hm : n < 2) :
    Calls Tryz.prog 66 #[.slice a n cap] w fun e w' => e = .returned (.bool (begS (c :: t))) ∧ Below w.heap.size w w' := by
  have hB : BytesAt w (.slice a n cap) (c :: t) := h.row (by simpa using hn)
  have hmx : manyS (ub c) = 2 := many_2 h1 h2
  have hbeg := beg_else (c := c) (t := t) (by rw [hmx]; omega)
  rw [hmx] at hbeg
  obtain ⟨b1, hb1⟩ : ∃ b, (stdS (fillS (c :: t) 2 128)).2 = b := ⟨_, rfl⟩
  obtain ⟨b2, hb2⟩ : ∃ b, (stdS (fillS (c :: t) 2 191)).2 = b := ⟨_, rfl⟩
  rw [hb1, hb2] at hbeg
  have HBG := Lib.hid hbeg
  have CS : Hid (∀ (W : World) v (x : UInt8), SrcAt W v 2 ((fillS (c :: t) 2 x).map bc) → Calls Tryz.prog 65 #[v] W fun e w' => e = .returned (.tuple #[.int .i32 (stdS (fillS (c :: t) 2 x)).1, .bool (stdS (fillS (c :: t) 2 x)).2]) ∧ Below W.heap.size W w') := Lib.hid fun W v x hs => by
    have hfl : (t ++ List.replicate (2 - (c :: t).length) x).length + 1 = 2 := by rw [List.length_append, List.length_replicate, List.length_cons]; omega
    have := stands_any v c (t ++ List.replicate (2 - (c :: t).length) x) W (by rw [hfl]; exact hs) (by omega)
    exact this
  have HS : Hid (∀ W, Below w.heap.size w W → SrcAt W (.slice a n cap) n ((c :: t).map bc)) := Lib.hid fun W hb => h.below hb (Nat.le_refl _)
  have HL : Hid ((((c :: t).map bc)).length = n) := Lib.hid (by rw [List.length_map, List.length_cons]; omega)
  have HF : Hid (∀ (x : UInt8) j, j = 2 - n → (c :: t).map bc ++ (List.replicate j x).map bc = (fillS (c :: t) 2 x).map bc) := Lib.hid fun x j hj => by
    unfold fillS; rw [List.map_append, hj, hn]; rfl
  have c0 : ∃ g off, a = some ⟨g, off, none⟩ ∧ w.cell? ⟨g, off, none⟩ = some (.int .u8 (ub c)) := by
    rcases hB with ⟨_, _, _, hnil⟩ | ⟨g, off, _, _, hv, _, _, hc⟩
    · simp at hnil
    · refine ⟨g, off, (Value.slice.inj hv).1, ?_⟩
      have := hc 0 (bc c) rfl
      rwa [Nat.add_zero] at this
  obtain ⟨g, off, ha, c0⟩ := c0
  obtain ⟨x, hx⟩ : ∃ x, ub c = x := ⟨_, rfl⟩
  rw [hx] at c0 h1 h2
  subst ha
  have hn1 : 1 ≤ n := by omega
  obtain ⟨i0, hi, hj0, hj1, hj2⟩ := info_parts2R info5
  have hdA : decide ((224 : Int) ≤ x) = false := decide_eq_false (by omega)
  have hdB : decide (x < 224) = true := decide_eq_true (by omega)
  have hdC : decide ((240 : Int) ≤ x) = false := decide_eq_false (by omega)
  have hdD : decide (x < 240) = true := decide_eq_true (by omega)
  have hx3 : 192 ≤ x ∧ x < 248 := by omega
  obtain ⟨hx4, hx5⟩ := hx3
  clear hB h hmx hbeg hn hx
  go_enter Tryz.func66, Tryz.ntmps66
  go_wp2
  go_loopw [5] (fun x5 wr => ∃ (k : Nat) (b : UInt8), Hid (ub b = (k : Int)) ∧ x5 = .int .i64 k ∧ (k = 128 ∨ (k = 191 ∧ b1 = false) ∨ (k = 254 ∧ b1 = false ∧ b2 = false)) ∧ Below w.heap.size w wr) (fun x5 _ => 300 - (intOf x5).toNat)
  case atStart => exact ⟨128, 128, Lib.hid rfl, rfl, .inl rfl, Below.refl _ _⟩
  case round =>
    obtain ⟨k, b, HK, rfl, hk, hB⟩ := hrel
    by_cases hlast : k = 254
    · subst hlast
      have hf : b1 = false ∧ b2 = false := by
        rcases hk with h | h | h
        · omega
        · omega
        · exact h.2
      have HE : Hid (begS (c :: t) = false) := Lib.hid (by rw [HBG.out, hf.1, hf.2]; rfl)
      clear hk hf
      go_wp2
      go_ret
      exact ⟨ret_bool HE.out.symm, hB⟩
    · have hk2 : k = 128 ∨ k = 191 := by omega
      obtain ⟨wo, rfl⟩ : ∃ wo : World, wo = wr := ⟨_, rfl⟩
      have HO0 : Hid ((wo.alloc (.cells #[] 5)).ownsRow wo.heap.size 5 1 (.slice (some ⟨wo.heap.size, 0, none⟩) 0 0) 0 []) := Lib.hid (World.ownsRow_made wo #[] 0 (Nat.le_refl _) (by unfold maxLen; omega) rfl)
      have hBa := hB.alloc hB.size (.cells #[] 5)
      have HH := Lib.hid hk
      clear hk hlast
      rcases hk2 with rfl | rfl

      · obtain rfl : b = 128 := ub_inj (HK.out.trans rfl)
        clear HH
        rw [show (((128 : Nat)) : Int) = 128 from rfl]
        go_wp2_with (at_builtin; refine wpList_append_any rfl (.tmp 42) (.tmp 43) 98 rfl wo.heap.size 5 i0 (.int .u8 0) 1 Tryz.underlying98 hi hj0 hj1 hj2 rfl _ 0 [] rfl HO0.out _ n ((c :: t).map bc) rfl (HS.out _ hBa) HL.out (one_bc _) (by unfold maxLen; omega) (by omega) (by simp) ?_; intro va wa hoa hga; have HOa : Hid (wa.ownsRow wo.heap.size 5 1 va n ((c :: t).map bc)) := Lib.hid (by simpa using hoa); have HBa : Below wo.heap.size wo wa := (((Below.refl _ wo).alloc (Nat.le_refl _) _).grown hga (by simp) (fun k hk => (HO0.out.lt k hk).1)); clear hoa hga)
        go_loopw [6] (fun x6 w2 => ∃ (j : Nat) (a6 : Option Addr) (c6 : Nat), x6 = .slice a6 (n + j) c6 ∧ n + j ≤ 2 ∧ Below wo.heap.size wo w2 ∧ Hid (w2.ownsRow wo.heap.size 5 1 (.slice a6 (n + j) c6) (n + j) ((c :: t).map bc ++ (List.replicate j (128 : UInt8)).map bc))) (fun x6 _ => 2 - sliceLen x6)
        case atStart =>
          obtain ⟨a6, c6, hva⟩ := (RowAt.own HOa.out).slice
          rw [HL.out] at hva
          exact ⟨0, a6, c6, hva, by omega, HBa, Lib.hid (by rw [Nat.add_zero, ← hva]; simpa using HOa.out)⟩
        case round =>
          obtain ⟨j, a6, c6, rfl, hjm, hBw, HO⟩ := hrel
          by_cases hlt : n + j < 2
          · have hsA := World.size_alloc wr (.cells #[.int .u8 128] 5)
            have hszw := hBw.size
            go_wp2_with (at_builtin; refine wpList_append_any rfl (.tmp 49) (.tmp 52) 98 rfl wo.heap.size 5 i0 (.int .u8 0) 1 Tryz.underlying98 hi hj0 hj1 hj2 rfl _ (n + j) ((c :: t).map bc ++ (List.replicate j (128 : UInt8)).map bc) rfl (HO.out.alloc _) (.slice (some ⟨wr.heap.size, 0, none⟩) 1 1) 1 [.int .u8 128] rfl (.inr ⟨⟨wr.heap.size, 0, none⟩, 1, rfl, new_cells wr [.int .u8 128] _⟩) rfl (by simp [Value.oneCell']) (by unfold maxLen; omega) (by omega) (by rw [hsA]; omega) ?_; intro vb wb hob hgb; obtain ⟨sa, sm, sc, rfl⟩ := own_sliceR hob; have HBb : Below wo.heap.size wo wb := (hBw.alloc hszw _).grown hgb (by rw [hsA]; omega) (fun k hk => (HO.out.lt k hk).1); have hsl := (RowAt.own hob).slice; clear hgb)
            obtain ⟨a7, c7, h7⟩ := hsl
            have hlen7 : ((c :: t).map bc ++ (List.replicate j (128 : UInt8)).map bc ++ [Value.int .u8 128]).length = n + (j + 1) := by rw [List.length_append, List.length_append, HL.out, List.length_map, List.length_replicate]; rfl
            rw [hlen7] at h7
            have HO7 : Hid (wb.ownsRow wo.heap.size 5 1 (.slice a7 (n + (j + 1)) c7) (n + (j + 1)) ((c :: t).map bc ++ (List.replicate (j + 1) (128 : UInt8)).map bc)) := Lib.hid (by
              rw [List.replicate_succ', List.map_append, ← List.append_assoc, ← h7]; exact hob)
            rw [h7]
            clear hob h7 hlen7
            go_roundw
            case rel => exact ⟨j + 1, a7, c7, rfl, by omega, HBb, HO7⟩
            case measure => simp [sliceLen]; omega
          · have hjm' : n + j = 2 := by omega
            have C := CS.out wr (.slice a6 2 c6) 128 (by rw [← HF.out 128 j (by omega), ← hjm']; exact SrcAt.own HO.out)
            rw [hb1] at C
            obtain ⟨yy, hyy⟩ : ∃ yy, (stdS (fillS (c :: t) 2 128)).1 = yy := ⟨_, rfl⟩
            rw [hyy] at C
            have C := Lib.hid C
            rw [hjm']
            clear HO hyy
            have hBw' := hB.trans (hBw.mono hB.size)
            cases b1
            · go_wp2_with (go_at_call 65; refine C.out.mono ?_; rintro e w5 ⟨rfl, hb5⟩)
              go_roundw
              case rel => exact ⟨191, 191, Lib.hid rfl, rfl, .inr (.inl ⟨rfl, by trivial⟩), hBw'.trans (hb5.mono hBw'.size)⟩
              case measure => simp [intOf]
            · have HE : Hid (begS (c :: t) = true) := Lib.hid (by rw [HBG.out]; simp)
              go_wp2_with (go_at_call 65; refine C.out.mono ?_; rintro e w5 ⟨rfl, hb5⟩)
              go_ret
              exact ⟨ret_bool HE.out.symm, hBw'.trans (hb5.mono hBw'.size)⟩
  
      · obtain rfl : b = 191 := ub_inj (HK.out.trans rfl)
        have hp1 : b1 = false := by rcases HH.out with h | h | h
                                    · omega
                                    · exact h.2
                                    · omega
        clear HH
        rw [show (((191 : Nat)) : Int) = 191 from rfl]
        go_wp2_with (at_builtin; refine wpList_append_any rfl (.tmp 42) (.tmp 43) 98 rfl wo.heap.size 5 i0 (.int .u8 0) 1 Tryz.underlying98 hi hj0 hj1 hj2 rfl _ 0 [] rfl HO0.out _ n ((c :: t).map bc) rfl (HS.out _ hBa) HL.out (one_bc _) (by unfold maxLen; omega) (by omega) (by simp) ?_; intro va wa hoa hga; have HOa : Hid (wa.ownsRow wo.heap.size 5 1 va n ((c :: t).map bc)) := Lib.hid (by simpa using hoa); have HBa : Below wo.heap.size wo wa := (((Below.refl _ wo).alloc (Nat.le_refl _) _).grown hga (by simp) (fun k hk => (HO0.out.lt k hk).1)); clear hoa hga)
        go_loopw [6] (fun x6 w2 => ∃ (j : Nat) (a6 : Option Addr) (c6 : Nat), x6 = .slice a6 (n + j) c6 ∧ n + j ≤ 2 ∧ Below wo.heap.size wo w2 ∧ Hid (w2.ownsRow wo.heap.size 5 1 (.slice a6 (n + j) c6) (n + j) ((c :: t).map bc ++ (List.replicate j (191 : UInt8)).map bc))) (fun x6 _ => 2 - sliceLen x6)
        case atStart =>
          obtain ⟨a6, c6, hva⟩ := (RowAt.own HOa.out).slice
          rw [HL.out] at hva
          exact ⟨0, a6, c6, hva, by omega, HBa, Lib.hid (by rw [Nat.add_zero, ← hva]; simpa using HOa.out)⟩
        case round =>
          obtain ⟨j, a6, c6, rfl, hjm, hBw, HO⟩ := hrel
          by_cases hlt : n + j < 2
          · have hsA := World.size_alloc wr (.cells #[.int .u8 191] 5)
            have hszw := hBw.size
            go_wp2_with (at_builtin; refine wpList_append_any rfl (.tmp 49) (.tmp 52) 98 rfl wo.heap.size 5 i0 (.int .u8 0) 1 Tryz.underlying98 hi hj0 hj1 hj2 rfl _ (n + j) ((c :: t).map bc ++ (List.replicate j (191 : UInt8)).map bc) rfl (HO.out.alloc _) (.slice (some ⟨wr.heap.size, 0, none⟩) 1 1) 1 [.int .u8 191] rfl (.inr ⟨⟨wr.heap.size, 0, none⟩, 1, rfl, new_cells wr [.int .u8 191] _⟩) rfl (by simp [Value.oneCell']) (by unfold maxLen; omega) (by omega) (by rw [hsA]; omega) ?_; intro vb wb hob hgb; obtain ⟨sa, sm, sc, rfl⟩ := own_sliceR hob; have HBb : Below wo.heap.size wo wb := (hBw.alloc hszw _).grown hgb (by rw [hsA]; omega) (fun k hk => (HO.out.lt k hk).1); have hsl := (RowAt.own hob).slice; clear hgb)
            obtain ⟨a7, c7, h7⟩ := hsl
            have hlen7 : ((c :: t).map bc ++ (List.replicate j (191 : UInt8)).map bc ++ [Value.int .u8 191]).length = n + (j + 1) := by rw [List.length_append, List.length_append, HL.out, List.length_map, List.length_replicate]; rfl
            rw [hlen7] at h7
            have HO7 : Hid (wb.ownsRow wo.heap.size 5 1 (.slice a7 (n + (j + 1)) c7) (n + (j + 1)) ((c :: t).map bc ++ (List.replicate (j + 1) (191 : UInt8)).map bc)) := Lib.hid (by
              rw [List.replicate_succ', List.map_append, ← List.append_assoc, ← h7]; exact hob)
            rw [h7]
            clear hob h7 hlen7
            go_roundw
            case rel => exact ⟨j + 1, a7, c7, rfl, by omega, HBb, HO7⟩
            case measure => simp [sliceLen]; omega
          · have hjm' : n + j = 2 := by omega
            have C := CS.out wr (.slice a6 2 c6) 191 (by rw [← HF.out 191 j (by omega), ← hjm']; exact SrcAt.own HO.out)
            rw [hb2] at C
            obtain ⟨yy, hyy⟩ : ∃ yy, (stdS (fillS (c :: t) 2 191)).1 = yy := ⟨_, rfl⟩
            rw [hyy] at C
            have C := Lib.hid C
            rw [hjm']
            clear HO hyy
            have hBw' := hB.trans (hBw.mono hB.size)
            cases b2
            · go_wp2_with (go_at_call 65; refine C.out.mono ?_; rintro e w5 ⟨rfl, hb5⟩)
              go_roundw
              case rel => exact ⟨254, 254, Lib.hid rfl, rfl, .inr (.inr ⟨rfl, hp1, by trivial⟩), hBw'.trans (hb5.mono hBw'.size)⟩
              case measure => simp [intOf]
            · have HE : Hid (begS (c :: t) = true) := Lib.hid (by rw [HBG.out]; simp)
              go_wp2_with (go_at_call 65; refine C.out.mono ?_; rintro e w5 ⟨rfl, hb5⟩)
              go_ret
              exact ⟨ret_bool HE.out.symm, hBw'.trans (hb5.mono hBw'.size)⟩
set_option maxRecDepth 100000 in
set_option maxHeartbeats 12800000 in
theorem begins_3 (a : Option Addr) (n cap : Nat) (c : UInt8) (t : List UInt8) (w : World) (h : SrcAt w (.slice a n cap) n ((c :: t).map bc)) (hn : n = t.length + 1) (h1 : 224 ≤ ub c) (h2 : ub c < 240) (hm : n < 3) :
    Calls Tryz.prog 66 #[.slice a n cap] w fun e w' => e = .returned (.bool (begS (c :: t))) ∧ Below w.heap.size w w' := by
  have hB : BytesAt w (.slice a n cap) (c :: t) := h.row (by simpa using hn)
  have hmx : manyS (ub c) = 3 := many_3 h1 h2
  have hbeg := beg_else (c := c) (t := t) (by rw [hmx]; omega)
  rw [hmx] at hbeg
  obtain ⟨b1, hb1⟩ : ∃ b, (stdS (fillS (c :: t) 3 128)).2 = b := ⟨_, rfl⟩
  obtain ⟨b2, hb2⟩ : ∃ b, (stdS (fillS (c :: t) 3 191)).2 = b := ⟨_, rfl⟩
  rw [hb1, hb2] at hbeg
  have HBG := Lib.hid hbeg
  have CS : Hid (∀ (W : World) v (x : UInt8), SrcAt W v 3 ((fillS (c :: t) 3 x).map bc) → Calls Tryz.prog 65 #[v] W fun e w' => e = .returned (.tuple #[.int .i32 (stdS (fillS (c :: t) 3 x)).1, .bool (stdS (fillS (c :: t) 3 x)).2]) ∧ Below W.heap.size W w') := Lib.hid fun W v x hs => by
    have hfl : (t ++ List.replicate (3 - (c :: t).length) x).length + 1 = 3 := by rw [List.length_append, List.length_replicate, List.length_cons]; omega
    have := stands_any v c (t ++ List.replicate (3 - (c :: t).length) x) W (by rw [hfl]; exact hs) (by omega)
    exact this
  have HS : Hid (∀ W, Below w.heap.size w W → SrcAt W (.slice a n cap) n ((c :: t).map bc)) := Lib.hid fun W hb => h.below hb (Nat.le_refl _)
  have HL : Hid ((((c :: t).map bc)).length = n) := Lib.hid (by rw [List.length_map, List.length_cons]; omega)
  have HF : Hid (∀ (x : UInt8) j, j = 3 - n → (c :: t).map bc ++ (List.replicate j x).map bc = (fillS (c :: t) 3 x).map bc) := Lib.hid fun x j hj => by
    unfold fillS; rw [List.map_append, hj, hn]; rfl
  have c0 : ∃ g off, a = some ⟨g, off, none⟩ ∧ w.cell? ⟨g, off, none⟩ = some (.int .u8 (ub c)) := by
    rcases hB with ⟨_, _, _, hnil⟩ | ⟨g, off, _, _, hv, _, _, hc⟩
    · simp at hnil
    · refine ⟨g, off, (Value.slice.inj hv).1, ?_⟩
      have := hc 0 (bc c) rfl
      rwa [Nat.add_zero] at this
  obtain ⟨g, off, ha, c0⟩ := c0
  obtain ⟨x, hx⟩ : ∃ x, ub c = x := ⟨_, rfl⟩
  rw [hx] at c0 h1 h2
  subst ha
  have hn1 : 1 ≤ n := by omega
  obtain ⟨i0, hi, hj0, hj1, hj2⟩ := info_parts2R info5
  have hdA : decide ((224 : Int) ≤ x) = true := decide_eq_true (by omega)
  have hdB : decide (x < 224) = false := decide_eq_false (by omega)
  have hdC : decide ((240 : Int) ≤ x) = false := decide_eq_false (by omega)
  have hdD : decide (x < 240) = true := decide_eq_true (by omega)
  have hx3 : 192 ≤ x ∧ x < 248 := by omega
  obtain ⟨hx4, hx5⟩ := hx3
  clear hB h hmx hbeg hn hx
  go_enter Tryz.func66, Tryz.ntmps66
  go_wp2
  go_loopw [5] (fun x5 wr => ∃ (k : Nat) (b : UInt8), Hid (ub b = (k : Int)) ∧ x5 = .int .i64 k ∧ (k = 128 ∨ (k = 191 ∧ b1 = false) ∨ (k = 254 ∧ b1 = false ∧ b2 = false)) ∧ Below w.heap.size w wr) (fun x5 _ => 300 - (intOf x5).toNat)
  case atStart => exact ⟨128, 128, Lib.hid rfl, rfl, .inl rfl, Below.refl _ _⟩
  case round =>
    obtain ⟨k, b, HK, rfl, hk, hB⟩ := hrel
    by_cases hlast : k = 254
    · subst hlast
      have hf : b1 = false ∧ b2 = false := by
        rcases hk with h | h | h
        · omega
        · omega
        · exact h.2
      have HE : Hid (begS (c :: t) = false) := Lib.hid (by rw [HBG.out, hf.1, hf.2]; rfl)
      clear hk hf
      go_wp2
      go_ret
      exact ⟨ret_bool HE.out.symm, hB⟩
    · have hk2 : k = 128 ∨ k = 191 := by omega
      obtain ⟨wo, rfl⟩ : ∃ wo : World, wo = wr := ⟨_, rfl⟩
      have HO0 : Hid ((wo.alloc (.cells #[] 5)).ownsRow wo.heap.size 5 1 (.slice (some ⟨wo.heap.size, 0, none⟩) 0 0) 0 []) := Lib.hid (World.ownsRow_made wo #[] 0 (Nat.le_refl _) (by unfold maxLen; omega) rfl)
      have hBa := hB.alloc hB.size (.cells #[] 5)
      have HH := Lib.hid hk
      clear hk hlast
      rcases hk2 with rfl | rfl

      · obtain rfl : b = 128 := ub_inj (HK.out.trans rfl)
        clear HH
        rw [show (((128 : Nat)) : Int) = 128 from rfl]
        go_wp2_with (at_builtin; refine wpList_append_any rfl (.tmp 42) (.tmp 43) 98 rfl wo.heap.size 5 i0 (.int .u8 0) 1 Tryz.underlying98 hi hj0 hj1 hj2 rfl _ 0 [] rfl HO0.out _ n ((c :: t).map bc) rfl (HS.out _ hBa) HL.out (one_bc _) (by unfold maxLen; omega) (by omega) (by simp) ?_; intro va wa hoa hga; have HOa : Hid (wa.ownsRow wo.heap.size 5 1 va n ((c :: t).map bc)) := Lib.hid (by simpa using hoa); have HBa : Below wo.heap.size wo wa := (((Below.refl _ wo).alloc (Nat.le_refl _) _).grown hga (by simp) (fun k hk => (HO0.out.lt k hk).1)); clear hoa hga)
        go_loopw [6] (fun x6 w2 => ∃ (j : Nat) (a6 : Option Addr) (c6 : Nat), x6 = .slice a6 (n + j) c6 ∧ n + j ≤ 3 ∧ Below wo.heap.size wo w2 ∧ Hid (w2.ownsRow wo.heap.size 5 1 (.slice a6 (n + j) c6) (n + j) ((c :: t).map bc ++ (List.replicate j (128 : UInt8)).map bc))) (fun x6 _ => 3 - sliceLen x6)
        case atStart =>
          obtain ⟨a6, c6, hva⟩ := (RowAt.own HOa.out).slice
          rw [HL.out] at hva
          exact ⟨0, a6, c6, hva, by omega, HBa, Lib.hid (by rw [Nat.add_zero, ← hva]; simpa using HOa.out)⟩
        case round =>
          obtain ⟨j, a6, c6, rfl, hjm, hBw, HO⟩ := hrel
          by_cases hlt : n + j < 3
          · have hsA := World.size_alloc wr (.cells #[.int .u8 128] 5)
            have hszw := hBw.size
            go_wp2_with (at_builtin; refine wpList_append_any rfl (.tmp 49) (.tmp 52) 98 rfl wo.heap.size 5 i0 (.int .u8 0) 1 Tryz.underlying98 hi hj0 hj1 hj2 rfl _ (n + j) ((c :: t).map bc ++ (List.replicate j (128 : UInt8)).map bc) rfl (HO.out.alloc _) (.slice (some ⟨wr.heap.size, 0, none⟩) 1 1) 1 [.int .u8 128] rfl (.inr ⟨⟨wr.heap.size, 0, none⟩, 1, rfl, new_cells wr [.int .u8 128] _⟩) rfl (by simp [Value.oneCell']) (by unfold maxLen; omega) (by omega) (by rw [hsA]; omega) ?_; intro vb wb hob hgb; obtain ⟨sa, sm, sc, rfl⟩ := own_sliceR hob; have HBb : Below wo.heap.size wo wb := (hBw.alloc hszw _).grown hgb (by rw [hsA]; omega) (fun k hk => (HO.out.lt k hk).1); have hsl := (RowAt.own hob).slice; clear hgb)
            obtain ⟨a7, c7, h7⟩ := hsl
            have hlen7 : ((c :: t).map bc ++ (List.replicate j (128 : UInt8)).map bc ++ [Value.int .u8 128]).length = n + (j + 1) := by rw [List.length_append, List.length_append, HL.out, List.length_map, List.length_replicate]; rfl
            rw [hlen7] at h7
            have HO7 : Hid (wb.ownsRow wo.heap.size 5 1 (.slice a7 (n + (j + 1)) c7) (n + (j + 1)) ((c :: t).map bc ++ (List.replicate (j + 1) (128 : UInt8)).map bc)) := Lib.hid (by
              rw [List.replicate_succ', List.map_append, ← List.append_assoc, ← h7]; exact hob)
            rw [h7]
            clear hob h7 hlen7
            go_roundw
            case rel => exact ⟨j + 1, a7, c7, rfl, by omega, HBb, HO7⟩
            case measure => simp [sliceLen]; omega
          · have hjm' : n + j = 3 := by omega
            have C := CS.out wr (.slice a6 3 c6) 128 (by rw [← HF.out 128 j (by omega), ← hjm']; exact SrcAt.own HO.out)
            rw [hb1] at C
            obtain ⟨yy, hyy⟩ : ∃ yy, (stdS (fillS (c :: t) 3 128)).1 = yy := ⟨_, rfl⟩
            rw [hyy] at C
            have C := Lib.hid C
            rw [hjm']
            clear HO hyy
            have hBw' := hB.trans (hBw.mono hB.size)
            cases b1
            · go_wp2_with (go_at_call 65; refine C.out.mono ?_; rintro e w5 ⟨rfl, hb5⟩)
              go_roundw
              case rel => exact ⟨191, 191, Lib.hid rfl, rfl, .inr (.inl ⟨rfl, by trivial⟩), hBw'.trans (hb5.mono hBw'.size)⟩
              case measure => simp [intOf]
            · have HE : Hid (begS (c :: t) = true) := Lib.hid (by rw [HBG.out]; simp)
              go_wp2_with (go_at_call 65; refine C.out.mono ?_; rintro e w5 ⟨rfl, hb5⟩)
              go_ret
              exact ⟨ret_bool HE.out.symm, hBw'.trans (hb5.mono hBw'.size)⟩
  
      · obtain rfl : b = 191 := ub_inj (HK.out.trans rfl)
        have hp1 : b1 = false := by rcases HH.out with h | h | h
                                    · omega
                                    · exact h.2
                                    · omega
        clear HH
        rw [show (((191 : Nat)) : Int) = 191 from rfl]
        go_wp2_with (at_builtin; refine wpList_append_any rfl (.tmp 42) (.tmp 43) 98 rfl wo.heap.size 5 i0 (.int .u8 0) 1 Tryz.underlying98 hi hj0 hj1 hj2 rfl _ 0 [] rfl HO0.out _ n ((c :: t).map bc) rfl (HS.out _ hBa) HL.out (one_bc _) (by unfold maxLen; omega) (by omega) (by simp) ?_; intro va wa hoa hga; have HOa : Hid (wa.ownsRow wo.heap.size 5 1 va n ((c :: t).map bc)) := Lib.hid (by simpa using hoa); have HBa : Below wo.heap.size wo wa := (((Below.refl _ wo).alloc (Nat.le_refl _) _).grown hga (by simp) (fun k hk => (HO0.out.lt k hk).1)); clear hoa hga)
        go_loopw [6] (fun x6 w2 => ∃ (j : Nat) (a6 : Option Addr) (c6 : Nat), x6 = .slice a6 (n + j) c6 ∧ n + j ≤ 3 ∧ Below wo.heap.size wo w2 ∧ Hid (w2.ownsRow wo.heap.size 5 1 (.slice a6 (n + j) c6) (n + j) ((c :: t).map bc ++ (List.replicate j (191 : UInt8)).map bc))) (fun x6 _ => 3 - sliceLen x6)
        case atStart =>
          obtain ⟨a6, c6, hva⟩ := (RowAt.own HOa.out).slice
          rw [HL.out] at hva
          exact ⟨0, a6, c6, hva, by omega, HBa, Lib.hid (by rw [Nat.add_zero, ← hva]; simpa using HOa.out)⟩
        case round =>
          obtain ⟨j, a6, c6, rfl, hjm, hBw, HO⟩ := hrel
          by_cases hlt : n + j < 3
          · have hsA := World.size_alloc wr (.cells #[.int .u8 191] 5)
            have hszw := hBw.size
            go_wp2_with (at_builtin; refine wpList_append_any rfl (.tmp 49) (.tmp 52) 98 rfl wo.heap.size 5 i0 (.int .u8 0) 1 Tryz.underlying98 hi hj0 hj1 hj2 rfl _ (n + j) ((c :: t).map bc ++ (List.replicate j (191 : UInt8)).map bc) rfl (HO.out.alloc _) (.slice (some ⟨wr.heap.size, 0, none⟩) 1 1) 1 [.int .u8 191] rfl (.inr ⟨⟨wr.heap.size, 0, none⟩, 1, rfl, new_cells wr [.int .u8 191] _⟩) rfl (by simp [Value.oneCell']) (by unfold maxLen; omega) (by omega) (by rw [hsA]; omega) ?_; intro vb wb hob hgb; obtain ⟨sa, sm, sc, rfl⟩ := own_sliceR hob; have HBb : Below wo.heap.size wo wb := (hBw.alloc hszw _).grown hgb (by rw [hsA]; omega) (fun k hk => (HO.out.lt k hk).1); have hsl := (RowAt.own hob).slice; clear hgb)
            obtain ⟨a7, c7, h7⟩ := hsl
            have hlen7 : ((c :: t).map bc ++ (List.replicate j (191 : UInt8)).map bc ++ [Value.int .u8 191]).length = n + (j + 1) := by rw [List.length_append, List.length_append, HL.out, List.length_map, List.length_replicate]; rfl
            rw [hlen7] at h7
            have HO7 : Hid (wb.ownsRow wo.heap.size 5 1 (.slice a7 (n + (j + 1)) c7) (n + (j + 1)) ((c :: t).map bc ++ (List.replicate (j + 1) (191 : UInt8)).map bc)) := Lib.hid (by
              rw [List.replicate_succ', List.map_append, ← List.append_assoc, ← h7]; exact hob)
            rw [h7]
            clear hob h7 hlen7
            go_roundw
            case rel => exact ⟨j + 1, a7, c7, rfl, by omega, HBb, HO7⟩
            case measure => simp [sliceLen]; omega
          · have hjm' : n + j = 3 := by omega
            have C := CS.out wr (.slice a6 3 c6) 191 (by rw [← HF.out 191 j (by omega), ← hjm']; exact SrcAt.own HO.out)
            rw [hb2] at C
            obtain ⟨yy, hyy⟩ : ∃ yy, (stdS (fillS (c :: t) 3 191)).1 = yy := ⟨_, rfl⟩
            rw [hyy] at C
            have C := Lib.hid C
            rw [hjm']
            clear HO hyy
            have hBw' := hB.trans (hBw.mono hB.size)
            cases b2
            · go_wp2_with (go_at_call 65; refine C.out.mono ?_; rintro e w5 ⟨rfl, hb5⟩)
              go_roundw
              case rel => exact ⟨254, 254, Lib.hid rfl, rfl, .inr (.inr ⟨rfl, hp1, by trivial⟩), hBw'.trans (hb5.mono hBw'.size)⟩
              case measure => simp [intOf]
            · have HE : Hid (begS (c :: t) = true) := Lib.hid (by rw [HBG.out]; simp)
              go_wp2_with (go_at_call 65; refine C.out.mono ?_; rintro e w5 ⟨rfl, hb5⟩)
              go_ret
              exact ⟨ret_bool HE.out.symm, hBw'.trans (hb5.mono hBw'.size)⟩
set_option maxRecDepth 100000 in
set_option maxHeartbeats 12800000 in
theorem begins_4 (a : Option Addr) (n cap : Nat) (c : UInt8) (t : List UInt8) (w : World) (h : SrcAt w (.slice a n cap) n ((c :: t).map bc)) (hn : n = t.length + 1) (h1 : 240 ≤ ub c) (h2 : ub c < 248) (hm : n < 4) :
    Calls Tryz.prog 66 #[.slice a n cap] w fun e w' => e = .returned (.bool (begS (c :: t))) ∧ Below w.heap.size w w' := by
  have hB : BytesAt w (.slice a n cap) (c :: t) := h.row (by simpa using hn)
  have hmx : manyS (ub c) = 4 := many_4 h1 h2
  have hbeg := beg_else (c := c) (t := t) (by rw [hmx]; omega)
  rw [hmx] at hbeg
  obtain ⟨b1, hb1⟩ : ∃ b, (stdS (fillS (c :: t) 4 128)).2 = b := ⟨_, rfl⟩
  obtain ⟨b2, hb2⟩ : ∃ b, (stdS (fillS (c :: t) 4 191)).2 = b := ⟨_, rfl⟩
  rw [hb1, hb2] at hbeg
  have HBG := Lib.hid hbeg
  have CS : Hid (∀ (W : World) v (x : UInt8), SrcAt W v 4 ((fillS (c :: t) 4 x).map bc) → Calls Tryz.prog 65 #[v] W fun e w' => e = .returned (.tuple #[.int .i32 (stdS (fillS (c :: t) 4 x)).1, .bool (stdS (fillS (c :: t) 4 x)).2]) ∧ Below W.heap.size W w') := Lib.hid fun W v x hs => by
    have hfl : (t ++ List.replicate (4 - (c :: t).length) x).length + 1 = 4 := by rw [List.length_append, List.length_replicate, List.length_cons]; omega
    have := stands_any v c (t ++ List.replicate (4 - (c :: t).length) x) W (by rw [hfl]; exact hs) (by omega)
    exact this
  have HS : Hid (∀ W, Below w.heap.size w W → SrcAt W (.slice a n cap) n ((c :: t).map bc)) := Lib.hid fun W hb => h.below hb (Nat.le_refl _)
  have HL : Hid ((((c :: t).map bc)).length = n) := Lib.hid (by rw [List.length_map, List.length_cons]; omega)
  have HF : Hid (∀ (x : UInt8) j, j = 4 - n → (c :: t).map bc ++ (List.replicate j x).map bc = (fillS (c :: t) 4 x).map bc) := Lib.hid fun x j hj => by
    unfold fillS; rw [List.map_append, hj, hn]; rfl
  have c0 : ∃ g off, a = some ⟨g, off, none⟩ ∧ w.cell? ⟨g, off, none⟩ = some (.int .u8 (ub c)) := by
    rcases hB with ⟨_, _, _, hnil⟩ | ⟨g, off, _, _, hv, _, _, hc⟩
    · simp at hnil
    · refine ⟨g, off, (Value.slice.inj hv).1, ?_⟩
      have := hc 0 (bc c) rfl
      rwa [Nat.add_zero] at this
  obtain ⟨g, off, ha, c0⟩ := c0
  obtain ⟨x, hx⟩ : ∃ x, ub c = x := ⟨_, rfl⟩
  rw [hx] at c0 h1 h2
  subst ha
  have hn1 : 1 ≤ n := by omega
  obtain ⟨i0, hi, hj0, hj1, hj2⟩ := info_parts2R info5
  have hdA : decide ((224 : Int) ≤ x) = true := decide_eq_true (by omega)
  have hdB : decide (x < 224) = false := decide_eq_false (by omega)
  have hdC : decide ((240 : Int) ≤ x) = true := decide_eq_true (by omega)
  have hdD : decide (x < 240) = false := decide_eq_false (by omega)
  have hx3 : 192 ≤ x ∧ x < 248 := by omega
  obtain ⟨hx4, hx5⟩ := hx3
  clear hB h hmx hbeg hn hx
  go_enter Tryz.func66, Tryz.ntmps66
  go_wp2
  go_loopw [5] (fun x5 wr => ∃ (k : Nat) (b : UInt8), Hid (ub b = (k : Int)) ∧ x5 = .int .i64 k ∧ (k = 128 ∨ (k = 191 ∧ b1 = false) ∨ (k = 254 ∧ b1 = false ∧ b2 = false)) ∧ Below w.heap.size w wr) (fun x5 _ => 300 - (intOf x5).toNat)
  case atStart => exact ⟨128, 128, Lib.hid rfl, rfl, .inl rfl, Below.refl _ _⟩
  case round =>
    obtain ⟨k, b, HK, rfl, hk, hB⟩ := hrel
    by_cases hlast : k = 254
    · subst hlast
      have hf : b1 = false ∧ b2 = false := by
        rcases hk with h | h | h
        · omega
        · omega
        · exact h.2
      have HE : Hid (begS (c :: t) = false) := Lib.hid (by rw [HBG.out, hf.1, hf.2]; rfl)
      clear hk hf
      go_wp2
      go_ret
      exact ⟨ret_bool HE.out.symm, hB⟩
    · have hk2 : k = 128 ∨ k = 191 := by omega
      obtain ⟨wo, rfl⟩ : ∃ wo : World, wo = wr := ⟨_, rfl⟩
      have HO0 : Hid ((wo.alloc (.cells #[] 5)).ownsRow wo.heap.size 5 1 (.slice (some ⟨wo.heap.size, 0, none⟩) 0 0) 0 []) := Lib.hid (World.ownsRow_made wo #[] 0 (Nat.le_refl _) (by unfold maxLen; omega) rfl)
      have hBa := hB.alloc hB.size (.cells #[] 5)
      have HH := Lib.hid hk
      clear hk hlast
      rcases hk2 with rfl | rfl

      · obtain rfl : b = 128 := ub_inj (HK.out.trans rfl)
        clear HH
        rw [show (((128 : Nat)) : Int) = 128 from rfl]
        go_wp2_with (at_builtin; refine wpList_append_any rfl (.tmp 42) (.tmp 43) 98 rfl wo.heap.size 5 i0 (.int .u8 0) 1 Tryz.underlying98 hi hj0 hj1 hj2 rfl _ 0 [] rfl HO0.out _ n ((c :: t).map bc) rfl (HS.out _ hBa) HL.out (one_bc _) (by unfold maxLen; omega) (by omega) (by simp) ?_; intro va wa hoa hga; have HOa : Hid (wa.ownsRow wo.heap.size 5 1 va n ((c :: t).map bc)) := Lib.hid (by simpa using hoa); have HBa : Below wo.heap.size wo wa := (((Below.refl _ wo).alloc (Nat.le_refl _) _).grown hga (by simp) (fun k hk => (HO0.out.lt k hk).1)); clear hoa hga)
        go_loopw [6] (fun x6 w2 => ∃ (j : Nat) (a6 : Option Addr) (c6 : Nat), x6 = .slice a6 (n + j) c6 ∧ n + j ≤ 4 ∧ Below wo.heap.size wo w2 ∧ Hid (w2.ownsRow wo.heap.size 5 1 (.slice a6 (n + j) c6) (n + j) ((c :: t).map bc ++ (List.replicate j (128 : UInt8)).map bc))) (fun x6 _ => 4 - sliceLen x6)
        case atStart =>
          obtain ⟨a6, c6, hva⟩ := (RowAt.own HOa.out).slice
          rw [HL.out] at hva
          exact ⟨0, a6, c6, hva, by omega, HBa, Lib.hid (by rw [Nat.add_zero, ← hva]; simpa using HOa.out)⟩
        case round =>
          obtain ⟨j, a6, c6, rfl, hjm, hBw, HO⟩ := hrel
          by_cases hlt : n + j < 4
          · have hsA := World.size_alloc wr (.cells #[.int .u8 128] 5)
            have hszw := hBw.size
            go_wp2_with (at_builtin; refine wpList_append_any rfl (.tmp 49) (.tmp 52) 98 rfl wo.heap.size 5 i0 (.int .u8 0) 1 Tryz.underlying98 hi hj0 hj1 hj2 rfl _ (n + j) ((c :: t).map bc ++ (List.replicate j (128 : UInt8)).map bc) rfl (HO.out.alloc _) (.slice (some ⟨wr.heap.size, 0, none⟩) 1 1) 1 [.int .u8 128] rfl (.inr ⟨⟨wr.heap.size, 0, none⟩, 1, rfl, new_cells wr [.int .u8 128] _⟩) rfl (by simp [Value.oneCell']) (by unfold maxLen; omega) (by omega) (by rw [hsA]; omega) ?_; intro vb wb hob hgb; obtain ⟨sa, sm, sc, rfl⟩ := own_sliceR hob; have HBb : Below wo.heap.size wo wb := (hBw.alloc hszw _).grown hgb (by rw [hsA]; omega) (fun k hk => (HO.out.lt k hk).1); have hsl := (RowAt.own hob).slice; clear hgb)
            obtain ⟨a7, c7, h7⟩ := hsl
            have hlen7 : ((c :: t).map bc ++ (List.replicate j (128 : UInt8)).map bc ++ [Value.int .u8 128]).length = n + (j + 1) := by rw [List.length_append, List.length_append, HL.out, List.length_map, List.length_replicate]; rfl
            rw [hlen7] at h7
            have HO7 : Hid (wb.ownsRow wo.heap.size 5 1 (.slice a7 (n + (j + 1)) c7) (n + (j + 1)) ((c :: t).map bc ++ (List.replicate (j + 1) (128 : UInt8)).map bc)) := Lib.hid (by
              rw [List.replicate_succ', List.map_append, ← List.append_assoc, ← h7]; exact hob)
            rw [h7]
            clear hob h7 hlen7
            go_roundw
            case rel => exact ⟨j + 1, a7, c7, rfl, by omega, HBb, HO7⟩
            case measure => simp [sliceLen]; omega
          · have hjm' : n + j = 4 := by omega
            have C := CS.out wr (.slice a6 4 c6) 128 (by rw [← HF.out 128 j (by omega), ← hjm']; exact SrcAt.own HO.out)
            rw [hb1] at C
            obtain ⟨yy, hyy⟩ : ∃ yy, (stdS (fillS (c :: t) 4 128)).1 = yy := ⟨_, rfl⟩
            rw [hyy] at C
            have C := Lib.hid C
            rw [hjm']
            clear HO hyy
            have hBw' := hB.trans (hBw.mono hB.size)
            cases b1
            · go_wp2_with (go_at_call 65; refine C.out.mono ?_; rintro e w5 ⟨rfl, hb5⟩)
              go_roundw
              case rel => exact ⟨191, 191, Lib.hid rfl, rfl, .inr (.inl ⟨rfl, by trivial⟩), hBw'.trans (hb5.mono hBw'.size)⟩
              case measure => simp [intOf]
            · have HE : Hid (begS (c :: t) = true) := Lib.hid (by rw [HBG.out]; simp)
              go_wp2_with (go_at_call 65; refine C.out.mono ?_; rintro e w5 ⟨rfl, hb5⟩)
              go_ret
              exact ⟨ret_bool HE.out.symm, hBw'.trans (hb5.mono hBw'.size)⟩
  
      · obtain rfl : b = 191 := ub_inj (HK.out.trans rfl)
        have hp1 : b1 = false := by rcases HH.out with h | h | h
                                    · omega
                                    · exact h.2
                                    · omega
        clear HH
        rw [show (((191 : Nat)) : Int) = 191 from rfl]
        go_wp2_with (at_builtin; refine wpList_append_any rfl (.tmp 42) (.tmp 43) 98 rfl wo.heap.size 5 i0 (.int .u8 0) 1 Tryz.underlying98 hi hj0 hj1 hj2 rfl _ 0 [] rfl HO0.out _ n ((c :: t).map bc) rfl (HS.out _ hBa) HL.out (one_bc _) (by unfold maxLen; omega) (by omega) (by simp) ?_; intro va wa hoa hga; have HOa : Hid (wa.ownsRow wo.heap.size 5 1 va n ((c :: t).map bc)) := Lib.hid (by simpa using hoa); have HBa : Below wo.heap.size wo wa := (((Below.refl _ wo).alloc (Nat.le_refl _) _).grown hga (by simp) (fun k hk => (HO0.out.lt k hk).1)); clear hoa hga)
        go_loopw [6] (fun x6 w2 => ∃ (j : Nat) (a6 : Option Addr) (c6 : Nat), x6 = .slice a6 (n + j) c6 ∧ n + j ≤ 4 ∧ Below wo.heap.size wo w2 ∧ Hid (w2.ownsRow wo.heap.size 5 1 (.slice a6 (n + j) c6) (n + j) ((c :: t).map bc ++ (List.replicate j (191 : UInt8)).map bc))) (fun x6 _ => 4 - sliceLen x6)
        case atStart =>
          obtain ⟨a6, c6, hva⟩ := (RowAt.own HOa.out).slice
          rw [HL.out] at hva
          exact ⟨0, a6, c6, hva, by omega, HBa, Lib.hid (by rw [Nat.add_zero, ← hva]; simpa using HOa.out)⟩
        case round =>
          obtain ⟨j, a6, c6, rfl, hjm, hBw, HO⟩ := hrel
          by_cases hlt : n + j < 4
          · have hsA := World.size_alloc wr (.cells #[.int .u8 191] 5)
            have hszw := hBw.size
            go_wp2_with (at_builtin; refine wpList_append_any rfl (.tmp 49) (.tmp 52) 98 rfl wo.heap.size 5 i0 (.int .u8 0) 1 Tryz.underlying98 hi hj0 hj1 hj2 rfl _ (n + j) ((c :: t).map bc ++ (List.replicate j (191 : UInt8)).map bc) rfl (HO.out.alloc _) (.slice (some ⟨wr.heap.size, 0, none⟩) 1 1) 1 [.int .u8 191] rfl (.inr ⟨⟨wr.heap.size, 0, none⟩, 1, rfl, new_cells wr [.int .u8 191] _⟩) rfl (by simp [Value.oneCell']) (by unfold maxLen; omega) (by omega) (by rw [hsA]; omega) ?_; intro vb wb hob hgb; obtain ⟨sa, sm, sc, rfl⟩ := own_sliceR hob; have HBb : Below wo.heap.size wo wb := (hBw.alloc hszw _).grown hgb (by rw [hsA]; omega) (fun k hk => (HO.out.lt k hk).1); have hsl := (RowAt.own hob).slice; clear hgb)
            obtain ⟨a7, c7, h7⟩ := hsl
            have hlen7 : ((c :: t).map bc ++ (List.replicate j (191 : UInt8)).map bc ++ [Value.int .u8 191]).length = n + (j + 1) := by rw [List.length_append, List.length_append, HL.out, List.length_map, List.length_replicate]; rfl
            rw [hlen7] at h7
            have HO7 : Hid (wb.ownsRow wo.heap.size 5 1 (.slice a7 (n + (j + 1)) c7) (n + (j + 1)) ((c :: t).map bc ++ (List.replicate (j + 1) (191 : UInt8)).map bc)) := Lib.hid (by
              rw [List.replicate_succ', List.map_append, ← List.append_assoc, ← h7]; exact hob)
            rw [h7]
            clear hob h7 hlen7
            go_roundw
            case rel => exact ⟨j + 1, a7, c7, rfl, by omega, HBb, HO7⟩
            case measure => simp [sliceLen]; omega
          · have hjm' : n + j = 4 := by omega
            have C := CS.out wr (.slice a6 4 c6) 191 (by rw [← HF.out 191 j (by omega), ← hjm']; exact SrcAt.own HO.out)
            rw [hb2] at C
            obtain ⟨yy, hyy⟩ : ∃ yy, (stdS (fillS (c :: t) 4 191)).1 = yy := ⟨_, rfl⟩
            rw [hyy] at C
            have C := Lib.hid C
            rw [hjm']
            clear HO hyy
            have hBw' := hB.trans (hBw.mono hB.size)
            cases b2
            · go_wp2_with (go_at_call 65; refine C.out.mono ?_; rintro e w5 ⟨rfl, hb5⟩)
              go_roundw
              case rel => exact ⟨254, 254, Lib.hid rfl, rfl, .inr (.inr ⟨rfl, hp1, by trivial⟩), hBw'.trans (hb5.mono hBw'.size)⟩
              case measure => simp [intOf]
            · have HE : Hid (begS (c :: t) = true) := Lib.hid (by rw [HBG.out]; simp)
              go_wp2_with (go_at_call 65; refine C.out.mono ?_; rintro e w5 ⟨rfl, hb5⟩)
              go_ret
              exact ⟨ret_bool HE.out.symm, hBw'.trans (hb5.mono hBw'.size)⟩
end Go.Proofs.YtdiinlmeoifgjaaGreatDoor
