/- Contracts of words.writtenByte and words.quotedAt, and of the reference's quoted. -/
import Derived.Test.YtnajkkbcfebegaaGreatDoorUnqSpec
import Derived.Test.YtnajkkbcfebegaaGreatDoorShelf
import Derived.BigQuiet
import Derived.Deep.QuietTactic
import Derived.Deep.RegionWith
import Derived.Deep.DeepCutAuto
namespace Go.Proofs.YtnajkkbcfebegaaGreatDoor
open Go.RowKit Go.PlainAid

def rdV (l : List UInt8) : UInt8 × Nat := (rd l).getD (0, 0)
theorem bt_list (s : ByteArray) (k : Nat) (h : k < s.size) : bt s k = ((s.data.toList[k]'(by simpa using h)).toNat : Int) := by rw [bt_get s k h]; rfl
theorem u8_of {a : UInt8} {n : Int} {d : UInt8} (h : (a.toNat : Int) = n) (hd : (d.toNat : Int) = n) : a = d := by apply UInt8.toNat_inj.1; omega
theorem lst1 (l : List UInt8) (h : 0 < l.length) : ∃ r, l = l[0] :: r := ⟨l.drop 1, by have := List.drop_eq_getElem_cons h; simpa using this⟩
theorem lst2 (l : List UInt8) (h : 1 < l.length) : ∃ r, l = l[0] :: l[1] :: r ∧ r.length = l.length - 2 := by
  match l, h with
  | a :: b :: r, _ => exact ⟨r, rfl, by simp⟩
theorem lst4 (l : List UInt8) (h : 3 < l.length) : ∃ r, l = l[0] :: l[1] :: l[2] :: l[3] :: r := by
  match l, h with
  | a :: b :: c :: d :: r, _ => exact ⟨r, rfl⟩

theorem rdV_plain {l : List UInt8} (h : 0 < l.length) (hp : plainB l[0].toNat = true) : rdV l = (l[0], 1) := by
  obtain ⟨r, e⟩ := lst1 l h
  generalize l[0] = a at *
  subst e
  simp [rdV, rd, hp]
theorem rdV_no {l : List UInt8} (h : 0 < l.length) (hp : plainB l[0].toNat = false) (hb : (l[0].toNat : Int) ≠ 92) : rdV l = (0, 0) := by
  obtain ⟨r, e⟩ := lst1 l h
  generalize l[0] = a at *
  subst e
  have : a ≠ 92 := fun e => hb (by rw [e]; rfl)
  simp [rdV, rd, hp, this]
theorem rdV_short {l : List UInt8} (h : 0 < l.length) (h2 : l.length < 2) (hb : (l[0].toNat : Int) = 92) : rdV l = (0, 0) := by
  match l, h, h2 with
  | [a], _, _ =>
    have : a = 92 := u8_of hb rfl
    subst this; rfl
theorem rdV_two {l : List UInt8} (h : 1 < l.length) (hb : (l[0].toNat : Int) = 92) {k : Nat} (hk : k < 5) (h1 : escLet k = (l[1].toNat : Int)) : rdV l = (UInt8.ofNat (escChr k).toNat, 2) := by
  obtain ⟨r, e, _⟩ := lst2 l h
  generalize l[0] = a at *
  generalize l[1] = b at *
  subst e
  have : a = 92 := u8_of hb rfl
  subst this
  have hb : b = UInt8.ofNat (escLet k).toNat := by rw [h1]; simp
  match k, hk with
  | 0, _ => rw [hb]; rfl
  | 1, _ => rw [hb]; rfl
  | 2, _ => rw [hb]; rfl
  | 3, _ => rw [hb]; rfl
  | 4, _ => rw [hb]; rfl
theorem rd_other {b : UInt8} {r : List UInt8} (h : ∀ k, k < 5 → escLet k ≠ (b.toNat : Int)) : rd (92 :: b :: r) = if b ≠ 120 then none else rdHex r := by
  have g : ∀ (k : Nat) (d : UInt8), k < 5 → (d.toNat : Int) = escLet k → b ≠ d := fun k d hk hd e => h k hk (by rw [e, hd])
  show rdEsc b r = _
  unfold rdEsc
  rw [if_neg (g 0 34 (by omega) rfl), if_neg (g 1 92 (by omega) rfl), if_neg (g 2 110 (by omega) rfl), if_neg (g 3 114 (by omega) rfl), if_neg (g 4 116 (by omega) rfl)]
theorem rdV_not {l : List UInt8} (h : 1 < l.length) (hb : (l[0].toNat : Int) = 92) (hn : ∀ k, k < 5 → escLet k ≠ (l[1].toNat : Int)) (hx : (l[1].toNat : Int) ≠ 120 ∨ l.length < 4) : rdV l = (0, 0) := by
  match l, h with
  | a :: b :: r, _ =>
    have : a = 92 := u8_of hb rfl
    subst this
    unfold rdV
    rw [rd_other (b := b) (r := r) hn]
    rcases hx with hx | hx
    · rw [if_pos (fun e => hx (by simp [e]))]; rfl
    · match r with
      | [] => split <;> rfl
      | [x] => split <;> rfl
      | x :: y :: r => simp at hx; omega
theorem rdV_hex {l : List UInt8} (h : 3 < l.length) (hb : (l[0].toNat : Int) = 92) (hx : (l[1].toNat : Int) = 120) :
    rdV l = if hv l[2] < 0 ∨ hv l[3] < 0 then (0, 0) else if esc (hexC l[2] l[3]) = [l[0], l[1], l[2], l[3]] then (hexC l[2] l[3], 4) else (0, 0) := by
  match l, h with
  | a :: b :: c :: d :: r, _ =>
    have : a = 92 := u8_of hb rfl
    subst this
    have : b = 120 := u8_of hx rfl
    subst this
    unfold rdV
    rw [rd_other (fun k hk => by match k, hk with | 0, _ => decide | 1, _ => decide | 2, _ => decide | 3, _ => decide | 4, _ => decide)]
    show (if hv c < 0 ∨ hv d < 0 then none else if esc (hexC c d) = [92, 120, c, d] then some (hexC c d, 4) else none).getD (0, 0) = if hv c < 0 ∨ hv d < 0 then (0, 0) else if esc (hexC c d) = [92, 120, c, d] then (hexC c d, 4) else (0, 0)
    split
    · rfl
    · split <;> rfl

theorem take4 (l : List UInt8) (hl : 3 < l.length) (a0 : l[0] = 92) (a1 : l[1] = 120) : l.take 4 = ([92, 120, l[2], l[3]] : List UInt8) := by
  match l, hl with
  | a :: b :: c :: d :: r, _ => simp at a0 a1; simp [a0, a1]
theorem or16_fin : ∀ a b : Fin 16, bits BinOp.or IntKind.i64 ((a.val : Int) * 16) (b.val : Int) = 16 * (a.val : Int) + (b.val : Int) := by decide +kernel
theorem or16 {x y : Int} (x0 : 0 ≤ x) (x1 : x < 16) (y0 : 0 ≤ y) (y1 : y < 16) : bits BinOp.or IntKind.i64 (x * 16) y = 16 * x + y := by
  have := or16_fin ⟨x.toNat, by omega⟩ ⟨y.toNat, by omega⟩
  simp only [Int.toNat_of_nonneg x0, Int.toNat_of_nonneg y0] at this
  exact this
theorem hexC_val {c d : UInt8} {x y : Int} (hx : x = hv c) (hy : y = hv d) (x0 : 0 ≤ x) (x1 : x < 16) (y0 : 0 ≤ y) (y1 : y < 16) :
    bits BinOp.or IntKind.i64 (x * 16) y % 256 = ((hexC c d).toNat : Int) := by
  rw [or16 x0 x1 y0 y1]; unfold hexC; rw [← hx, ← hy]; simp; omega
theorem str_inj {a b : List UInt8} (h : str a = str b) : a = b := by
  rw [← str_list a, ← str_list b, h]
theorem str_ne {a : List UInt8} {t : ByteArray} {b : List UInt8} (ht : t = str b) (h : (!(str a).toList == t.toList) = true) : ¬ a = b := by
  subst ht; rw [ByteArray.toList_eq, ByteArray.toList_eq] at h
  intro e; subst e; simp at h
theorem str_same {a : List UInt8} {t : ByteArray} {b : List UInt8} (ht : t = str b) (h : (!(str a).toList == t.toList) = false) : a = b := by
  subst ht; rw [ByteArray.toList_eq, ByteArray.toList_eq] at h
  simp at h; exact str_inj (ByteArray.ext h)
theorem hex_case (s : ByteArray) (h4 : 4 ≤ s.size) (h0 : bt s 0 = 92) (h1 : bt s 1 = 120) : ∃ c d : UInt8,
    Lib.indexByte hexS.data.toList (bt s 2).toNat.toUInt8 = hv c ∧ Lib.indexByte hexS.data.toList (bt s 3).toNat.toUInt8 = hv d ∧ s.extract 0 4 = str [92, 120, c, d] ∧
    rdV s.data.toList = if hv c < 0 ∨ hv d < 0 then (0, 0) else if esc (hexC c d) = [92, 120, c, d] then (hexC c d, 4) else (0, 0) := by
  have b0 := bt_list s 0 (by omega)
  have b1 := bt_list s 1 (by omega)
  have b2 := bt_list s 2 (by omega)
  have b3 := bt_list s 3 (by omega)
  have hl : 3 < s.data.toList.length := by simp; omega
  have hr := rdV_hex hl (by rw [← b0]; exact h0) (by rw [← b1]; exact h1)
  have hx : s.extract 0 4 = str [92, 120, s.data.toList[2], s.data.toList[3]] := by
    have e : (s.extract 0 4).data.toList = s.data.toList.take 4 := by rw [Lib.extract_data]; simp
    rw [← str_data (s.extract 0 4), e]
    congr 1
    have a0 : s.data.toList[0] = 92 := u8_of (by rw [← b0]; exact h0) rfl
    have a1 : s.data.toList[1] = 120 := u8_of (by rw [← b1]; exact h1) rfl
    exact take4 _ hl a0 a1
  have a0 : s.data.toList[0] = 92 := u8_of (by rw [← b0]; exact h0) rfl
  have a1 : s.data.toList[1] = 120 := u8_of (by rw [← b1]; exact h1) rfl
  refine ⟨s.data.toList[2], s.data.toList[3], ?_, ?_, hx, ?_⟩
  · rw [b2]; unfold hv; simp
  · rw [b3]; unfold hv; simp
  · rw [hr, a0, a1]
theorem chr_nat (k : Nat) : ((UInt8.ofNat (escChr k).toNat).toNat : Int) = escChr k := by
  match k with
  | 0 => rfl
  | 1 => rfl
  | 2 => rfl
  | 3 => rfl
  | k + 4 => rfl
def WrV (s : ByteArray) (w : World) (e : Ending) (w' : World) : Prop :=
  e = .returned (.tuple #[.int .u8 ((rdV s.data.toList).1.toNat : Int), .int .i64 ((rdV s.data.toList).2 : Int)]) ∧ Below w.heap.size w w'
theorem wr_of {s : ByteArray} {w w' : World} {c : Int} {n : Int} {d : UInt8} {m : Nat} (h : rdV s.data.toList = (d, m)) (hc : (d.toNat : Int) = c) (hn : (m : Int) = n) (hb : Below w.heap.size w w') :
    WrV s w (.returned (.tuple #[.int .u8 c, .int .i64 n])) w' := by unfold WrV; rw [h, hc, hn]; exact ⟨rfl, hb⟩

set_option maxHeartbeats 3200000 in
set_option maxRecDepth 20000 in
theorem writtenByte_any (s : ByteArray) (w : World) (h0 : 0 < s.size) (hs : s.size ≤ 1000000000) (htab : EscTab w) (hw : 0 < w.heap.size) :
    Calls Tryz.prog 57 #[.string s] w (WrV s w) := by
  have hb := get_bt s
  have hl0 : 0 < s.data.toList.length := by simpa using h0
  have HL := Lib.hid hl0
  have hb0 := Lib.hid (bt_list s 0 h0)
  clear hl0
  cases hp : plainB (bt s 0)
  · by_cases h92 : bt s 0 = 92
    · have H92 := Lib.hid h92
      by_cases h2 : s.size < 2
      · have hn : ((bt s 0) != 92) = false := by simp [h92]
        clear h92
        go_enter Tryz.func57, Tryz.ntmps57
        go_wp2_with (go_at_call 56; refine (plainByte_any _ _).mono ?_; rintro e w' ⟨rfl, rfl⟩)
        go_ret2
        exact wr_of (rdV_short HL.out (by simpa using h2) (by rw [← hb0.out]; exact H92.out)) rfl rfl (Below.refl _ _)
      · have h2' : 2 ≤ s.size := by omega
        have hn : ((bt s 0) != 92) = false := by simp [h92]
        clear h2
        have htab0 := htab
        obtain ⟨tt, fr, htab'⟩ := htab
        go_enter Tryz.func57, Tryz.ntmps57
        go_wp2_with (first | (go_at_call 56; refine (plainByte_any _ _).mono ?_; rintro e w' ⟨rfl, rfl⟩) | (refine wpList_load_row rfl 96 _ rfl 0 rfl tt _ fr _ htab' Tryz.underlying96 rfl (by kernel_rfl) ?_))
        obtain ⟨B, hB⟩ : ∃ B, B = w.heap.size := ⟨_, rfl⟩
        have HT := Lib.hid htab0
        have HW := Lib.hid hB
        have hbe : Below B w w := Below.refl _ _
        have hsz : Hid (B ≤ w.heap.size) := Lib.hid (by omega)
        clear htab' htab0 hB
        have hl1 : Hid (1 < s.data.toList.length) := Lib.hid (by simp; omega)
        have hb1 := Lib.hid (bt_list s 1 h2')
        have h1i : (1 : Int) < (s.size : Int) := by omega
        go_loopw [22] (fun i wr => ∃ k : Nat, k ≤ 5 ∧ i = .int .i64 k ∧ Below B w wr ∧ Hid (B ≤ wr.heap.size) ∧ Hid (∀ j, j < k → escLet j ≠ bt s 1)) (fun i _ => 5 - (intOf i).toNat)
        case atStart => exact ⟨0, by omega, rfl, hbe, hsz, Lib.hid (fun j hj => by omega)⟩
        case round =>
          clear hbe hsz
          obtain ⟨k, hk, rfl, hbel, hsz, hno⟩ := hrel
          by_cases hk5 : k < 5
          · have hx := ixk k hk5
            go_wp2_with fail
            go_quiet (fail)
            go_wp2
            · go_ret2
              exact wr_of (rdV_two hl1.out (by rw [← hb0.out]; exact H92.out) hk5 (by rw [← hb1.out]; simpa using ‹(escLet k == bt s 1) = true›)) (chr_nat k) rfl (by rw [← HW.out]; exact below_drewN (hbel.alloc hsz.out _) _)
            · go_roundw
              case rel => exact ⟨k + 1, by omega, by go_num, below_drewN (hbel.alloc hsz.out _) _, Lib.hid (by have := hsz.out; simp; omega), Lib.hid (upto_succ hno.out (by simpa using ‹(escLet k == bt s 1) = false›))⟩
              case measure => simp [intOf]; omega
          · obtain rfl : k = 5 := by omega
            clear hk5 hk
            have h92' := H92.out
            have H92' := Lib.hid h92'
            by_cases hx : bt s 1 = 120
            · by_cases h4 : s.size < 4
              · go_wp2
                go_ret2
                exact wr_of (rdV_not hl1.out (by rw [← hb0.out]; exact H92.out) (by rw [← hb1.out]; exact hno.out) (.inr (by simpa using h4))) rfl rfl (by rw [← HW.out]; exact hbel)
              · have h4' : 4 ≤ s.size := by omega
                clear h4
                obtain ⟨cc, cd, q2, q3, qx, V⟩ := hex_case s h4' h92' hx
                have r2 := hv_range cc
                have r3 := hv_range cd
                obtain ⟨x, hx2⟩ : ∃ x, x = hv cc := ⟨_, rfl⟩
                obtain ⟨y, hy3⟩ : ∃ y, y = hv cd := ⟨_, rfl⟩
                rw [← hx2] at r2 q2 V
                rw [← hy3] at r3 q3 V
                have Q2 := Lib.hid q2
                have Q3 := Lib.hid q3
                have QX := Lib.hid qx
                have VV := Lib.hid V
                have HX2 := Lib.hid hx2
                have HY3 := Lib.hid hy3
                clear hx2 hy3 q2 q3 qx V
                have h2i : (2 : Int) < (s.size : Int) := by omega
                have h3i : (3 : Int) < (s.size : Int) := by omega
                go_wp2_with fail
                go_quiet ((go_at_call 69; exact Calls.quiet_of_same (Tryz.strings_IndexByte _ _ _)))
                rw [show (Lib.indexByte { data := #[48, 49, 50, 51, 52, 53, 54, 55, 56, 57, 97, 98, 99, 100, 101, 102] : ByteArray }.data.toList (bt s 2).toNat.toUInt8) = x from Q2.out,
                  show (Lib.indexByte { data := #[48, 49, 50, 51, 52, 53, 54, 55, 56, 57, 97, 98, 99, 100, 101, 102] : ByteArray }.data.toList (bt s 3).toNat.toUInt8) = y from Q3.out]
                by_cases hbad : x < 0 ∨ y < 0
                · have hv0 : Hid (rdV s.data.toList = (0, 0)) := Lib.hid (by rw [VV.out, if_pos hbad])
                  rcases hbad with hb' | hb'
                  · go_wp2
                    go_ret2
                    exact wr_of hv0.out rfl rfl (by rw [← HW.out]; exact below_drewN hbel _)
                  · go_wp2
                    all_goals go_ret2
                    all_goals exact wr_of hv0.out rfl rfl (by rw [← HW.out]; exact below_drewN hbel _)
                · have x0 : 0 ≤ x := by omega
                  have x1 : x < 16 := by omega
                  have y0 : 0 ≤ y := by omega
                  have y1 : y < 16 := by omega
                  have NB := Lib.hid hbad
                  clear hbad r2 r3
                  have CV := Lib.hid (hexC_val HX2.out HY3.out x0 x1 y0 y1)
                  have TB : Hid (∀ n, EscTab (wr.drewN n)) := Lib.hid (esc_drewN (esc_below HT.out hbel (by rw [HW.out]; exact hw)))
                  go_wp2_with fail
                  rw [CV.out]
                  have x4 : (4 : Int) ≤ (s.size : Int) := by omega
                  go_region_with (go_at_call 41; refine (appendWritten_any wr.heap.size _ [] _ _ (World.ownsRow_nil _ _ _ _) (by exact Nat.le_refl _) (by simp) (TB.out _)).mono ?_; rintro e w1 ⟨v1, rfl, hown1, hbel1⟩; have hcv := conv_own Tryz.underlying65 Tryz.underlying5 hown1 9 Tryz.underlying9)
                  have hB1 : Below B w w1 := (below_drewN hbel _).trans (hbel1.mono hsz.out)
                  go_wp2
                  · go_ret2
                    have hne := str_ne QX.out ‹_›
                    exact wr_of (d := 0) (m := 0) (by rw [VV.out, if_neg NB.out, if_neg hne]) rfl rfl (by rw [← HW.out]; exact hB1)
                  · go_ret2
                    have heq := str_same QX.out ‹_›
                    exact wr_of (by rw [VV.out, if_neg NB.out, if_pos heq]) rfl rfl (by rw [← HW.out]; exact hB1)
            · go_wp2
              go_ret2
              exact wr_of (rdV_not hl1.out (by rw [← hb0.out]; exact H92.out) (by rw [← hb1.out]; exact hno.out) (.inl (by rw [← hb1.out]; exact hx))) rfl rfl (by rw [← HW.out]; exact hbel)
    · have hn : ((bt s 0) != 92) = true := by simpa using h92
      go_enter Tryz.func57, Tryz.ntmps57
      go_wp2_with (go_at_call 56; refine (plainByte_any _ _).mono ?_; rintro e w' ⟨rfl, rfl⟩)
      go_ret2
      exact wr_of (rdV_no HL.out (by rw [← hb0.out]; exact hp) (by rw [← hb0.out]; exact h92)) rfl rfl (Below.refl _ _)
  · have hn : ((bt s 0) != 92) = true := by
      rw [bne_iff_ne]; intro e; rw [e] at hp; cases hp
    go_enter Tryz.func57, Tryz.ntmps57
    go_wp2_with (go_at_call 56; refine (plainByte_any _ _).mono ?_; rintro e w' ⟨rfl, rfl⟩)
    go_ret2
    exact wr_of (rdV_plain HL.out (by rw [← hb0.out]; exact hp)) hb0.out.symm rfl (Below.refl _ _)

/-- What quotedAt returns: the string and where the form ends, or that there is none. -/
def QuoV (s : ByteArray) (p : Nat) (w : World) (e : Ending) (w' : World) : Prop :=
  (match quoS s.data.toList p with
   | some x => e = .returned (.tuple #[.string (str x.1), .int .i64 (x.2 : Int), .bool true])
   | none => ∃ n : Nat, n ≤ s.size ∧ e = .returned (.tuple #[.string (str []), .int .i64 (n : Int), .bool false])) ∧ Below w.heap.size w w'
theorem quoV_no {s : ByteArray} {p n : Nat} {w w' : World} {t : ByteArray} (h : quoS s.data.toList p = none) (hn : n ≤ s.size) (ht : t = str []) (hb : Below w.heap.size w w') :
    QuoV s p w (.returned (.tuple #[.string t, .int .i64 (n : Int), .bool false])) w' := by unfold QuoV; rw [h, ht]; exact ⟨⟨n, hn, rfl⟩, hb⟩
theorem quoV_yes {s : ByteArray} {p n : Nat} {w w' : World} {b : List UInt8} {m : Int} (h : quoS s.data.toList p = some (b, n)) (hm : (n : Int) = m) (hb : Below w.heap.size w w') :
    QuoV s p w (.returned (.tuple #[.string (str b), .int .i64 m, .bool true])) w' := by unfold QuoV; rw [h, ← hm]; exact ⟨rfl, hb⟩

set_option maxHeartbeats 3200000 in
set_option maxRecDepth 20000 in
theorem quotedAt_any (s : ByteArray) (p : Nat) (w : World) (hp : p ≤ s.size) (hs : s.size ≤ 1000000000) (htab : EscTab w) (hw : 0 < w.heap.size) :
    Calls Tryz.prog 40 #[.string s, .int .i64 (p : Int)] w (QuoV s p w) := by
  obtain ⟨i0, hi, hz0, hz1, hz2⟩ := info_parts info5
  have hb := get_bt s
  by_cases hpe : s.size ≤ p
  · have HV := Lib.hid (quoS_end (l := s.data.toList) (p := p) (by simpa using hpe))
    go_enter Tryz.func40, Tryz.ntmps40
    go_wp2
    go_ret3
    exact quoV_no HV.out hp rfl (Below.refl _ _)
  · have hlt : p < s.size := by omega
    clear hpe
    have hl : p < s.data.toList.length := by simpa using hlt
    have hbp := bt_list s p hlt
    by_cases h34 : bt s p = 34
    · have HV := Lib.hid (quoS_open hl (u8_of (by rw [← hbp]; exact h34) rfl))
      obtain ⟨B, hB⟩ : ∃ B, B = w.heap.size := ⟨_, rfl⟩
      have HT := Lib.hid htab
      have HW := Lib.hid hB
      have hbe : Below B w w := Below.refl _ _
      have hsz : Hid (B ≤ w.heap.size) := Lib.hid (by omega)
      have hn : (bt s p != 34) = false := by simp [h34]
      clear htab hB hl hbp h34
      go_enter Tryz.func40, Tryz.ntmps40
      go_wp2
      go_loopw [1, 7] (fun i v wr => ∃ (q : Nat) (b : List UInt8), q ≤ s.size ∧ i = .int .i64 q ∧ Hid (b.length ≤ q) ∧ Hid (QuoAt s.data.toList p b q) ∧ wr.ownsRow B 5 1 v b.length (b.map bc) ∧ Below B w wr ∧ Hid (B ≤ wr.heap.size)) (fun i _ _ => s.size - (intOf i).toNat)
      case atStart => exact ⟨p + 1, [], by omega, by go_num, Lib.hid (by simp), Lib.hid (QuoAt.start _ _), World.ownsRow_nil _ _ _ _, hbe, hsz⟩
      case round =>
        clear hbe hsz
        obtain ⟨q, b, hq, rfl, hbl, hqa, hown, hbel, hsz⟩ := hrel
        by_cases hqe : s.size ≤ q
        · go_wp2
          go_ret3
          exact quoV_no (HV.out.trans (hqa.out.over (by simpa using hqe))) hq rfl (by rw [← HW.out]; exact hbel)
        · have hqlt : q < s.size := by omega
          clear hqe
          have hql : q < s.data.toList.length := by simpa using hqlt
          have HQ := Lib.hid hql
          have hbq := bt_list s q hqlt
          by_cases h34 : bt s q = 34
          · have HD := Lib.hid (HV.out.trans (hqa.out.done hql (u8_of (by rw [← hbq]; exact h34) rfl)))
            have hn : (bt s q != 34) = false := by simp [h34]
            have hcv := conv_own Tryz.underlying65 Tryz.underlying5 hown 9 Tryz.underlying9
            have hne : ((q : Int) == (s.size : Int)) = false := beq_eq_false_iff_ne.mpr (by omega)
            clear hql hbq h34
            go_wp2
            all_goals go_ret3
            all_goals exact quoV_yes HD.out (by omega) (by rw [← HW.out]; exact hbel)
          · have hn : (bt s q != 34) = true := by simpa using h34
            have H34 : Hid (s.data.toList[q] ≠ 34) := Lib.hid (fun e => h34 (hbq.trans (congrArg (fun x : UInt8 => (x.toNat : Int)) e)))
            obtain ⟨t, ht⟩ : ∃ t, s.extract q s.size = t := ⟨_, rfl⟩
            have htl : t.data.toList = s.data.toList.drop q := by rw [← ht, Lib.extract_to_end]
            have hts : t.size = s.size - q := by rw [← ht]; simp
            have ht0 : 0 < t.size := by omega
            have hts' : t.size ≤ 1000000000 := by omega
            have TB : Hid (EscTab wr) := Lib.hid (esc_below HT.out hbel (by rw [HW.out]; exact hw))
            cases hr : rd (s.data.toList.drop q) with
            | none =>
              have hrv : rdV t.data.toList = (0, 0) := by rw [htl]; unfold rdV; rw [hr]; rfl
              have HF := Lib.hid (HV.out.trans (hqa.out.fails hql H34.out hr))
              clear hql hbq h34 htl hts hr
              go_wp2_with (go_at_call 57; refine (writtenByte_any _ _ ht0 hts' TB.out (by have := hsz.out; have := HW.out; omega)).mono ?_; rintro e w1 ⟨rfl, hb1⟩)
              all_goals go_ret3
              all_goals exact quoV_no HF.out hq rfl (by rw [← HW.out]; exact hbel.trans (hb1.mono hsz.out))
            | some x =>
              obtain ⟨c, n⟩ := x
              have hrv : rdV t.data.toList = (c, n) := by rw [htl]; unfold rdV; rw [hr]; rfl
              obtain ⟨r, hr1, hr2⟩ := rd_some hr
              have hn1 : 1 ≤ n := by rw [hr2]; exact esc_ne c
              have hqn : q + n ≤ s.size := by
                have e := congrArg List.length hr1
                simp only [List.length_drop, List.length_append] at e
                have : s.data.toList.length = s.size := by simp
                omega
              have HN := Lib.hid (hqa.out.next hql H34.out hr hn1)
              have HR := Lib.hid hr2
              clear hql hbq h34 htl hts hr hr1 hr2
              go_wp2_with (first | (go_at_call 57; refine (writtenByte_any _ _ ht0 hts' TB.out (by have := hsz.out; have := HW.out; omega)).mono ?_; rintro e w1 ⟨rfl, hb1⟩; have hown1 := own_below hown hb1) | (at_builtin; refine wpList_append_own _ rfl _ _ 65 rfl B 5 i0 (.int .u8 0) 1 1 Tryz.underlying65 hi hz0 hz1 hz2 rfl (by decide) _ _ _ rfl (hown1.alloc _) ⟨w1.heap.size, 0, none⟩ 1 1 [.int .u8 (c.toNat : Int)] rfl rfl (new_cells w1 [.int .u8 (c.toNat : Int)] _) (one_ints rfl) (by have := hbl.out; unfold maxLen; omega) (by have := hbl.out; omega) (by have := hsz.out; have := hb1.size; simp; omega) ?_; intro v' w2 hown2 hgrow2 _))
              go_roundw
              case rel =>
                exact ⟨q + n, b ++ [c], hqn, by go_num, Lib.hid (by have := hbl.out; simp; omega), HN, own_app rfl hown2, ((hbel.trans (hb1.mono hsz.out)).alloc (by have := hsz.out; have := hb1.size; omega) _).grown hgrow2 (by have := hsz.out; have := hb1.size; simp; omega) (fun k hk => (hown1.lt k hk).1), Lib.hid (by have := hgrow2.size; have := hsz.out; have := hb1.size; simp at *; omega)⟩
              case measure => simp [intOf]; omega
    · have HV := Lib.hid (quoS_not hl (fun e => h34 (by rw [hbp, e]; rfl)))
      have hn : (bt s p != 34) = true := by simpa using h34
      clear hl hbp h34
      go_enter Tryz.func40, Tryz.ntmps40
      go_wp2
      all_goals go_ret3
      all_goals exact quoV_no HV.out hp rfl (Below.refl _ _)
end Go.Proofs.YtnajkkbcfebegaaGreatDoor
