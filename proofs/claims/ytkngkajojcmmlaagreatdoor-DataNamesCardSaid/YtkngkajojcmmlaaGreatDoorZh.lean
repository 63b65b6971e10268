import Derived.Test.YtkngkajojcmmlaaGreatDoorZg
import Derived.Lib.SlTrimSet
import Derived.Test.YtkngkajojcmmlaaGreatDoorShelfT
import Derived.Shelf.Strings.SlTrimAscii
import Derived.Lib.ConvBytes
import Derived.Laws.AppendOwn
/- Symbols: mathematics. -/
namespace Go.Proofs.YtkngkajojcmmlaaGreatDoor
open Go.RowKit Go.PlainAid

def digS : List UInt8 := [48, 49, 50, 51, 52, 53, 54, 55, 56, 57]
/-- A sign, or none, left out. -/
def unsigned (s : List UInt8) : List UInt8 := match s with | [] => [] | c :: t => if c = 43 ∨ c = 45 then t else c :: t
/-- A sign, or none, and then digits alone, at least one. -/
def intB (s : List UInt8) : Bool := decide (unsigned s ≠ []) && (unsigned s).all (digS.contains ·)
/-- A rune of which symbols are made. -/
def symC (r : Int) : Bool := clsS r == 9 || clsS r == 7 || clsS r == 8
def symS (s : List UInt8) : Bool := decide (1 ≤ s.length) && decide (s.length ≤ 24) && decide ((chkS s).2 = 0) && (runs s).1.all symC && !intB s
theorem sym_short {s : List UInt8} (h : s.length < 1) : symS s = false := by unfold symS; rw [decide_eq_false (show ¬1 ≤ s.length by omega)]; rfl
theorem sym_long {s : List UInt8} (h : 24 < s.length) : symS s = false := by unfold symS; rw [decide_eq_false (show ¬s.length ≤ 24 by omega), Bool.and_false]; rfl
theorem sym_bad {s : List UInt8} (h : (chkS s).2 ≠ 0) : symS s = false := by unfold symS; rw [decide_eq_false h, Bool.and_false]; rfl
theorem sym_else {s : List UInt8} (h1 : 1 ≤ s.length) (h2 : s.length ≤ 24) (h3 : (chkS s).2 = 0) : symS s = ((runs s).1.all symC && !intB s) := by
  unfold symS; rw [decide_eq_true h1, decide_eq_true h2, decide_eq_true h3]; rfl
theorem sym_rune {s : List UInt8} {r : Int} (h : r ∈ (runs s).1) (hr : symC r = false) : symS s = false := by
  unfold symS
  have : (runs s).1.all symC = false := by rw [List.all_eq_false]; exact ⟨r, h, by rw [hr]; decide⟩
  rw [this, Bool.and_false]; rfl
theorem sym_int {s : List UInt8} (h : intB s = true) : symS s = false := by unfold symS; rw [h, Bool.not_true, Bool.and_false]
theorem all_take {l : List Int} {k : Nat} {r : Int} (h : (l.take k).all symC = true) (hk : l[k]? = some r) (hr : symC r = true) : (l.take (k + 1)).all symC = true := by
  rw [List.take_add_one, List.all_append, h, hk]
  simp [hr]

theorem trim_nil : ∀ (l cs : List UInt8), (Lib.trimS l cs = []) ↔ l.all (cs.contains ·) = true := by
  intro l cs
  have d : ∀ m : List UInt8, m.dropWhile (cs.contains ·) = [] ↔ m.all (cs.contains ·) = true := by
    intro m
    induction m with
    | nil => exact ⟨fun _ => rfl, fun _ => rfl⟩
    | cons a m ih =>
      rw [List.dropWhile_cons, List.all_cons]
      cases h : cs.contains a with
      | true => rw [if_pos rfl, ih, Bool.true_and]
      | false => rw [if_neg (by decide)]; simp
  unfold Lib.trimS Lib.trimLeftS
  rw [d]
  unfold Lib.trimRightS
  rw [List.all_reverse]
  have e : ∀ m : List UInt8, (m.dropWhile (cs.contains ·)).all (cs.contains ·) = true ↔ m.all (cs.contains ·) = true := by
    intro m
    induction m with
    | nil => exact Iff.rfl
    | cons a m ih =>
      rw [List.dropWhile_cons]
      cases h : cs.contains a with
      | true => rw [if_pos rfl, ih, List.all_cons, h, Bool.true_and]
      | false => rw [if_neg (by decide)]
  rw [e, List.all_reverse]
theorem int_cons (c : UInt8) (t : List UInt8) : intB (c :: t) = if c = 43 ∨ c = 45 then (decide (t ≠ []) && t.all (digS.contains ·)) else (c :: t).all (digS.contains ·) := by
  by_cases h : c = 43 ∨ c = 45
  · simp only [intB, unsigned, if_pos h]
  · simp only [intB, unsigned, if_neg h]
    rw [decide_eq_true (by simp)]; rfl
theorem dig_iff (c : UInt8) : digS.contains c = decide (48 ≤ c.toNat ∧ c.toNat ≤ 57) := by
  have : ∀ n : Fin 256, digS.contains (UInt8.ofNat n.val) = decide (48 ≤ (UInt8.ofNat n.val).toNat ∧ (UInt8.ofNat n.val).toNat ≤ 57) := by decide +kernel
  have h := this ⟨c.toNat, c.toNat_lt⟩
  rw [show UInt8.ofNat c.toNat = c by simp] at h
  exact h
end Go.Proofs.YtkngkajojcmmlaaGreatDoor

/- Symbol: the program's and the reference's. -/
namespace Go.Proofs.YtkngkajojcmmlaaGreatDoor
open Go.RowKit Go.PlainAid

set_option maxHeartbeats 1600000 in
theorem ofSym_any (r : Int) (w : World) (hm : MembersTab w) : Calls Tryz.prog 46 #[.int .i32 r] w fun e w' => e = .returned (.bool (symC r)) ∧ w = w' := by
  have C := class_any r w hm
  unfold clsV at C
  obtain ⟨c, hc⟩ : ∃ c, clsS r = c := ⟨_, rfl⟩
  obtain ⟨x, hx⟩ : ∃ x : Int, (if isR r then (0 : Int) else 7) = x := ⟨_, rfl⟩
  have HV : Hid (symC r = (c == 9 || c == 7 || c == 8)) := Lib.hid (by unfold symC; rw [hc])
  rw [hc, hx] at C
  have HC := Lib.hid C
  clear C hc hx hm
  by_cases h9 : c = 9
  · subst h9
    go_enter Tryz.func46, Tryz.ntmps46
    go_wp2_with (go_at_call 72; refine HC.out.mono ?_; rintro e w' ⟨rfl, rfl⟩)
    go_ret
    exact ⟨ret_bool (by rw [HV.out]; rfl), rfl⟩
  by_cases h7 : c = 7
  · subst h7
    go_enter Tryz.func46, Tryz.ntmps46
    go_wp2_with (go_at_call 72; refine HC.out.mono ?_; rintro e w' ⟨rfl, rfl⟩)
    go_ret
    exact ⟨ret_bool (by rw [HV.out]; rfl), rfl⟩
  by_cases h8 : c = 8
  · subst h8
    go_enter Tryz.func46, Tryz.ntmps46
    go_wp2_with (go_at_call 72; refine HC.out.mono ?_; rintro e w' ⟨rfl, rfl⟩)
    go_ret
    exact ⟨ret_bool (by rw [HV.out]; rfl), rfl⟩
  have g9 : (c == 9) = false := beq_eq_false_iff_ne.2 h9
  have g7 : (c == 7) = false := beq_eq_false_iff_ne.2 h7
  have g8 : (c == 8) = false := beq_eq_false_iff_ne.2 h8
  have HV2 : Hid (symC r = false) := Lib.hid (by rw [HV.out, g9, g7, g8]; rfl)
  clear HV h7 h8 h9
  go_enter Tryz.func46, Tryz.ntmps46
  go_wp2_with (go_at_call 72; refine HC.out.mono ?_; rintro e w' ⟨rfl, rfl⟩)
  go_ret
  exact ⟨ret_bool (by rw [HV2.out]), rfl⟩

theorem trim_dig (s : List UInt8) (w : World) (hs : s.length ≤ 1000) : Calls Tryz.prog 73 #[.string (str s), .string ⟨#[48, 49, 50, 51, 52, 53, 54, 55, 56, 57]⟩] w fun e w' => e = .returned (.string (str (Lib.trimS s digS))) ∧ Below w.heap.size w w' :=
  Any.strings_Trim_laid Tryz.lays160 (by kernel_rfl) (str s) ⟨#[48, 49, 50, 51, 52, 53, 54, 55, 56, 57]⟩ w (by rw [str_size]; omega) (by decide) (ascii_of_all (by decide))
theorem extr_1 (c : UInt8) (t : List UInt8) : (str (c :: t)).extract 1 (t.length + 1) = str t := by
  rw [← str_data ((str (c :: t)).extract 1 _), Lib.extract_data, str_list]
  congr 1
  show (List.take _ (List.drop 1 (c :: t))) = t
  rw [List.drop_succ_cons, List.drop_zero, List.take_of_length_le (by omega)]
theorem emp_str (s : List UInt8) : (str s).toList = s := by rw [ByteArray.toList_eq]; rfl

set_option maxRecDepth 50000 in
set_option maxHeartbeats 1600000 in
theorem integer_any (c : UInt8) (t : List UInt8) (w : World) (hl : (c :: t).length ≤ 1000) : Calls Tryz.prog 47 #[.string (str (c :: t))] w fun e w' => e = .returned (.bool (intB (c :: t))) ∧ Below w.heap.size w w' := by
  have CT : Hid (∀ (s : List UInt8) W, s.length ≤ 1000 → Calls Tryz.prog 73 #[.string (str s), .string ⟨#[48, 49, 50, 51, 52, 53, 54, 55, 56, 57]⟩] W fun e w' => e = .returned (.string (str (Lib.trimS s digS))) ∧ Below W.heap.size W w') := Lib.hid fun s W h => trim_dig s W h
  obtain ⟨S, hS⟩ : ∃ S, str (c :: t) = S := ⟨_, rfl⟩
  have hsz : S.size = t.length + 1 := by rw [← hS, str_size]; rfl
  have hx : S.extract 1 (t.length + 1) = str t := by rw [← hS]; exact extr_1 c t
  have h0 : 0 < S.size := by omega
  have hb0 : ((S[0]'h0).toNat : Int) = (c.toNat : Int) := by rw [← bt_get S 0 h0, ← hS, bt_str _ 0 (by simp)]; rfl
  have hz : ∀ u : List UInt8, ((str (Lib.trimS u digS)).toList == []) = u.all (digS.contains ·) := fun u => by
    rw [emp_str, Bool.eq_iff_iff, beq_iff_eq]; exact trim_nil u digS
  by_cases hc : c = 43 ∨ c = 45
  · have HV : Hid (intB (c :: t) = (decide (t ≠ []) && t.all (digS.contains ·))) := Lib.hid (by rw [int_cons, if_pos hc])
    have HL : Hid (t.length ≤ 1000) := Lib.hid (by simp at hl; omega)
    have hor : (((S[0]'h0).toNat : Int) == 43) = true ∨ ((((S[0]'h0).toNat : Int) == 43) = false ∧ (((S[0]'h0).toNat : Int) == 45) = true) := by
      rw [hb0]; rcases hc with rfl | rfl
      · exact .inl rfl
      · exact .inr ⟨rfl, rfl⟩
    have hzt := hz t
    obtain ⟨Z, hZ⟩ : ∃ Z, str (Lib.trimS t digS) = Z := ⟨_, rfl⟩
    have CT2 := Lib.hid (fun W => CT.out t W HL.out)
    rw [hZ] at CT2 hzt
    obtain ⟨bb, hbb⟩ : ∃ bb, t.all (digS.contains ·) = bb := ⟨_, rfl⟩
    rw [hbb] at hzt HV
    rw [hS]
    clear hb0 hz hc hS hZ hbb hl CT
    by_cases ht : t = []
    · subst ht
      have ht1 : ((str ([] : List UInt8)).toList == []) = true := by rw [emp_str]; rfl
      have ht2 : (str ([] : List UInt8)).toList.isEmpty = true := by rw [emp_str]; rfl
      have HV2 : Hid (intB (c :: []) = false) := Lib.hid (by rw [HV.out]; rfl)
      clear HV
      rcases hor with e1 | ⟨e1, e2⟩ <;> (
        go_enter Tryz.func47, Tryz.ntmps47
        go_wp2_with fail
        -- MARK1
        go_ret
        exact ⟨ret_bool (by rw [HV2.out]), Below.refl _ _⟩)
    · have ht1 : ((str t).toList == []) = false := by rw [emp_str]; exact beq_eq_false_iff_ne.2 ht
      have ht2 : (str t).toList.isEmpty = false := by rw [emp_str]; cases t with | nil => exact absurd rfl ht | cons _ _ => rfl
      have HV2 : Hid (intB (c :: t) = bb) := Lib.hid (by rw [HV.out, decide_eq_true ht]; rfl)
      clear HV ht
      rcases hor with e1 | ⟨e1, e2⟩ <;> (
        go_enter Tryz.func47, Tryz.ntmps47
        go_wp2_with (go_at_call 73; refine (CT2.out _).mono ?_; rintro e w1 ⟨rfl, hb1⟩)
        -- MARK2
        go_ret
        exact ⟨ret_bool (by rw [HV2.out]), hb1⟩)
  · have HV : Hid (intB (c :: t) = (c :: t).all (digS.contains ·)) := Lib.hid (by rw [int_cons, if_neg hc])
    have e1 : (((S[0]'h0).toNat : Int) == 43) = false := by
      rw [hb0, beq_eq_false_iff_ne]; intro e; exact hc (.inl (UInt8.toNat_inj.1 (by show c.toNat = 43; omega)))
    have e2 : (((S[0]'h0).toNat : Int) == 45) = false := by
      rw [hb0, beq_eq_false_iff_ne]; intro e; exact hc (.inr (UInt8.toNat_inj.1 (by show c.toNat = 45; omega)))
    have hzt := hz (c :: t)
    obtain ⟨Z, hZ⟩ : ∃ Z, str (Lib.trimS (c :: t) digS) = Z := ⟨_, rfl⟩
    have CT2 := Lib.hid (fun W => CT.out (c :: t) W hl)
    rw [hZ] at CT2 hzt
    rw [hS] at CT2
    obtain ⟨bb, hbb⟩ : ∃ bb, (c :: t).all (digS.contains ·) = bb := ⟨_, rfl⟩
    rw [hbb] at hzt HV
    have ht1 : (S.toList == []) = false := by rw [← hS, emp_str]; rfl
    have ht2 : S.toList.isEmpty = false := by rw [← hS, emp_str]; rfl
    rw [hS]
    clear hb0 hz hc hS hZ hbb hl CT
    go_enter Tryz.func47, Tryz.ntmps47
    go_wp2_with (go_at_call 73; refine (CT2.out _).mono ?_; rintro e w1 ⟨rfl, hb1⟩)
    -- MARK3
    go_ret
    exact ⟨ret_bool (by rw [HV.out]), hb1⟩
end Go.Proofs.YtkngkajojcmmlaaGreatDoor

/- Symbol. -/
namespace Go.Proofs.YtkngkajojcmmlaaGreatDoor
open Go.RowKit Go.PlainAid

/-- The tables of runes lie in memory. -/
structure STabs (w : World) : Prop where
  mem : MembersTab w
  gm : 0 < w.heap.size
  marks : MarksTab w
  gk : 1 < w.heap.size
theorem STabs.below {w w' : World} (h : STabs w) (hb : Below w.heap.size w w') : STabs w' :=
  ⟨members_below h.mem hb h.gm, Nat.lt_of_lt_of_le h.gm hb.size, marks_below h.marks hb h.gk, Nat.lt_of_lt_of_le h.gk hb.size⟩
theorem conv_bytes (s : List UInt8) (w : World) : ∃ cap W1, (convert 9 78 (.string (str s))).run Tryz.prog w = .ok (.slice (some ⟨w.heap.size, 0, none⟩) s.length cap) W1 ∧ Below w.heap.size w W1 ∧ s.length ≤ cap ∧ w.heap.size < W1.heap.size ∧
    ∀ j u, (s.map bc)[j]? = some u → W1.cell? ⟨w.heap.size, j, none⟩ = some u := by
  have h := Lib.run_convert_string_bytes (P := Tryz.prog) w 9 78 5 (str s) Tryz.underlying9 Tryz.underlying78 Tryz.underlying5
  rw [str_size] at h
  refine ⟨_, _, h, ⟨rfl, rfl, rfl, by rw [Lib.bytesWorld_size]; omega, fun k hk => Lib.bytesWorld_at_old w _ _ k hk⟩, grownCap_ge _ _ _ _, by rw [Lib.bytesWorld_size]; omega, fun j u hj => ?_⟩
  have hjl : j < s.length := by have := (List.getElem?_eq_some_iff.1 hj).1; simpa using this
  rw [Lib.bytesWorld_cell w _ _ j (by rw [str_size]; exact hjl), str_list]
  rw [List.getElem?_map, List.getElem?_eq_getElem hjl] at hj
  rw [← Option.some.inj hj]
  simp [bc, List.getD, hjl]

set_option maxRecDepth 50000 in
set_option maxHeartbeats 1600000 in
theorem symbol_len (s : List UInt8) (w : World) (h : s.length < 1 ∨ 24 < s.length) : Calls Tryz.prog 22 #[.string (str s)] w fun e w' => e = .returned (.bool (symS s)) ∧ Below w.heap.size w w' := by
  have HV : Hid (symS s = false) := Lib.hid (by rcases h with h | h; exact sym_short h; exact sym_long h)
  obtain ⟨S, hS⟩ : ∃ S, str s = S := ⟨_, rfl⟩
  have hz : S.size = s.length := by rw [← hS, str_size]
  rw [hS]
  clear hS
  obtain ⟨n, hn⟩ : ∃ n, s.length = n := ⟨_, rfl⟩
  rw [hn] at hz h
  clear hn
  rcases h with h | h
  · have e0 : ((n : Int) == 0) = true := beq_iff_eq.2 (by omega)
    clear h
    go_enter Tryz.func22, Tryz.ntmps22
    go_wp2_with fail
    go_ret
    exact ⟨ret_bool (by rw [HV.out]), Below.refl _ _⟩
  · have e0 : ((n : Int) == 0) = false := beq_eq_false_iff_ne.2 (by omega)
    have e1 : decide ((24 : Int) < (n : Int)) = true := decide_eq_true (by omega)
    go_enter Tryz.func22, Tryz.ntmps22
    go_wp2_with fail
    go_ret
    exact ⟨ret_bool (by rw [HV.out]), Below.refl _ _⟩

set_option maxRecDepth 50000 in
set_option maxHeartbeats 3200000 in
theorem symbol_any (s : List UInt8) (w : World) (T : STabs w) : Calls Tryz.prog 22 #[.string (str s)] w fun e w' => e = .returned (.bool (symS s)) ∧ Below w.heap.size w w' := by
  by_cases h : s.length < 1 ∨ 24 < s.length
  · exact symbol_len s w h
  obtain ⟨cap, W1, hcv, hb1, hcap, hlt1, hcells⟩ := conv_bytes s w
  have CR := Lib.hid (runes_any (.slice (some ⟨w.heap.size, 0, none⟩) s.length cap) s W1 (.inr ⟨w.heap.size, 0, s.length, cap, rfl, by rw [List.length_map], hlt1, fun j u hj => by rw [Nat.zero_add]; exact hcells j u hj⟩) (by omega) (T.below hb1).marks (T.below hb1).gk)
  have CI : Hid (∀ W, Calls Tryz.prog 47 #[.string (str s)] W fun e w' => e = .returned (.bool (intB s)) ∧ Below W.heap.size W w') := Lib.hid fun W => by
    cases s with
    | nil => simp at h
    | cons c t => exact integer_any c t W (by omega)
  have HT := Lib.hid T
  have HSE := Lib.hid (fun h3 => sym_else (s := s) (by omega) (by omega) h3)
  have HBad := Lib.hid (fun h3 => sym_bad (s := s) h3)
  have HR : Hid (∀ r, r ∈ (runs s).1 → symC r = false → symS s = false) := Lib.hid (fun r h1 h2 => sym_rune h1 h2)
  have HRS : Hid (runesS s = if (chkS s).2 = 0 then ((runs s).1, 0) else ([], (chkS s).2)) := Lib.hid rfl
  obtain ⟨n, hn⟩ : ∃ n, s.length = n := ⟨_, rfl⟩
  have hz : (str s).size = n := by rw [str_size, hn]
  rw [hn] at h hcv CR
  have e0 : ((n : Int) == 0) = false := beq_eq_false_iff_ne.2 (by omega)
  have e1 : decide ((24 : Int) < (n : Int)) = false := decide_eq_false (by omega)
  obtain ⟨S, hS⟩ : ∃ S, str s = S := ⟨_, rfl⟩
  rw [hS] at hz hcv CI
  rw [hS]
  clear T hcap hlt1 hcells h hn hS
  go_enter Tryz.func22, Tryz.ntmps22
  go_wp2_with fail
  -- MARK1
  refine CR.out.mono ?_
  rintro e w2 ⟨v, rfl, hown, hb2⟩
  have hB2 : Below w.heap.size w w2 := hb1.trans (hb2.mono hb1.size)
  by_cases hc : (chkS s).2 = 0
  · have hrs : runesS s = ((runs s).1, 0) := by rw [HRS.out, if_pos hc]
    rw [hrs] at hown ⊢
    obtain ⟨L, hL⟩ : ∃ L, (runs s).1 = L := ⟨_, rfl⟩
    have HL := Lib.hid hL
    have HV := Lib.hid (HSE.out hc)
    simp only [hL] at hown ⊢
    obtain ⟨m, hm⟩ : ∃ m, L.length = m := ⟨_, rfl⟩
    have HM := Lib.hid hm
    rw [hm] at hown
    obtain ⟨a, cc, rfl⟩ := own_len hown
    have hmx : m ≤ 9223372036854775807 := by have := own_cap hown; unfold maxLen at this; omega
    have HO := Lib.hid hown
    have TM := Lib.hid (HT.out.below hB2).mem
    clear hrs hL hm hown hcv e0 e1 hc HBad CR
    go_wp2_with fail
    -- MARK2
    go_loop [25] (fun x => ∃ k : Nat, x = .int .i64 k ∧ k ≤ m ∧ Hid ((L.take k).all symC = true)) (fun x => m - (intOf x).toNat)
    case atStart => exact ⟨0, rfl, Nat.zero_le _, Lib.hid rfl⟩
    case round =>
      obtain ⟨k, rfl, hk, HA⟩ := hrel
      by_cases hlt : k < m
      · obtain ⟨r, hr⟩ : ∃ r, L[k]? = some r := ⟨_, List.getElem?_eq_getElem (by rw [HM.out]; exact hlt)⟩
        rcases own_form HO.out with ⟨_, h00⟩ | ⟨gs, cs, hv, hgs, hgs2⟩
        · omega
        obtain ⟨rfl, _, rfl⟩ := Value.slice.inj hv
        clear hv
        have d0 : w2.cell? ⟨gs, k, none⟩ = some (.int .i32 r) := own_cell HO.out (by rw [List.getElem?_map, hr]; rfl)
        have C := Lib.hid (fun W => ofSym_any r W)
        have hk0 : (0 : Int) ≤ (k : Int) := Int.natCast_nonneg _
        have hk1 : (k : Int) < (m : Int) := by omega
        obtain ⟨b, hb⟩ : ∃ b, symC r = b := ⟨_, rfl⟩
        rw [hb] at C
        cases b with
        | true =>
          have HA2 := Lib.hid (all_take HA.out hr hb)
          clear hr hb
          go_wp2_with (go_at_call 46; refine (C.out _ TM.out).mono ?_; rintro e w3 ⟨rfl, rfl⟩)
          go_round
          case rel => exact ⟨k + 1, by go_num, by omega, HA2⟩
          case measure => simp [intOf]; omega
        | false =>
          have HF := Lib.hid (HR.out r (by rw [HL.out]; exact List.mem_of_getElem? hr) hb)
          clear hr hb
          go_wp2_with (go_at_call 46; refine (C.out _ TM.out).mono ?_; rintro e w3 ⟨rfl, rfl⟩)
          go_ret
          exact ⟨ret_bool (by rw [HF.out]), hB2⟩
      · obtain rfl : k = m := by omega
        have HF : Hid (symS s = !intB s) := Lib.hid (by
          have h1 := HA.out
          rw [List.take_of_length_le (Nat.le_of_eq HM.out)] at h1
          rw [HV.out, HL.out, h1, Bool.true_and])
        go_wp2_with (go_at_call 47; refine (CI.out _).mono ?_; rintro e w3 ⟨rfl, hb3⟩)
        -- MARK3
        go_ret
        exact ⟨ret_bool (by rw [HF.out]), hB2.trans (hb3.mono hB2.size)⟩
  · have hrs : runesS s = ([], (chkS s).2) := by rw [HRS.out, if_neg hc]
    have HF := Lib.hid (HBad.out hc)
    have hne : ((chkS s).2 != 0) = true := bne_iff_ne.2 hc
    rw [hrs] at hown ⊢
    clear hrs hown hcv e0 e1 hc
    go_wp2_with fail
    -- MARK4
    go_ret
    exact ⟨ret_bool (by rw [HF.out]), hB2⟩
end Go.Proofs.YtkngkajojcmmlaaGreatDoor

/- The reference's Same; the law's Example; what the calls of shown() give. -/
namespace Go.Proofs.YtkngkajojcmmlaaGreatDoor
open Go.RowKit Go.PlainAid

set_option maxRecDepth 50000 in
set_option maxHeartbeats 1600000 in
theorem same4_eq (v v' : Value) (l : List Nd) (w : World) (h : NdsAt w v l) (h' : NdsAt w v' l) (hl : l.length ≤ 1000000) :
    Calls Tryz.prog 14 #[v, v'] w fun e w' => e = .returned (.bool true) ∧ Below w.heap.size w w' := by
  obtain ⟨a, c, hv⟩ := h.slice
  obtain ⟨a', c', hv'⟩ := h'.slice
  obtain ⟨n, hn⟩ : ∃ n, l.length = n := ⟨_, rfl⟩
  rw [hn] at hv hv'
  subst hv hv'
  have H := Lib.hid h
  have H' := Lib.hid h'
  have HN := Lib.hid hn
  have hnb : n ≤ 1000000 := by omega
  have hne : (((n : Int)) != (n : Int)) = false := by simp
  clear h h' hn hl
  go_enter Tryz.func14, Tryz.ntmps14
  go_wp2
  go_loopw [5] (fun i wr => ∃ k : Nat, k ≤ n ∧ i = .int .i64 k ∧ Below w.heap.size w wr) (fun i _ => n - (intOf i).toNat)
  case atStart => exact ⟨0, Nat.zero_le _, rfl, Below.refl _ _⟩
  case round =>
    obtain ⟨k, hk, rfl, hB⟩ := hrel
    by_cases hlt : k < n
    · obtain ⟨s, hs⟩ : ∃ s, l[k]? = some s := ⟨_, List.getElem?_eq_getElem (by rw [HN.out]; exact hlt)⟩
      rcases H.out.below hB (Nat.le_refl _) with ⟨_, _, _, hnil⟩ | ⟨g, off, cc, hv, hg, hcl⟩
      · rw [hnil] at hs; simp at hs
      · rcases H'.out.below hB (Nat.le_refl _) with ⟨_, _, _, hnil⟩ | ⟨g', off', cc', hv', hg', hcl'⟩
        · rw [hnil] at hs; simp at hs
        · obtain ⟨rfl, hv2, rfl⟩ := Value.slice.inj hv
          obtain ⟨rfl, hv3, rfl⟩ := Value.slice.inj hv'
          obtain ⟨p0, p1, p2, p3⟩ := dcs_at l hs
          have d0 := hcl _ _ p0
          have d1 := hcl _ _ p1
          have d2 := hcl _ _ p2
          have d3 := hcl _ _ p3
          have e0 := hcl' _ _ p0
          have e1 := hcl' _ _ p1
          have e2 := hcl' _ _ p2
          have e3 := hcl' _ _ p3
          have hkm : (k : Int) < (n : Int) := by omega
          have hk0 : (0 : Int) ≤ (k : Int) := Int.natCast_nonneg _
          obtain ⟨x0, x1, x2, x3⟩ := s
          obtain ⟨z, hz⟩ : ∃ z, str x3 = z := ⟨_, rfl⟩
          simp only [hz, ← Nat.add_assoc] at d0 d1 d2 d3 e0 e1 e2 e3
          clear hcl hcl' hv hv' hv2 hv3 hs p0 p1 p2 p3 hz
          go_wp2
          go_quiet (fail)
          go_wp2
          exact ⟨⟨k + 1, by omega, by go_num, ⟨hB.os, hB.tape, hB.output, hB.size, hB.block⟩⟩, by simp [intOf]; omega⟩
    · obtain rfl : k = n := by omega
      go_wp2
      go_ret
      exact ⟨rfl, hB⟩

/-- The law's example. -/
def exD : List Nd := [(4, 3, 0, []), (3, 0, 0, [97]), (4, 2, 0, []), (1, 0, 7, []), (2, 0, 1, []), (3, 0, 0, [97])]
theorem nds_new (w : World) (l : List Nd) (cs : Array Value) (T : TypeId) (n : Nat) (hcs : cs = (dcs l).toArray) (hn : n = l.length) : NdsAt (w.alloc (.cells cs T)) (.slice (some ⟨w.heap.size, 0, none⟩) n n) l := by
  subst hcs hn
  refine .inr ⟨w.heap.size, 0, l.length, rfl, by rw [World.size_alloc]; omega, fun j u hj => ?_⟩
  have := new_cells w (dcs l) T j u hj
  rw [Go.WideShapes.add_plain] at this; exact this
/-- What Example returns. -/
def ExV (w : World) (e : Ending) (w' : World) : Prop := ∃ g, e = .returned (.slice (some ⟨g, 0, none⟩) 6 6) ∧ NdsAt w' (.slice (some ⟨g, 0, none⟩) 6 6) exD ∧ Below w.heap.size w w'
set_option maxRecDepth 50000 in
set_option maxHeartbeats 1600000 in
theorem example_any (w : World) : Calls Tryz.prog 16 #[] w (ExV w) := by
  go_enter Tryz.func16, Tryz.ntmps16
  go_wp2_with fail
  -- MARK1
  go_ret
  exact ⟨_, rfl, nds_new w exD _ _ 6 rfl rfl, below_b1 _ _⟩
set_option maxRecDepth 100000 in
theorem ex_chk : chkT symS exD = (0, 0) := by decide +kernel
set_option maxRecDepth 100000 in
theorem ex_put : putE symS exD 2 [(3, 0, 0, [98])] = 0 := by decide +kernel
set_option maxRecDepth 100000 in
theorem ex_puts : putS exD 2 [(3, 0, 0, [98])] = [(4, 3, 0, []), (3, 0, 0, [97]), (3, 0, 0, [98]), (3, 0, 0, [97])] := by decide +kernel
theorem ex_at2 : atE symS exD 2 = 0 := by unfold atE; rw [ex_chk]; decide
theorem ex_at4 : atE symS exD 4 = 0 := by unfold atE; rw [ex_chk]; decide
theorem ex_end : endN (kidsL exD) 2 = 5 := by decide +kernel
theorem ex_size : sizeV symS exD 2 = .tuple #[.int .i64 3, .int .i64 0] := by unfold sizeV; rw [ex_at2, if_pos rfl]; show Value.tuple #[.int .i64 ((endN (kidsL exD) 2 : Int) - 2), _] = _; rw [ex_end]; rfl
theorem ex_fol : fol (kidsL exD) 0 [1, 1] = some 4 := by decide +kernel
theorem ex_shape : shapeS [2, 0, 1, 0] = ([4, 2, 4, 4], 0) := by decide +kernel
theorem ex_s1 : symS [97, 45, 49] = true := by decide +kernel
theorem ex_s2 : symS [45, 49] = false := by decide +kernel
theorem ex_chk2 : chkAllS symS [exD, [(3, 0, 0, [98])]] = 0 := by decide +kernel
theorem ex_kids : ∀ x ∈ [exD, [((3, 0, 0, [98]) : Nd)]], KidsB x := by
  intro x hx
  simp only [List.mem_cons, List.not_mem_nil, or_false] at hx
  rcases hx with rfl | rfl <;> (intro y hy; simp only [exD, List.mem_cons, List.not_mem_nil, or_false] at hy; rcases hy with rfl | rfl | rfl | rfl | rfl | rfl <;> decide)
theorem ex_path {l : List Int} (h : fol (kidsL exD) 0 l = some 4) : l = [1, 1] := (chkT_ok (by rw [ex_chk])).1.fol_inj _ _ 0 4 (by decide) h ex_fol
theorem symAll_of {w : World} (T : STabs w) : SymAll 22 symS w := fun s W hW => symbol_any s W (T.below hW)
end Go.Proofs.YtkngkajojcmmlaaGreatDoor

/- The law's shown(): true. -/
namespace Go.Proofs.YtkngkajojcmmlaaGreatDoor
open Go.RowKit Go.PlainAid

theorem intRow_new (w : World) (l : List Int) (cs : Array Value) (T : TypeId) (n : Nat) (hcs : cs = (l.map (Value.int .i64)).toArray) (hn : n = l.length) : IntRow (w.alloc (.cells cs T)) (.slice (some ⟨w.heap.size, 0, none⟩) n n) l := by
  subst hcs hn
  refine ⟨_, _, rfl, .inr ⟨w.heap.size, 0, rfl, by rw [World.size_alloc]; omega, fun j x hj => ?_⟩⟩
  have := new_cells w (l.map (Value.int .i64)) T j (.int .i64 x) (by rw [List.getElem?_map, hj]; rfl)
  rw [Go.WideShapes.add_plain] at this; exact this

set_option maxRecDepth 100000 in
set_option maxHeartbeats 6400000 in
theorem shown_any (w : World) (T : STabs w) : Calls Tryz.prog 6 #[] w fun e w' => e = .returned (.bool true) ∧ Below w.heap.size w w' := by
  have HS := Lib.hid T
  have SY : Hid (∀ W, Below w.heap.size w W → Hid (SymAll 22 symS W)) := Lib.hid fun W hW => Lib.hid (symAll_of (HS.out.below hW))
  have KX : Hid (Hid (KidsB exD)) := Lib.hid (Lib.hid (ex_kids _ (by simp)))
  have CE := Lib.hid example_any
  have CC : Hid (∀ W v, Below w.heap.size w W → NdsAt W v exD → Calls Tryz.prog 15 #[v] W fun e w' => e = .returned (.tuple #[.int .i64 0, .int .i64 0]) ∧ Below W.heap.size W w') := Lib.hid fun W v hW hN => by
    have := Check_any symS v exD W hN (SY.out W hW) KX.out
    unfold chkTV at this; rw [ex_chk] at this; exact this
  have CS : Hid (∀ W v, Below w.heap.size w W → NdsAt W v exD → Calls Tryz.prog 17 #[v, .int .i64 2] W fun e w' => e = .returned (.tuple #[.int .i64 3, .int .i64 0]) ∧ Below W.heap.size W w') := Lib.hid fun W v hW hN => by
    have := Size_any symS v exD 2 W hN (SY.out W hW) KX.out
    rw [ex_size] at this; exact this
  have CP : Hid (∀ W v, Below w.heap.size w W → NdsAt W v exD → Calls Tryz.prog 18 #[v, .int .i64 4] W fun e w' => ∃ a c, e = .returned (.tuple #[.slice a 2 c, .int .i64 0]) ∧ IntRow w' (.slice a 2 c) [1, 1] ∧ Below W.heap.size W w') := Lib.hid fun W v hW hN => by
    refine (path_ok symS v exD 4 W hN (SY.out W hW) KX.out ex_at4).mono ?_
    rintro e w' ⟨_, h2, h3⟩
    obtain ⟨v', l, rfl, hr, _, hf⟩ := h2 ex_at4
    obtain rfl := ex_path hf
    obtain ⟨a, c, rfl, hA⟩ := hr
    exact ⟨a, c, rfl, ⟨a, c, rfl, hA⟩, h3⟩
  have CT : Hid (∀ W v vs, Below w.heap.size w W → NdsAt W v exD → NdsAt W vs [(3, 0, 0, [98])] → capOk v → Calls Tryz.prog 19 #[v, .int .i64 2, vs] W fun e w' => ∃ a c, e = .returned (.tuple #[.slice a 4 c, .int .i64 0]) ∧ NdsAt w' (.slice a 4 c) [(4, 3, 0, []), (3, 0, 0, [97]), (3, 0, 0, [98]), (3, 0, 0, [97])] ∧ Below W.heap.size W w') := Lib.hid fun W v vs hW hN hN2 hcap => by
    refine (put_in symS v vs exD [(3, 0, 0, [98])] 2 W hN hN2 (SY.out W hW) (Lib.hid ex_kids) ex_chk2 ex_at2 hcap).mono ?_
    rintro e w' ⟨v', rfl, _, h3, h4⟩
    have h5 := (h3 ex_put).1
    rw [show ((2 : Nat) : Int).toNat = 2 from rfl, ex_puts] at h5
    obtain ⟨a, c, rfl⟩ := h5.slice
    exact ⟨a, c, by rw [show ((2 : Nat) : Int) = 2 from rfl, ex_put]; rfl, h5, h4⟩
  have CSh : Hid (∀ W v, IntRow W v [2, 0, 1, 0] → Calls Tryz.prog 20 #[v] W fun e w' => ∃ a c, e = .returned (.tuple #[.slice a 4 c, .int .i64 0]) ∧ IntRow w' (.slice a 4 c) [4, 2, 4, 4] ∧ Below W.heap.size W w') := Lib.hid fun W v hr => by
    refine (Shape_any v _ W hr).mono ?_
    rintro e w' ⟨v', rfl, h1, h2⟩
    rw [ex_shape] at h1 ⊢
    obtain ⟨a, c, rfl, hA⟩ := h1
    exact ⟨a, c, rfl, ⟨a, c, rfl, hA⟩, h2⟩
  have CI : Hid (∀ W v v' l, IntRow W v l → IntRow W v' l → l.length ≤ 1000000 → Calls Tryz.prog 21 #[v, v'] W fun e w' => e = .returned (.bool true) ∧ Below W.heap.size W w') := Lib.hid fun W v v' l h1 h2 hl => by
    have := ints4_any v v' l l W h1 h2 hl
    rw [decide_eq_true rfl] at this; exact this
  have CM : Hid (∀ W v v' l, NdsAt W v l → NdsAt W v' l → l.length ≤ 1000000 → Calls Tryz.prog 14 #[v, v'] W fun e w' => e = .returned (.bool true) ∧ Below W.heap.size W w') := Lib.hid fun W v v' l h1 h2 hl => same4_eq v v' l W h1 h2 hl
  have CY : Hid (∀ W (s : List UInt8) b, Below w.heap.size w W → symS s = b → Calls Tryz.prog 22 #[.string (str s)] W fun e w' => e = .returned (.bool b) ∧ Below W.heap.size W w') := Lib.hid fun W s b hW hs => by
    have := symbol_any s W (HS.out.below hW); rw [hs] at this; exact this
  clear T
  go_enter Tryz.func6, Tryz.ntmps6
  go_wp2_with fail
  refine (CE.out _).mono ?_
  rintro e w1 ⟨g1, rfl, hN1, hB1⟩
  go_wp2_with fail
  refine (CC.out w1 _ hB1 hN1).mono ?_
  rintro e w2 ⟨rfl, hb2⟩
  have hB2 := hB1.trans (hb2.mono hB1.size)
  clear hN1
  go_wp2_with fail
  refine (CE.out _).mono ?_
  rintro e w3 ⟨g3, rfl, hN3, hb3⟩
  have hB3 := hB2.trans (hb3.mono hB2.size)
  go_wp2_with fail
  refine (CS.out w3 _ hB3 hN3).mono ?_
  rintro e w4 ⟨rfl, hb4⟩
  have hB4 := hB3.trans (hb4.mono hB3.size)
  clear hN3
  go_wp2_with fail
  refine (CE.out _).mono ?_
  rintro e w5 ⟨g5, rfl, hN5, hb5⟩
  have hB5 := hB4.trans (hb5.mono hB4.size)
  go_wp2_with fail
  refine (CP.out w5 _ hB5 hN5).mono ?_
  rintro e w6 ⟨a6, c6, rfl, hR6, hb6⟩
  have hB6 := hB5.trans (hb6.mono hB5.size)
  have HR6 := Lib.hid hR6
  clear hN5 hR6
  go_wp2_with fail
  refine (CE.out _).mono ?_
  rintro e w7 ⟨g7, rfl, hN7, hb7⟩
  have hB7 := hB6.trans (hb7.mono hB6.size)
  have HN7 := Lib.hid hN7
  clear hN7
  go_wp2_with fail
  -- MARK1
  have hbs := below_b1 w7 (.cells #[.int .i64 3, .int .i64 0, .int .i64 0, .string ⟨#[98]⟩] 40)
  refine (CT.out _ _ _ (hB7.trans (hbs.mono hB7.size)) (HN7.out.below hbs (Nat.le_refl _)) (nds_new w7 [(3, 0, 0, [98])] _ _ 1 rfl rfl) (fun a n c e => by cases e; exact Nat.le_refl _)).mono ?_
  rintro e w8 ⟨a8, c8, rfl, hN8, hb8⟩
  have hb78 := hbs.trans (hb8.mono hbs.size)
  have hB8 := hB7.trans (hb78.mono hB7.size)
  have HN8 := Lib.hid hN8
  have HR8 := Lib.hid (HR6.out.below (hb7.trans (hb78.mono hb7.size)))
  clear hN8 hbs hb8
  go_wp2_with fail
  -- MARK2
  have hbt := below_b1 w8 (.cells #[.int .i64 2, .int .i64 0, .int .i64 1, .int .i64 0] 3)
  refine (CSh.out _ _ (intRow_new w8 [2, 0, 1, 0] _ _ 4 rfl rfl)).mono ?_
  rintro e w9 ⟨a9, c9, rfl, hR9, hb9⟩
  have hb89 := hbt.trans (hb9.mono hbt.size)
  have hB9 := hB8.trans (hb89.mono hB8.size)
  have HR9 := Lib.hid hR9
  have HN9 := Lib.hid (HN8.out.below hb89 (Nat.le_refl _))
  have HR69 := Lib.hid (HR8.out.below hb89)
  clear hR9 hbt hb9 HN7 HN8 HR6 HR8
  go_wp2_with fail
  -- MARK3
  have hbu := below_b1 w9 (.cells #[.int .i64 1, .int .i64 1] 3)
  refine (CI.out _ _ _ [1, 1] (HR69.out.below hbu) (intRow_new w9 [1, 1] _ _ 2 rfl rfl) (by decide)).mono ?_
  rintro e w10 ⟨rfl, hb10⟩
  have hb910 := hbu.trans (hb10.mono hbu.size)
  have hB10 := hB9.trans (hb910.mono hB9.size)
  clear hbu hb10
  go_wp2_with fail
  -- MARK4
  have hbv := below_b1 w10 (.cells #[.int .i64 4, .int .i64 3, .int .i64 0, .string ⟨#[]⟩, .int .i64 3, .int .i64 0, .int .i64 0, .string ⟨#[97]⟩, .int .i64 3, .int .i64 0, .int .i64 0, .string ⟨#[98]⟩, .int .i64 3, .int .i64 0, .int .i64 0, .string ⟨#[97]⟩] 40)
  refine (CM.out _ _ _ [(4, 3, 0, []), (3, 0, 0, [97]), (3, 0, 0, [98]), (3, 0, 0, [97])] ((HN9.out.below hb910 (Nat.le_refl _)).below hbv (Nat.le_refl _)) (nds_new w10 _ _ _ 4 rfl rfl) (by decide)).mono ?_
  rintro e w11 ⟨rfl, hb11⟩
  have hb1011 := hbv.trans (hb11.mono hbv.size)
  have hb911 := hb910.trans (hb1011.mono hb910.size)
  have hB11 := hB9.trans (hb911.mono hB9.size)
  clear hbv hb11
  go_wp2_with fail
  -- MARK5
  have hbx := below_b1 w11 (.cells #[.int .i64 4, .int .i64 2, .int .i64 4, .int .i64 4] 3)
  refine (CI.out _ _ _ [4, 2, 4, 4] ((HR9.out.below hb911).below hbx) (intRow_new w11 [4, 2, 4, 4] _ _ 4 rfl rfl) (by decide)).mono ?_
  rintro e w12 ⟨rfl, hb12⟩
  have hB12 := hB11.trans ((hbx.trans (hb12.mono hbx.size)).mono hB11.size)
  go_wp2_with fail
  -- MARK6
  refine (CY.out w12 [97, 45, 49] true hB12 ex_s1).mono ?_
  rintro e w13 ⟨rfl, hb13⟩
  have hB13 := hB12.trans (hb13.mono hB12.size)
  go_wp2_with fail
  refine (CY.out w13 [45, 49] false hB13 ex_s2).mono ?_
  rintro e w14 ⟨rfl, hb14⟩
  have hB14 := hB13.trans (hb14.mono hB13.size)
  go_wp2_with fail
  -- MARK7
  go_ret
  exact ⟨rfl, hB14⟩
end Go.Proofs.YtkngkajojcmmlaaGreatDoor
