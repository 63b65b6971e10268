import Derived.Test.YtdiinlmeoifgjaaGreatDoorZd
import Derived.Lib.SlTrimSet
import Derived.Shelf.Strings.SlTrimAscii
import Derived.Lib.ConvBytes
import Derived.Laws.AppendOwn
/- Symbols: mathematics. -/
namespace Go.Proofs.YtdiinlmeoifgjaaGreatDoor
open Go.RowKit Go.PlainAid

def digS : List UInt8 := [48, 49, 50, 51, 52, 53, 54, 55, 56, 57]
/-- A sign, or none, left out. -/
def unsigned (s : List UInt8) : List UInt8 := match s with | [] => [] | c :: t => if c = 43 ∨ c = 45 then t else c :: t
/-- A sign, or none, and then digits alone, at least one. -/
def intB (s : List UInt8) : Bool := decide (unsigned s ≠ []) && (unsigned s).all (digS.contains ·)
/-- A rune of which symbols are made. -/
def symC (r : Int) : Bool := clsS r == 9 || clsS r == 7 || clsS r == 8
def symS (s : List UInt8) : Bool := decide (1 ≤ s.length) && decide (s.length ≤ 24) && decide ((chkS s).2 = 0) && (runs s).1.all symC && !intB s
theorem sym_short {s : List UInt8} (h : s.length < 1) : symS s = false := by unfold symS; rw [decide_eq_false (show ¬1 ≤ s.length by omega)]; rfl
theorem sym_long {s : List UInt8} (h : 24 < s.length) : symS s = false := by unfold symS; rw [decide_eq_false (show ¬s.length ≤ 24 by omega), Bool.and_false]; rfl
theorem sym_bad {s : List UInt8} (h : (chkS s).2 ≠ 0) : symS s = false := by unfold symS; rw [decide_eq_false h, Bool.and_false]; rfl
theorem sym_else {s : List UInt8} (h1 : 1 ≤ s.length) (h2 : s.length ≤ 24) (h3 : (chkS s).2 = 0) : symS s = ((runs s).1.all symC && !intB s) := by
  unfold symS; rw [decide_eq_true h1, decide_eq_true h2, decide_eq_true h3]; rfl
theorem sym_rune {s : List UInt8} {r : Int} (h : r ∈ (runs s).1) (hr : symC r = false) : symS s = false := by
  unfold symS
  have : (runs s).1.all symC = false := by rw [List.all_eq_false]; exact ⟨r, h, by rw [hr]; decide⟩
  rw [this, Bool.and_false]; rfl
theorem sym_int {s : List UInt8} (h : intB s = true) : symS s = false := by unfold symS; rw [h, Bool.not_true, Bool.and_false]
theorem all_take {l : List Int} {k : Nat} {r : Int} (h : (l.take k).all symC = true) (hk : l[k]? = some r) (hr : symC r = true) : (l.take (k + 1)).all symC = true := by
  rw [List.take_add_one, List.all_append, h, hk]
  simp [hr]

theorem trim_nil : ∀ (l cs : List UInt8), (Lib.trimS l cs = []) ↔ l.all (cs.contains ·) = true := by
  intro l cs
  have d : ∀ m : List UInt8, m.dropWhile (cs.contains ·) = [] ↔ m.all (cs.contains ·) = true := by
    intro m
    induction m with
    | nil => exact ⟨fun _ => rfl, fun _ => rfl⟩
    | cons a m ih =>
      rw [List.dropWhile_cons, List.all_cons]
      cases h : cs.contains a with
      | true => rw [if_pos rfl, ih, Bool.true_and]
      | false => rw [if_neg (by decide)]; simp
  unfold Lib.trimS Lib.trimLeftS
  rw [d]
  unfold Lib.trimRightS
  rw [List.all_reverse]
  have e : ∀ m : List UInt8, (m.dropWhile (cs.contains ·)).all (cs.contains ·) = true ↔ m.all (cs.contains ·) = true := by
    intro m
    induction m with
    | nil => exact Iff.rfl
    | cons a m ih =>
      rw [List.dropWhile_cons]
      cases h : cs.contains a with
      | true => rw [if_pos rfl, ih, List.all_cons, h, Bool.true_and]
      | false => rw [if_neg (by decide)]
  rw [e, List.all_reverse]
theorem int_cons (c : UInt8) (t : List UInt8) : intB (c :: t) = if c = 43 ∨ c = 45 then (decide (t ≠ []) && t.all (digS.contains ·)) else (c :: t).all (digS.contains ·) := by
  by_cases h : c = 43 ∨ c = 45
  · simp only [intB, unsigned, if_pos h]
  · simp only [intB, unsigned, if_neg h]
    rw [decide_eq_true (by simp)]; rfl
theorem dig_iff (c : UInt8) : digS.contains c = decide (48 ≤ c.toNat ∧ c.toNat ≤ 57) := by
  have : ∀ n : Fin 256, digS.contains (UInt8.ofNat n.val) = decide (48 ≤ (UInt8.ofNat n.val).toNat ∧ (UInt8.ofNat n.val).toNat ≤ 57) := by decide +kernel
  have h := this ⟨c.toNat, c.toNat_lt⟩
  rw [show UInt8.ofNat c.toNat = c by simp] at h
  exact h
end Go.Proofs.YtdiinlmeoifgjaaGreatDoor

/- Symbol: the program's and the reference's. -/
namespace Go.Proofs.YtdiinlmeoifgjaaGreatDoor
open Go.RowKit Go.PlainAid

set_option maxHeartbeats 1600000 in
theorem ofSym_any (r : Int) (w : World) (hm : MembersTab w) : Calls Tryz.prog 68 #[.int .i32 r] w fun e w' => e = .returned (.bool (symC r)) ∧ w = w' := by
  have C := class_any r w hm
  unfold clsV at C
  obtain ⟨c, hc⟩ : ∃ c, clsS r = c := ⟨_, rfl⟩
  obtain ⟨x, hx⟩ : ∃ x : Int, (if isR r then (0 : Int) else 7) = x := ⟨_, rfl⟩
  have HV : Hid (symC r = (c == 9 || c == 7 || c == 8)) := Lib.hid (by unfold symC; rw [hc])
  rw [hc, hx] at C
  have HC := Lib.hid C
  clear C hc hx hm
  by_cases h9 : c = 9
  · subst h9
    go_enter Tryz.func68, Tryz.ntmps68
    go_wp2_with (go_at_call 76; refine HC.out.mono ?_; rintro e w' ⟨rfl, rfl⟩)
    go_ret
    exact ⟨ret_bool (by rw [HV.out]; rfl), rfl⟩
  by_cases h7 : c = 7
  · subst h7
    go_enter Tryz.func68, Tryz.ntmps68
    go_wp2_with (go_at_call 76; refine HC.out.mono ?_; rintro e w' ⟨rfl, rfl⟩)
    go_ret
    exact ⟨ret_bool (by rw [HV.out]; rfl), rfl⟩
  by_cases h8 : c = 8
  · subst h8
    go_enter Tryz.func68, Tryz.ntmps68
    go_wp2_with (go_at_call 76; refine HC.out.mono ?_; rintro e w' ⟨rfl, rfl⟩)
    go_ret
    exact ⟨ret_bool (by rw [HV.out]; rfl), rfl⟩
  have g9 : (c == 9) = false := beq_eq_false_iff_ne.2 h9
  have g7 : (c == 7) = false := beq_eq_false_iff_ne.2 h7
  have g8 : (c == 8) = false := beq_eq_false_iff_ne.2 h8
  have HV2 : Hid (symC r = false) := Lib.hid (by rw [HV.out, g9, g7, g8]; rfl)
  clear HV h7 h8 h9
  go_enter Tryz.func68, Tryz.ntmps68
  go_wp2_with (go_at_call 76; refine HC.out.mono ?_; rintro e w' ⟨rfl, rfl⟩)
  go_ret
  exact ⟨ret_bool (by rw [HV2.out]), rfl⟩

theorem trim_dig (s : List UInt8) (w : World) (hs : s.length ≤ 1000) : Calls Tryz.prog 77 #[.string (str s), .string ⟨#[48, 49, 50, 51, 52, 53, 54, 55, 56, 57]⟩] w fun e w' => e = .returned (.string (str (Lib.trimS s digS))) ∧ Below w.heap.size w w' :=
  Any.strings_Trim_laid Tryz.lays160 (by kernel_rfl) (str s) ⟨#[48, 49, 50, 51, 52, 53, 54, 55, 56, 57]⟩ w (by rw [str_size]; omega) (by decide) (ascii_of_all (by decide))
theorem extr_1 (c : UInt8) (t : List UInt8) : (str (c :: t)).extract 1 (t.length + 1) = str t := by
  rw [← str_data ((str (c :: t)).extract 1 _), Lib.extract_data, str_list]
  congr 1
  show (List.take _ (List.drop 1 (c :: t))) = t
  rw [List.drop_succ_cons, List.drop_zero, List.take_of_length_le (by omega)]
theorem emp_str (s : List UInt8) : (str s).toList = s := by rw [ByteArray.toList_eq]; rfl

set_option maxRecDepth 50000 in
set_option maxHeartbeats 1600000 in
theorem integer_any (c : UInt8) (t : List UInt8) (w : World) (hl : (c :: t).length ≤ 1000) : Calls Tryz.prog 69 #[.string (str (c :: t))] w fun e w' => e = .returned (.bool (intB (c :: t))) ∧ Below w.heap.size w w' := by
  have CT : Hid (∀ (s : List UInt8) W, s.length ≤ 1000 → Calls Tryz.prog 77 #[.string (str s), .string ⟨#[48, 49, 50, 51, 52, 53, 54, 55, 56, 57]⟩] W fun e w' => e = .returned (.string (str (Lib.trimS s digS))) ∧ Below W.heap.size W w') := Lib.hid fun s W h => trim_dig s W h
  obtain ⟨S, hS⟩ : ∃ S, str (c :: t) = S := ⟨_, rfl⟩
  have hsz : S.size = t.length + 1 := by rw [← hS, str_size]; rfl
  have hx : S.extract 1 (t.length + 1) = str t := by rw [← hS]; exact extr_1 c t
  have h0 : 0 < S.size := by omega
  have hb0 : ((S[0]'h0).toNat : Int) = (c.toNat : Int) := by rw [← bt_get S 0 h0, ← hS, bt_str _ 0 (by simp)]; rfl
  have hz : ∀ u : List UInt8, ((str (Lib.trimS u digS)).toList == []) = u.all (digS.contains ·) := fun u => by
    rw [emp_str, Bool.eq_iff_iff, beq_iff_eq]; exact trim_nil u digS
  by_cases hc : c = 43 ∨ c = 45
  · have HV : Hid (intB (c :: t) = (decide (t ≠ []) && t.all (digS.contains ·))) := Lib.hid (by rw [int_cons, if_pos hc])
    have HL : Hid (t.length ≤ 1000) := Lib.hid (by simp at hl; omega)
    have hor : (((S[0]'h0).toNat : Int) == 43) = true ∨ ((((S[0]'h0).toNat : Int) == 43) = false ∧ (((S[0]'h0).toNat : Int) == 45) = true) := by
      rw [hb0]; rcases hc with rfl | rfl
      · exact .inl rfl
      · exact .inr ⟨rfl, rfl⟩
    have hzt := hz t
    obtain ⟨Z, hZ⟩ : ∃ Z, str (Lib.trimS t digS) = Z := ⟨_, rfl⟩
    have CT2 := Lib.hid (fun W => CT.out t W HL.out)
    rw [hZ] at CT2 hzt
    obtain ⟨bb, hbb⟩ : ∃ bb, t.all (digS.contains ·) = bb := ⟨_, rfl⟩
    rw [hbb] at hzt HV
    rw [hS]
    clear hb0 hz hc hS hZ hbb hl CT
    by_cases ht : t = []
    · subst ht
      have ht1 : ((str ([] : List UInt8)).toList == []) = true := by rw [emp_str]; rfl
      have ht2 : (str ([] : List UInt8)).toList.isEmpty = true := by rw [emp_str]; rfl
      have HV2 : Hid (intB (c :: []) = false) := Lib.hid (by rw [HV.out]; rfl)
      clear HV
      rcases hor with e1 | ⟨e1, e2⟩ <;> (
        go_enter Tryz.func69, Tryz.ntmps69
        go_wp2_with fail
        -- MARK1
        go_ret
        exact ⟨ret_bool (by rw [HV2.out]), Below.refl _ _⟩)
    · have ht1 : ((str t).toList == []) = false := by rw [emp_str]; exact beq_eq_false_iff_ne.2 ht
      have ht2 : (str t).toList.isEmpty = false := by rw [emp_str]; cases t with | nil => exact absurd rfl ht | cons _ _ => rfl
      have HV2 : Hid (intB (c :: t) = bb) := Lib.hid (by rw [HV.out, decide_eq_true ht]; rfl)
      clear HV ht
      rcases hor with e1 | ⟨e1, e2⟩ <;> (
        go_enter Tryz.func69, Tryz.ntmps69
        go_wp2_with (go_at_call 77; refine (CT2.out _).mono ?_; rintro e w1 ⟨rfl, hb1⟩)
        -- MARK2
        go_ret
        exact ⟨ret_bool (by rw [HV2.out]), hb1⟩)
  · have HV : Hid (intB (c :: t) = (c :: t).all (digS.contains ·)) := Lib.hid (by rw [int_cons, if_neg hc])
    have e1 : (((S[0]'h0).toNat : Int) == 43) = false := by
      rw [hb0, beq_eq_false_iff_ne]; intro e; exact hc (.inl (UInt8.toNat_inj.1 (by show c.toNat = 43; omega)))
    have e2 : (((S[0]'h0).toNat : Int) == 45) = false := by
      rw [hb0, beq_eq_false_iff_ne]; intro e; exact hc (.inr (UInt8.toNat_inj.1 (by show c.toNat = 45; omega)))
    have hzt := hz (c :: t)
    obtain ⟨Z, hZ⟩ : ∃ Z, str (Lib.trimS (c :: t) digS) = Z := ⟨_, rfl⟩
    have CT2 := Lib.hid (fun W => CT.out (c :: t) W hl)
    rw [hZ] at CT2 hzt
    rw [hS] at CT2
    obtain ⟨bb, hbb⟩ : ∃ bb, (c :: t).all (digS.contains ·) = bb := ⟨_, rfl⟩
    rw [hbb] at hzt HV
    have ht1 : (S.toList == []) = false := by rw [← hS, emp_str]; rfl
    have ht2 : S.toList.isEmpty = false := by rw [← hS, emp_str]; rfl
    rw [hS]
    clear hb0 hz hc hS hZ hbb hl CT
    go_enter Tryz.func69, Tryz.ntmps69
    go_wp2_with (go_at_call 77; refine (CT2.out _).mono ?_; rintro e w1 ⟨rfl, hb1⟩)
    -- MARK3
    go_ret
    exact ⟨ret_bool (by rw [HV.out]), hb1⟩
end Go.Proofs.YtdiinlmeoifgjaaGreatDoor

/- Symbol. -/
namespace Go.Proofs.YtdiinlmeoifgjaaGreatDoor
open Go.RowKit Go.PlainAid

/-- The tables of runes lie in memory. -/
structure STabs (w : World) : Prop where
  mem : MembersTab w
  gm : 0 < w.heap.size
  marks : MarksTab w
  gk : 1 < w.heap.size
theorem STabs.below {w w' : World} (h : STabs w) (hb : Below w.heap.size w w') : STabs w' :=
  ⟨members_below h.mem hb h.gm, Nat.lt_of_lt_of_le h.gm hb.size, marks_below h.marks hb h.gk, Nat.lt_of_lt_of_le h.gk hb.size⟩
theorem conv_bytes (s : List UInt8) (w : World) : ∃ cap W1, (convert 9 98 (.string (str s))).run Tryz.prog w = .ok (.slice (some ⟨w.heap.size, 0, none⟩) s.length cap) W1 ∧ Below w.heap.size w W1 ∧ s.length ≤ cap ∧ w.heap.size < W1.heap.size ∧
    ∀ j u, (s.map bc)[j]? = some u → W1.cell? ⟨w.heap.size, j, none⟩ = some u := by
  have h := Lib.run_convert_string_bytes (P := Tryz.prog) w 9 98 5 (str s) Tryz.underlying9 Tryz.underlying98 Tryz.underlying5
  rw [str_size] at h
  refine ⟨_, _, h, ⟨rfl, rfl, rfl, by rw [Lib.bytesWorld_size]; omega, fun k hk => Lib.bytesWorld_at_old w _ _ k hk⟩, grownCap_ge _ _ _ _, by rw [Lib.bytesWorld_size]; omega, fun j u hj => ?_⟩
  have hjl : j < s.length := by have := (List.getElem?_eq_some_iff.1 hj).1; simpa using this
  rw [Lib.bytesWorld_cell w _ _ j (by rw [str_size]; exact hjl), str_list]
  rw [List.getElem?_map, List.getElem?_eq_getElem hjl] at hj
  rw [← Option.some.inj hj]
  simp [bc, List.getD, hjl]

set_option maxRecDepth 50000 in
set_option maxHeartbeats 1600000 in
theorem symbol_len (s : List UInt8) (w : World) (h : s.length < 1 ∨ 24 < s.length) : Calls Tryz.prog 62 #[.string (str s)] w fun e w' => e = .returned (.bool (symS s)) ∧ Below w.heap.size w w' := by
  have HV : Hid (symS s = false) := Lib.hid (by rcases h with h | h; exact sym_short h; exact sym_long h)
  obtain ⟨S, hS⟩ : ∃ S, str s = S := ⟨_, rfl⟩
  have hz : S.size = s.length := by rw [← hS, str_size]
  rw [hS]
  clear hS
  obtain ⟨n, hn⟩ : ∃ n, s.length = n := ⟨_, rfl⟩
  rw [hn] at hz h
  clear hn
  rcases h with h | h
  · have e0 : ((n : Int) == 0) = true := beq_iff_eq.2 (by omega)
    clear h
    go_enter Tryz.func62, Tryz.ntmps62
    go_wp2_with fail
    go_ret
    exact ⟨ret_bool (by rw [HV.out]), Below.refl _ _⟩
  · have e0 : ((n : Int) == 0) = false := beq_eq_false_iff_ne.2 (by omega)
    have e1 : decide ((24 : Int) < (n : Int)) = true := decide_eq_true (by omega)
    go_enter Tryz.func62, Tryz.ntmps62
    go_wp2_with fail
    go_ret
    exact ⟨ret_bool (by rw [HV.out]), Below.refl _ _⟩

set_option maxRecDepth 50000 in
set_option maxHeartbeats 3200000 in
theorem symbol_any (s : List UInt8) (w : World) (T : STabs w) : Calls Tryz.prog 62 #[.string (str s)] w fun e w' => e = .returned (.bool (symS s)) ∧ Below w.heap.size w w' := by
  by_cases h : s.length < 1 ∨ 24 < s.length
  · exact symbol_len s w h
  obtain ⟨cap, W1, hcv, hb1, hcap, hlt1, hcells⟩ := conv_bytes s w
  have CR := Lib.hid (runes_any (.slice (some ⟨w.heap.size, 0, none⟩) s.length cap) s W1 (.inr ⟨w.heap.size, 0, s.length, cap, rfl, by rw [List.length_map], hlt1, fun j u hj => by rw [Nat.zero_add]; exact hcells j u hj⟩) (by omega) (T.below hb1).marks (T.below hb1).gk)
  have CI : Hid (∀ W, Calls Tryz.prog 69 #[.string (str s)] W fun e w' => e = .returned (.bool (intB s)) ∧ Below W.heap.size W w') := Lib.hid fun W => by
    cases s with
    | nil => simp at h
    | cons c t => exact integer_any c t W (by omega)
  have HT := Lib.hid T
  have HSE := Lib.hid (fun h3 => sym_else (s := s) (by omega) (by omega) h3)
  have HBad := Lib.hid (fun h3 => sym_bad (s := s) h3)
  have HR : Hid (∀ r, r ∈ (runs s).1 → symC r = false → symS s = false) := Lib.hid (fun r h1 h2 => sym_rune h1 h2)
  have HRS : Hid (runesS s = if (chkS s).2 = 0 then ((runs s).1, 0) else ([], (chkS s).2)) := Lib.hid rfl
  obtain ⟨n, hn⟩ : ∃ n, s.length = n := ⟨_, rfl⟩
  have hz : (str s).size = n := by rw [str_size, hn]
  rw [hn] at h hcv CR
  have e0 : ((n : Int) == 0) = false := beq_eq_false_iff_ne.2 (by omega)
  have e1 : decide ((24 : Int) < (n : Int)) = false := decide_eq_false (by omega)
  obtain ⟨S, hS⟩ : ∃ S, str s = S := ⟨_, rfl⟩
  rw [hS] at hz hcv CI
  rw [hS]
  clear T hcap hlt1 hcells h hn hS
  go_enter Tryz.func62, Tryz.ntmps62
  go_wp2_with fail
  -- MARK1
  refine CR.out.mono ?_
  rintro e w2 ⟨v, rfl, hown, hb2⟩
  have hB2 : Below w.heap.size w w2 := hb1.trans (hb2.mono hb1.size)
  by_cases hc : (chkS s).2 = 0
  · have hrs : runesS s = ((runs s).1, 0) := by rw [HRS.out, if_pos hc]
    rw [hrs] at hown ⊢
    obtain ⟨L, hL⟩ : ∃ L, (runs s).1 = L := ⟨_, rfl⟩
    have HL := Lib.hid hL
    have HV := Lib.hid (HSE.out hc)
    simp only [hL] at hown ⊢
    obtain ⟨m, hm⟩ : ∃ m, L.length = m := ⟨_, rfl⟩
    have HM := Lib.hid hm
    rw [hm] at hown
    obtain ⟨a, cc, rfl⟩ := own_lenR hown
    have hmx : m ≤ 9223372036854775807 := by have := own_capR hown; unfold maxLen at this; omega
    have HO := Lib.hid hown
    have TM := Lib.hid (HT.out.below hB2).mem
    clear hrs hL hm hown hcv e0 e1 hc HBad CR
    go_wp2_with fail
    -- MARK2
    go_loop [25] (fun x => ∃ k : Nat, x = .int .i64 k ∧ k ≤ m ∧ Hid ((L.take k).all symC = true)) (fun x => m - (intOf x).toNat)
    case atStart => exact ⟨0, rfl, Nat.zero_le _, Lib.hid rfl⟩
    case round =>
      obtain ⟨k, rfl, hk, HA⟩ := hrel
      by_cases hlt : k < m
      · obtain ⟨r, hr⟩ : ∃ r, L[k]? = some r := ⟨_, List.getElem?_eq_getElem (by rw [HM.out]; exact hlt)⟩
        rcases own_formR HO.out with ⟨_, h00⟩ | ⟨gs, cs, hv, hgs, hgs2⟩
        · omega
        obtain ⟨rfl, _, rfl⟩ := Value.slice.inj hv
        clear hv
        have d0 : w2.cell? ⟨gs, k, none⟩ = some (.int .i32 r) := own_cell HO.out (by rw [List.getElem?_map, hr]; rfl)
        have C := Lib.hid (fun W => ofSym_any r W)
        have hk0 : (0 : Int) ≤ (k : Int) := Int.natCast_nonneg _
        have hk1 : (k : Int) < (m : Int) := by omega
        obtain ⟨b, hb⟩ : ∃ b, symC r = b := ⟨_, rfl⟩
        rw [hb] at C
        cases b with
        | true =>
          have HA2 := Lib.hid (all_take HA.out hr hb)
          clear hr hb
          go_wp2_with (go_at_call 68; refine (C.out _ TM.out).mono ?_; rintro e w3 ⟨rfl, rfl⟩)
          go_round
          case rel => exact ⟨k + 1, by go_num, by omega, HA2⟩
          case measure => simp [intOf]; omega
        | false =>
          have HF := Lib.hid (HR.out r (by rw [HL.out]; exact List.mem_of_getElem? hr) hb)
          clear hr hb
          go_wp2_with (go_at_call 68; refine (C.out _ TM.out).mono ?_; rintro e w3 ⟨rfl, rfl⟩)
          go_ret
          exact ⟨ret_bool (by rw [HF.out]), hB2⟩
      · obtain rfl : k = m := by omega
        have HF : Hid (symS s = !intB s) := Lib.hid (by
          have h1 := HA.out
          rw [List.take_of_length_le (Nat.le_of_eq HM.out)] at h1
          rw [HV.out, HL.out, h1, Bool.true_and])
        go_wp2_with (go_at_call 69; refine (CI.out _).mono ?_; rintro e w3 ⟨rfl, hb3⟩)
        -- MARK3
        go_ret
        exact ⟨ret_bool (by rw [HF.out]), hB2.trans (hb3.mono hB2.size)⟩
  · have hrs : runesS s = ([], (chkS s).2) := by rw [HRS.out, if_neg hc]
    have HF := Lib.hid (HBad.out hc)
    have hne : ((chkS s).2 != 0) = true := bne_iff_ne.2 hc
    rw [hrs] at hown ⊢
    clear hrs hown hcv e0 e1 hc
    go_wp2_with fail
    -- MARK4
    go_ret
    exact ⟨ret_bool (by rw [HF.out]), hB2⟩
end Go.Proofs.YtdiinlmeoifgjaaGreatDoor
