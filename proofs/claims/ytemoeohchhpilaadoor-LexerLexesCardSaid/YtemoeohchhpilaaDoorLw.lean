/- The lexer's small functions: ofWords, the closures of runs, classAt. -/
import Derived.Test.YtemoeohchhpilaaDoorRref7
import Derived.BigGuardPart
import Derived.Handy
namespace Go.Proofs.YtemoeohchhpilaaDoor
open Go.RowKit Go.PlainAid

/-- The tables of runes lie in memory. -/
structure STabs (w : World) : Prop where
  mem : MembersTab w
  gm : 2 < w.heap.size
  marks : MarksTab w
  gk : 1 < w.heap.size
theorem STabs.below {w w' : World} (h : STabs w) (hb : Below w.heap.size w w') : STabs w' :=
  ⟨members_below h.mem hb h.gm, Nat.lt_of_lt_of_le h.gm hb.size, marks_below h.marks hb h.gk, Nat.lt_of_lt_of_le h.gk hb.size⟩

set_option maxHeartbeats 1600000 in
theorem ofW_any (r : Int) (w : World) (hm : MembersTab w) : Calls Tryd.prog 26 #[.int .i32 r] w fun e w' => e = .returned (.bool (isWr r)) ∧ w = w' := by
  have C := class_any r w hm
  unfold clsV at C
  obtain ⟨c, hc⟩ : ∃ c, clsS r = c := ⟨_, rfl⟩
  obtain ⟨x, hx⟩ : ∃ x : Int, (if isR r then (0 : Int) else 7) = x := ⟨_, rfl⟩
  have HV : Hid (isWr r = (c == 9 || c == 7 || c == 8)) := Lib.hid (by unfold isWr symC; rw [hc])
  rw [hc, hx] at C
  have HC := Lib.hid C
  clear C hc hx hm
  by_cases h9 : c = 9
  · subst h9
    go_enter Tryd.func26, Tryd.ntmps26
    go_wp2_with (go_at_call 42; refine HC.out.mono ?_; rintro e w' ⟨rfl, rfl⟩)
    go_ret
    exact ⟨ret_bool (by rw [HV.out]; rfl), rfl⟩
  by_cases h7 : c = 7
  · subst h7
    go_enter Tryd.func26, Tryd.ntmps26
    go_wp2_with (go_at_call 42; refine HC.out.mono ?_; rintro e w' ⟨rfl, rfl⟩)
    go_ret
    exact ⟨ret_bool (by rw [HV.out]; rfl), rfl⟩
  by_cases h8 : c = 8
  · subst h8
    go_enter Tryd.func26, Tryd.ntmps26
    go_wp2_with (go_at_call 42; refine HC.out.mono ?_; rintro e w' ⟨rfl, rfl⟩)
    go_ret
    exact ⟨ret_bool (by rw [HV.out]; rfl), rfl⟩
  have g9 : (c == 9) = false := beq_eq_false_iff_ne.2 h9
  have g7 : (c == 7) = false := beq_eq_false_iff_ne.2 h7
  have g8 : (c == 8) = false := beq_eq_false_iff_ne.2 h8
  have HV2 : Hid (isWr r = false) := Lib.hid (by rw [HV.out, g9, g7, g8]; rfl)
  clear HV h7 h8 h9
  go_enter Tryd.func26, Tryd.ntmps26
  go_wp2_with (go_at_call 42; refine HC.out.mono ?_; rintro e w' ⟨rfl, rfl⟩)
  go_ret
  exact ⟨ret_bool (by rw [HV2.out]), rfl⟩
theorem notLf_any (r : Int) (w : World) : Calls Tryd.prog 27 #[.int .i32 r] w fun e w' => e = .returned (.bool (notLf r)) ∧ w = w' := by
  have HV : Hid (notLf r = (r != 10)) := Lib.hid (by unfold notLf; rw [Bool.eq_iff_iff, decide_eq_true_iff, bne_iff_ne])
  go_enter Tryd.func27, Tryd.ntmps27
  go_wp2
  go_ret
  exact ⟨ret_bool (by rw [HV.out]), rfl⟩
theorem decV_of {l : List UInt8} {k : Nat} {r : Int} {n : Nat} {e : Int} (h : dec (l.drop k) = (r, n, e)) : decV (decAt l (k : Int)) = .tuple #[.int .i32 r, .int .i64 (n : Int), .int .i64 e] := by
  rw [decAt_in, h]; rfl

set_option maxRecDepth 50000 in
set_option maxHeartbeats 3200000 in
/-- The closure of runs: where the run ends. -/
theorem run1_any (v : Value) (l : List UInt8) (k : Nat) (B1 B2 : Nat) (w : World) (T : STabs w) (hv : BytesAt w v l) (hl : l.length ≤ 1000000) (hk : k ≤ l.length)
    (h1 : w.heap[B1]? = some (.cells #[v] 22 (0, 0))) (h2 : w.heap[B2]? = some (.cells #[.func (.func 26) #[] #[]] 58 (0, 0))) :
    Calls Tryd.prog 40 #[.int .i64 (k : Int), .pointer (some ⟨B1, 0, none⟩), .pointer (some ⟨B2, 0, none⟩)] w fun e w' => e = .returned (.int .i64 ((k + runN isWr (l.drop k) : Nat) : Int)) ∧ Below w.heap.size w w' := by
  have HT := Lib.hid T
  have HB1 : Hid (∀ W, Below w.heap.size w W → W.cell? ⟨B1, 0, none⟩ = some v) := Lib.hid fun W hW => (hW.cell (p := ⟨B1, 0, none⟩) (Array.getElem?_eq_some_iff.1 h1).1).trans (by simp [World.cell?, h1])
  have HB2 : Hid (∀ W, Below w.heap.size w W → W.cell? ⟨B2, 0, none⟩ = some (.func (.func 26) #[] #[])) := Lib.hid fun W hW => (hW.cell (p := ⟨B2, 0, none⟩) (Array.getElem?_eq_some_iff.1 h2).1).trans (by simp [World.cell?, h2])
  have CD := Lib.hid (fun (i : Nat) W (hW : Below w.heap.size w W) => decode_any v l (i : Int) W (hv.below hW (Nat.le_refl _)) (by omega) (T.below hW).marks)
  have CK := Lib.hid (fun r W (hW : Below w.heap.size w W) => ofW_any r W (T.below hW).mem)
  obtain ⟨n, hn⟩ : ∃ n, l.length = n := ⟨_, rfl⟩
  have HN := Lib.hid hn
  obtain ⟨a, c, rfl⟩ := hv.slice
  rw [List.length_map] at HB1 CD
  rw [hn] at hk hl HB1 CD
  clear hv h1 h2 T hn
  go_enter Tryd.func40, Tryd.ntmps40
  go_wp2_with fail
  -- MARK1
  go_loopw [0] (fun x0 wr => ∃ m : Nat, x0 = .int .i64 (m : Int) ∧ m ≤ n ∧ Hid (k + runN isWr (l.drop k) = m + runN isWr (l.drop m)) ∧ Below w.heap.size w wr) (fun x0 _ => n - (intOf x0).toNat)
  case atStart => exact ⟨k, rfl, hk, Lib.hid rfl, Below.refl _ _⟩
  case round =>
    obtain ⟨m, rfl, hm, HR, hb⟩ := hrel
    have d1 := HB1.out wr hb
    obtain ⟨r, wd, er, hd⟩ : ∃ r wd er, dec (l.drop m) = (r, wd, er) := ⟨_, _, _, rfl⟩
    have C := CD.out m wr hb
    rw [decV_of hd] at C
    have HD := Lib.hid hd
    have HC := Lib.hid C
    clear C hd
    by_cases he : er = 0
    · subst he
      have hw := dec_wd (L := l.drop m) (by rw [HD.out])
      rw [HD.out, List.length_drop, HN.out] at hw
      obtain ⟨hw1, hw2, _⟩ := hw
      simp only at hw1 hw2
      have hlt : m < n := by omega
      have hwr : IntKind.i64.wrap ((m : Int) + (wd : Int)) = (m : Int) + (wd : Int) := by rw [IntKind.wrap_i64]; omega
      obtain ⟨b, hbb⟩ : ∃ b, isWr r = b := ⟨_, rfl⟩
      have CR := Lib.hid (fun W hW => CK.out r W hW)
      rw [hbb] at CR
      cases b with
      | true =>
        have HS : Hid (k + runN isWr (l.drop k) = (m + wd) + runN isWr (l.drop (m + wd))) := Lib.hid (by
          rw [HR.out, runN_step (L := l.drop m) (by rw [HD.out]) (by rw [HD.out]; exact hbb), HD.out, List.drop_drop]
          simp only; omega)
        clear hbb hwr
        go_wp2_with fail
        refine HC.out.mono ?_
        rintro e w1 ⟨rfl, hb1⟩
        have hB1 := hb.trans (hb1.mono hb.size)
        have d2 := HB2.out w1 hB1
        go_wp2_with fail
        -- MARK2
        refine (CR.out w1 hB1).mono ?_
        rintro e w2 ⟨rfl, rfl⟩
        go_wp2_with fail
        -- MARK3
        go_roundw
        case rel => exact ⟨m + wd, by go_num, by omega, HS, hB1⟩
        case measure => simp [intOf]; omega
      | false =>
        have HS : Hid (k + runN isWr (l.drop k) = m) := Lib.hid (by
          rw [HR.out, runN_stop (L := l.drop m) (by rw [HD.out]; simp [hbb])]; rfl)
        clear hbb hwr
        go_wp2_with fail
        refine HC.out.mono ?_
        rintro e w1 ⟨rfl, hb1⟩
        have hB1 := hb.trans (hb1.mono hb.size)
        have d2 := HB2.out w1 hB1
        go_wp2_with fail
        refine (CR.out w1 hB1).mono ?_
        rintro e w2 ⟨rfl, rfl⟩
        go_wp2_with fail
        go_ret
        exact ⟨by rw [HS.out]; rfl, hB1⟩
    · have HS : Hid (k + runN isWr (l.drop k) = m) := Lib.hid (by
        rw [HR.out, runN_stop (L := l.drop m) (by rw [HD.out]; exact fun h => he h.1)]; rfl)
      have hne : (er != 0) = true := bne_iff_ne.2 he
      clear he
      go_wp2_with fail
      refine HC.out.mono ?_
      rintro e w1 ⟨rfl, hb1⟩
      have hB1 := hb.trans (hb1.mono hb.size)
      go_wp2_with fail
      -- MARK4
      go_ret
      exact ⟨by rw [HS.out]; rfl, hB1⟩
set_option maxRecDepth 50000 in
set_option maxHeartbeats 3200000 in
/-- The closure of runs: where the run ends. -/
theorem run2_any (v : Value) (l : List UInt8) (k : Nat) (B1 B2 : Nat) (w : World) (T : STabs w) (hv : BytesAt w v l) (hl : l.length ≤ 1000000) (hk : k ≤ l.length)
    (h1 : w.heap[B1]? = some (.cells #[v] 22 (0, 0))) (h2 : w.heap[B2]? = some (.cells #[.func (.func 27) #[] #[]] 58 (0, 0))) :
    Calls Tryd.prog 40 #[.int .i64 (k : Int), .pointer (some ⟨B1, 0, none⟩), .pointer (some ⟨B2, 0, none⟩)] w fun e w' => e = .returned (.int .i64 ((k + runN notLf (l.drop k) : Nat) : Int)) ∧ Below w.heap.size w w' := by
  have HT := Lib.hid T
  have HB1 : Hid (∀ W, Below w.heap.size w W → W.cell? ⟨B1, 0, none⟩ = some v) := Lib.hid fun W hW => (hW.cell (p := ⟨B1, 0, none⟩) (Array.getElem?_eq_some_iff.1 h1).1).trans (by simp [World.cell?, h1])
  have HB2 : Hid (∀ W, Below w.heap.size w W → W.cell? ⟨B2, 0, none⟩ = some (.func (.func 27) #[] #[])) := Lib.hid fun W hW => (hW.cell (p := ⟨B2, 0, none⟩) (Array.getElem?_eq_some_iff.1 h2).1).trans (by simp [World.cell?, h2])
  have CD := Lib.hid (fun (i : Nat) W (hW : Below w.heap.size w W) => decode_any v l (i : Int) W (hv.below hW (Nat.le_refl _)) (by omega) (T.below hW).marks)
  have CK := Lib.hid (fun r W (hW : Below w.heap.size w W) => notLf_any r W)
  obtain ⟨n, hn⟩ : ∃ n, l.length = n := ⟨_, rfl⟩
  have HN := Lib.hid hn
  obtain ⟨a, c, rfl⟩ := hv.slice
  rw [List.length_map] at HB1 CD
  rw [hn] at hk hl HB1 CD
  clear hv h1 h2 T hn
  go_enter Tryd.func40, Tryd.ntmps40
  go_wp2_with fail
  -- NMARK1
  go_loopw [0] (fun x0 wr => ∃ m : Nat, x0 = .int .i64 (m : Int) ∧ m ≤ n ∧ Hid (k + runN notLf (l.drop k) = m + runN notLf (l.drop m)) ∧ Below w.heap.size w wr) (fun x0 _ => n - (intOf x0).toNat)
  case atStart => exact ⟨k, rfl, hk, Lib.hid rfl, Below.refl _ _⟩
  case round =>
    obtain ⟨m, rfl, hm, HR, hb⟩ := hrel
    have d1 := HB1.out wr hb
    obtain ⟨r, wd, er, hd⟩ : ∃ r wd er, dec (l.drop m) = (r, wd, er) := ⟨_, _, _, rfl⟩
    have C := CD.out m wr hb
    rw [decV_of hd] at C
    have HD := Lib.hid hd
    have HC := Lib.hid C
    clear C hd
    by_cases he : er = 0
    · subst he
      have hw := dec_wd (L := l.drop m) (by rw [HD.out])
      rw [HD.out, List.length_drop, HN.out] at hw
      obtain ⟨hw1, hw2, _⟩ := hw
      simp only at hw1 hw2
      have hlt : m < n := by omega
      have hwr : IntKind.i64.wrap ((m : Int) + (wd : Int)) = (m : Int) + (wd : Int) := by rw [IntKind.wrap_i64]; omega
      obtain ⟨b, hbb⟩ : ∃ b, notLf r = b := ⟨_, rfl⟩
      have CR := Lib.hid (fun W hW => CK.out r W hW)
      rw [hbb] at CR
      cases b with
      | true =>
        have HS : Hid (k + runN notLf (l.drop k) = (m + wd) + runN notLf (l.drop (m + wd))) := Lib.hid (by
          rw [HR.out, runN_step (L := l.drop m) (by rw [HD.out]) (by rw [HD.out]; exact hbb), HD.out, List.drop_drop]
          simp only; omega)
        clear hbb hwr
        go_wp2_with fail
        refine HC.out.mono ?_
        rintro e w1 ⟨rfl, hb1⟩
        have hB1 := hb.trans (hb1.mono hb.size)
        have d2 := HB2.out w1 hB1
        go_wp2_with fail
        -- NMARK2
        refine (CR.out w1 hB1).mono ?_
        rintro e w2 ⟨rfl, rfl⟩
        go_wp2_with fail
        -- NMARK3
        go_roundw
        case rel => exact ⟨m + wd, by go_num, by omega, HS, hB1⟩
        case measure => simp [intOf]; omega
      | false =>
        have HS : Hid (k + runN notLf (l.drop k) = m) := Lib.hid (by
          rw [HR.out, runN_stop (L := l.drop m) (by rw [HD.out]; simp [hbb])]; rfl)
        clear hbb hwr
        go_wp2_with fail
        refine HC.out.mono ?_
        rintro e w1 ⟨rfl, hb1⟩
        have hB1 := hb.trans (hb1.mono hb.size)
        have d2 := HB2.out w1 hB1
        go_wp2_with fail
        refine (CR.out w1 hB1).mono ?_
        rintro e w2 ⟨rfl, rfl⟩
        go_wp2_with fail
        go_ret
        exact ⟨by rw [HS.out]; rfl, hB1⟩
    · have HS : Hid (k + runN notLf (l.drop k) = m) := Lib.hid (by
        rw [HR.out, runN_stop (L := l.drop m) (by rw [HD.out]; exact fun h => he h.1)]; rfl)
      have hne : (er != 0) = true := bne_iff_ne.2 he
      clear he
      go_wp2_with fail
      refine HC.out.mono ?_
      rintro e w1 ⟨rfl, hb1⟩
      have hB1 := hb.trans (hb1.mono hb.size)
      go_wp2_with fail
      -- NMARK4
      go_ret
      exact ⟨by rw [HS.out]; rfl, hB1⟩

set_option maxRecDepth 50000 in
set_option maxHeartbeats 1600000 in
theorem classAt_any (v : Value) (l : List UInt8) (k : Nat) (w : World) (T : STabs w) (hv : BytesAt w v l) (hl : l.length ≤ 1000000) (hk : k ≤ l.length) :
    Calls Tryd.prog 28 #[v, .int .i64 (k : Int)] w fun e w' => e = .returned (.tuple #[.int .i64 (clsP (l.drop k)).1, .int .i64 ((k + (clsP (l.drop k)).2 : Nat) : Int)]) ∧ Below w.heap.size w w' := by
  have CD := decode_any v l (k : Int) w hv (by omega) T.marks
  have CC := Lib.hid (fun r W (hW : Below w.heap.size w W) => class_any r W (T.below hW).mem)
  obtain ⟨r, wd, er, hd⟩ : ∃ r wd er, dec (l.drop k) = (r, wd, er) := ⟨_, _, _, rfl⟩
  rw [decV_of hd] at CD
  have HCD := Lib.hid CD
  clear CD
  by_cases he : er = 0
  · subst he
    have hw := dec_wd (L := l.drop k) (by rw [hd])
    rw [hd, List.length_drop] at hw
    obtain ⟨hw1, hw2, _⟩ := hw
    simp only at hw1 hw2
    have HP : Hid (clsP (l.drop k) = (clsS r, wd)) := Lib.hid (by unfold clsP; rw [hd, if_pos rfl])
    have HR := Lib.hid (fun W hW => CC.out r W hW)
    unfold clsV at HR
    have hwr : IntKind.i64.wrap ((k : Int) + (wd : Int)) = (k : Int) + (wd : Int) := by rw [IntKind.wrap_i64]; omega
    have hx1 : (0 : Int) ≤ (k : Int) := Int.natCast_nonneg _
    clear CC hd T hv hwr
    go_enter Tryd.func28, Tryd.ntmps28
    go_wp2_with fail
    refine HCD.out.mono ?_
    rintro e w1 ⟨rfl, hb1⟩
    go_wp2_with fail
    refine (HR.out w1 hb1).mono ?_
    rintro e w2 ⟨rfl, rfl⟩
    go_wp2_with fail
    -- MARK5
    go_ret2
    exact ⟨by rw [HP.out]; rfl, hb1⟩
  · have HP : Hid (clsP (l.drop k) = (10, 1)) := Lib.hid (by unfold clsP; rw [hd, if_neg he])
    have hne : (er != 0) = true := bne_iff_ne.2 he
    clear CC hd T hv he
    go_enter Tryd.func28, Tryd.ntmps28
    go_wp2_with fail
    refine HCD.out.mono ?_
    rintro e w1 ⟨rfl, hb1⟩
    go_wp2_with fail
    -- MARK6
    go_ret2
    exact ⟨by rw [HP.out]; rfl, hb1⟩
end Go.Proofs.YtemoeohchhpilaaDoor
