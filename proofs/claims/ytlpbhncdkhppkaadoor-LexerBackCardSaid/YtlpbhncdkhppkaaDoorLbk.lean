/- The law LexerBack. -/
import Derived.Test.YtlpbhncdkhppkaaDoorLbm
import Derived.Test.YtlpbhncdkhppkaaDoorLlp
import Derived.Test.YtlpbhncdkhppkaaDoorLlt
namespace Go.Proofs.YtlpbhncdkhppkaaDoor
open Go.RowKit Go.PlainAid

theorem tkb_bare {q m : List Tok} (h : m.map bareT = q.map bareT) (hq : TkB q) : TkB m := by
  intro t ht
  have h1 : bareT t ∈ q.map bareT := by rw [← h]; exact List.mem_map_of_mem ht
  obtain ⟨u, hu, e⟩ := List.mem_map.1 h1
  have := hq u hu
  unfold bareT at e
  simp only [Prod.mk.injEq] at e
  rw [← e.2.1, ← e.2.2]; exact this
/-- What is known of a list that is printed without an error. -/
structure Printed (w : World) (q : List Tok) (s : List UInt8) (at' : Nat) (m : List Tok) : Prop where
  small : s.length ≤ 8000
  lex : ∀ a c W, Below w.heap.size w W → BytesAt W (.slice a s.length c) s → s.length ≤ c → Calls Tryd.prog 14 #[.slice a s.length c] W fun e w' => ∃ v cv, e = .returned (.tuple #[.slice v m.length cv, .agg #[.int .i64 0, .int .i64 0], .int .i64 0]) ∧ Hid (TksAt w' (.slice v m.length cv) m) ∧ Below W.heap.size W w'
  again : ∀ v W, Below w.heap.size w W → TksAt W v m → Calls Tryd.prog 29 #[v] W fun e w' => e = .returned (.tuple #[.string (str s), .int .i64 (at' : Int), .int .i64 0]) ∧ Below W.heap.size W w'
  first : ∀ v W, Below w.heap.size w W → TksAt W v q → Calls Tryd.prog 29 #[v] W fun e w' => e = .returned (.tuple #[.string (str s), .int .i64 (at' : Int), .int .i64 0]) ∧ Below W.heap.size W w'
  same : ∀ v v' W, TksAt W v q → TksAt W v' m → Calls Tryd.prog 16 #[v, v', .bool false] W fun e w' => e = .returned (.bool true) ∧ Below W.heap.size W w'
theorem printed {w : World} {q : List Tok} {s : List UInt8} {at' : Nat} (T : PTabs w) (hl : q.length ≤ 1000000) (hB : TkB q) (h : prS q = (s, at', 0)) : ∃ m, Printed w q s at' m := by
  obtain ⟨h1, m, h2, h3, h4⟩ := back_S (fun t ht => (hB t ht).1) h
  have hml : m.length = q.length := by have := congrArg List.length h3; simpa using this
  refine ⟨m, h1, fun a c W hW hv hc => ?_, fun v W hW hv => ?_, fun v W hW hv => ?_, fun v v' W hv hv' => ?_⟩
  · refine (Lex_at h2 m.length rfl a s.length c W hv hc (by omega) rfl (T.below hW).lt).mono ?_
    rintro e w' ⟨v, cv, rfl, ho, hb⟩
    exact ⟨v, cv, rfl, Lib.hid (tks_own ho.out rfl), hb⟩
  · have := Print_any v m W hv (by omega) (tkb_bare h3 hB) (T.below hW)
    unfold prV at this; rw [h4] at this; exact this
  · have := Print_any v q W hv hl hB (T.below hW)
    unfold prV at this; rw [h] at this; exact this
  · exact Same_any v v' q m W hv hv' hl h3.symm
set_option maxRecDepth 100000 in
set_option maxHeartbeats 6400000 in
theorem lawBk_any (v : Value) (l : List Tok) (vb : Value) (b : List UInt8) (w : World) (h : TksAt w v l) (hf : ∀ t ∈ l, fits t.2.2.2.1) (hb : ArgAt w vb (b.map bc)) (T : PTabs w) :
    Calls Tryd.prog 6 #[v, vb] w fun e w' => e = .returned (.bool true) ∧ Below w.heap.size w w' := by
  obtain ⟨a, nb, c, rfl, hnb, hcap, hBy⟩ := arg_form hb
  have CAw := Lib.hid (fun W (hW : Below w.heap.size w W) => awake_any W (T.below hW))
  have CS := Lib.hid (strings_any v l w h)
  obtain ⟨a0, c0, rfl⟩ := h.slice
  obtain ⟨n0, hn0⟩ : ∃ n0, l.length = n0 := ⟨_, rfl⟩
  rw [hn0] at h CS ⊢
  have HT := Lib.hid T
  have Hh := Lib.hid h
  have Hf := Lib.hid hf
  by_cases h3 : 300 < nb
  · have d1 : decide ((300 : Int) < (nb : Int)) = true := decide_eq_true (by omega)
    clear h hf hb hBy T hnb h3
    go_enter Tryd.func6, Tryd.ntmps6
    go_wp2_with fail
    refine CS.out.mono ?_
    rintro e w1 ⟨x, rfl, hb1, HR⟩
    cases x
    all_goals
      go_wp2_with fail
      refine (CAw.out _ hb1).mono ?_
      rintro e w2 ⟨rfl, hb2⟩
      go_wp2_with fail
      go_ret
      exact ⟨rfl, below_step hb1 hb2⟩
  have d1 : decide ((300 : Int) < (nb : Int)) = false := decide_eq_false (by omega)
  obtain ⟨r, hr⟩ : ∃ r, lexS b = r := ⟨_, rfl⟩
  obtain ⟨m, ⟨f1, f2⟩, fe⟩ := r
  have CL := Lib.hid (fun W (hW : Below w.heap.size w W) => Lex_at hr m.length rfl a nb c W (RowAt.below hBy hW (Nat.le_refl _)) hcap (by omega) hnb (T.below hW).lt)
  obtain ⟨p1, p2, p3⟩ := lex_prints (b := b) (by omega)
  rw [hr] at p1 p2 p3
  simp only at p1 p2 p3
  obtain ⟨sm, hsm⟩ : ∃ sm, prG none m = sm := ⟨_, rfl⟩
  rw [hsm] at p1
  obtain ⟨mm, hmm⟩ := printed T (by omega) (fun t ht => ⟨(p3 t ht).1, by have := (p3 t ht).2; omega⟩ : TkB m) p1
  have HM := Lib.hid hmm
  have HSm := Lib.hid hmm.small
  clear h hf hb hBy T hnb h3 p1 p2 p3 hsm hr hmm
  go_enter Tryd.func6, Tryd.ntmps6
  go_wp2_with fail
  refine CS.out.mono ?_
  rintro e w1 ⟨x, rfl, hb1, HR⟩
  cases x
  case true =>
    go_wp2_with fail
    refine (CAw.out _ hb1).mono ?_
    rintro e w2 ⟨rfl, hb2⟩
    go_wp2_with fail
    go_ret
    exact ⟨rfl, below_step hb1 hb2⟩
  case false =>
    have HBl : Hid (TkB l ∧ l.length ≤ 1000000) := Lib.hid ⟨fun t ht => ⟨Hf.out t ht, by have := (HR.out rfl).2 t ht; omega⟩, by have := (HR.out rfl).1; omega⟩
    go_wp2_with fail
    refine (CL.out _ hb1).mono ?_
    rintro e w2 ⟨v1, cv1, rfl, ho, hb2⟩
    have HT1 := Lib.hid (tks_own ho.out rfl)
    have hB2 := below_step hb1 hb2
    clear ho
    obtain ⟨Wb, hWb⟩ : ∃ Wb, Wb = w2.alloc (.cells #[.int .i64 f1, .int .i64 f2] 27) := ⟨_, rfl⟩
    have hBb : Below w.heap.size w Wb := by rw [hWb]; exact hB2.alloc hB2.size _
    have HTb : Hid (TksAt Wb (.slice v1 m.length cv1) m) := Lib.hid (by rw [hWb]; exact HT1.out.below (below_b1 _ _) (Nat.le_refl _))
    clear HT1
    obtain ⟨k1, hk1⟩ : ∃ k1, m.length = k1 := ⟨_, rfl⟩
    rw [hk1] at HTb
    simp only [hk1]
    go_wp2_with fail
    -- MARK1
    rw [← hWb]
    clear hWb
    go_loopw [0, 8] (fun x0 x8 wr => ∃ i : Nat, x8 = .int .i64 (i : Int) ∧ ((i = 0 ∧ x0 = .slice a0 n0 c0) ∨ (i = 1 ∧ x0 = .slice a0 n0 c0) ∨ i = 2) ∧ Below w.heap.size w wr ∧ Below Wb.heap.size Wb wr) (fun _ x8 _ => 2 - (intOf x8).toNat)
    case atStart => exact ⟨0, rfl, .inl ⟨rfl, rfl⟩, hBb, Below.refl _ _⟩
    case round =>
      obtain ⟨i, rfl, hi, hB, hbb⟩ := hrel
      rcases hi with ⟨rfl, rfl⟩ | ⟨rfl, rfl⟩ | rfl
      · obtain ⟨ps, hps⟩ : ∃ ps, prS l = ps := ⟨_, rfl⟩
        obtain ⟨s, pa, pe⟩ := ps
        by_cases hpe : pe = 0
        · subst hpe
          obtain ⟨mm2, hP⟩ := printed HT.out HBl.out.2 HBl.out.1 hps
          have HP := Lib.hid hP
          have HSx := Lib.hid hP.small
          clear hP hps
          have HTq : Hid (∀ W, Below w.heap.size w W → Below Wb.heap.size Wb W → TksAt W (.slice a0 n0 c0) l) := Lib.hid fun W hW hW2 => Hh.out.below hW (Nat.le_refl _)
          obtain ⟨S, hS⟩ : ∃ S, str s = S := ⟨_, rfl⟩
          have C1 := Lib.hid (fun W hW hW2 => HP.out.first (.slice a0 n0 c0) W hW (HTq.out W hW hW2))
          have C2 := Lib.hid (fun a c W hW hv hc => HP.out.lex a c W hW hv hc)
          have C3 := Lib.hid (fun v W hW hv => HP.out.again v W hW hv)
          have C4 := Lib.hid (fun v' W hW hW2 hv' => HP.out.same (.slice a0 n0 c0) v' W (HTq.out W hW hW2) hv')
          have HC := Lib.hid (fun W => conv_at s W)
          rw [hS] at C1 C3 HC
          clear hS
          obtain ⟨ns, hns⟩ : ∃ ns, s.length = ns := ⟨_, rfl⟩
          rw [hns] at C2 HC
          clear hns
          obtain ⟨k2, hk2⟩ : ∃ k2, mm2.length = k2 := ⟨_, rfl⟩
          rw [hk2] at C2
          clear hk2
          go_wp2_with fail
          -- MARKa1
          refine (C1.out _ hB hbb).mono ?_
          rintro e w3 ⟨rfl, hb3⟩
          have hB3 := below_step hB hb3
          have hbb3 := below_step hbb hb3
          obtain ⟨cap, W4, hcv, hb4, hcap4, hlt4, hby4⟩ := HC.out w3
          have hB4 := below_step hB3 hb4
          have hbb4 := below_step hbb3 hb4
          have HBy := Lib.hid hby4
          clear hby4
          go_wp2_with fail
          -- MARKb1
          refine (C2.out _ _ W4 hB4 HBy.out hcap4).mono ?_
          rintro e w5 ⟨v5, cv5, rfl, ht5, hb5⟩
          have hB5 := below_step hB4 hb5
          have hbb5 := below_step hbb4 hb5
          obtain ⟨W6, hW6⟩ : ∃ W6, W6 = w5.alloc (.cells #[.int .i64 0, .int .i64 0] 27) := ⟨_, rfl⟩
          have hb6 : Below w5.heap.size w5 W6 := by rw [hW6]; exact below_b1 _ _
          have hB6 := below_step hB5 hb6
          have hbb6 := below_step hbb5 hb6
          have HT6 := Lib.hid (ht5.out.below hb6 (Nat.le_refl _))
          go_wp2_with fail
          -- MARKc1
          rw [← hW6]
          clear hW6
          refine (C3.out _ W6 hB6 HT6.out).mono ?_
          rintro e w7 ⟨rfl, hb7⟩
          have hB7 := below_step hB6 hb7
          have hbb7 := below_step hbb6 hb7
          have HT7 := Lib.hid (HT6.out.below hb7 (Nat.le_refl _))
          go_wp2_with fail
          -- MARKd1
          refine (C4.out _ w7 hB7 hbb7 HT7.out).mono ?_
          rintro e w8 ⟨rfl, hb8⟩
          have hB8 := below_step hB7 hb8
          have hbb8 := below_step hbb7 hb8
          go_wp2_with fail
          -- MARKe1
          exact ⟨⟨1, rfl, .inr (.inl ⟨rfl, rfl⟩), hB8, hbb8⟩, by simp [intOf]⟩
        · have CP : Hid (∀ W, Below w.heap.size w W → Calls Tryd.prog 29 #[.slice a0 n0 c0] W fun e w' => e = .returned (.tuple #[.string (str s), .int .i64 (pa : Int), .int .i64 pe]) ∧ Below W.heap.size W w') := Lib.hid fun W hW => by
            have := Print_any (.slice a0 n0 c0) l W (Hh.out.below hW (Nat.le_refl _)) HBl.out.2 HBl.out.1 (HT.out.below hW)
            unfold prV at this; rw [hps] at this; exact this
          have hne : (pe != 0) = true := bne_iff_ne.2 hpe
          clear hps hpe
          go_wp2_with fail
          refine (CP.out _ hB).mono ?_
          rintro e w3 ⟨rfl, hb3⟩
          go_wp2_with fail
          -- MARK2
          exact ⟨⟨1, rfl, .inr (.inl ⟨rfl, rfl⟩), below_step hB hb3, below_step hbb hb3⟩, by simp [intOf]⟩
      · by_cases hfe : fe = 0
        · subst hfe
          have HTq : Hid (∀ W, Below w.heap.size w W → Below Wb.heap.size Wb W → TksAt W (.slice v1 k1 cv1) m) := Lib.hid fun W hW hW2 => HTb.out.below hW2 (Nat.le_refl _)
          obtain ⟨S, hS⟩ : ∃ S, str sm = S := ⟨_, rfl⟩
          have C1 := Lib.hid (fun W hW hW2 => HM.out.first (.slice v1 k1 cv1) W hW (HTq.out W hW hW2))
          have C2 := Lib.hid (fun a c W hW hv hc => HM.out.lex a c W hW hv hc)
          have C3 := Lib.hid (fun v W hW hv => HM.out.again v W hW hv)
          have C4 := Lib.hid (fun v' W hW hW2 hv' => HM.out.same (.slice v1 k1 cv1) v' W (HTq.out W hW hW2) hv')
          have HC := Lib.hid (fun W => conv_at sm W)
          rw [hS] at C1 C3 HC
          clear hS
          obtain ⟨ns, hns⟩ : ∃ ns, sm.length = ns := ⟨_, rfl⟩
          rw [hns] at C2 HC
          clear hns
          obtain ⟨k2, hk2⟩ : ∃ k2, mm.length = k2 := ⟨_, rfl⟩
          rw [hk2] at C2
          clear hk2
          go_wp2_with fail
          -- MARKa2
          refine (C1.out _ hB hbb).mono ?_
          rintro e w3 ⟨rfl, hb3⟩
          have hB3 := below_step hB hb3
          have hbb3 := below_step hbb hb3
          obtain ⟨cap, W4, hcv, hb4, hcap4, hlt4, hby4⟩ := HC.out w3
          have hB4 := below_step hB3 hb4
          have hbb4 := below_step hbb3 hb4
          have HBy := Lib.hid hby4
          clear hby4
          go_wp2_with fail
          -- MARKb2
          refine (C2.out _ _ W4 hB4 HBy.out hcap4).mono ?_
          rintro e w5 ⟨v5, cv5, rfl, ht5, hb5⟩
          have hB5 := below_step hB4 hb5
          have hbb5 := below_step hbb4 hb5
          obtain ⟨W6, hW6⟩ : ∃ W6, W6 = w5.alloc (.cells #[.int .i64 0, .int .i64 0] 27) := ⟨_, rfl⟩
          have hb6 : Below w5.heap.size w5 W6 := by rw [hW6]; exact below_b1 _ _
          have hB6 := below_step hB5 hb6
          have hbb6 := below_step hbb5 hb6
          have HT6 := Lib.hid (ht5.out.below hb6 (Nat.le_refl _))
          go_wp2_with fail
          -- MARKc2
          rw [← hW6]
          clear hW6
          refine (C3.out _ W6 hB6 HT6.out).mono ?_
          rintro e w7 ⟨rfl, hb7⟩
          have hB7 := below_step hB6 hb7
          have hbb7 := below_step hbb6 hb7
          have HT7 := Lib.hid (HT6.out.below hb7 (Nat.le_refl _))
          go_wp2_with fail
          -- MARKd2
          refine (C4.out _ w7 hB7 hbb7 HT7.out).mono ?_
          rintro e w8 ⟨rfl, hb8⟩
          have hB8 := below_step hB7 hb8
          have hbb8 := below_step hbb7 hb8
          go_wp2_with fail
          -- MARKe2
          exact ⟨⟨2, rfl, .inr (.inr rfl), hB8, hbb8⟩, by simp [intOf]⟩
        · have hne : (fe != 0) = true := bne_iff_ne.2 hfe
          clear hfe
          go_wp2_with fail
          -- MARK3
          refine (CAw.out _ hB).mono ?_
          rintro e w3 ⟨rfl, hb3⟩
          go_wp2_with fail
          go_ret
          exact ⟨rfl, below_step hB hb3⟩
      · go_wp2_with fail
        refine (CAw.out _ hB).mono ?_
        rintro e w3 ⟨rfl, hb3⟩
        go_wp2_with fail
        -- MARK4
        go_ret
        exact ⟨rfl, below_step hB hb3⟩
end Go.Proofs.YtlpbhncdkhppkaaDoor
