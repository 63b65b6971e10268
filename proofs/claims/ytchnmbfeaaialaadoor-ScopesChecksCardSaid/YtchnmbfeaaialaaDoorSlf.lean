/- The law ScopesFlips. -/
import Derived.Test.YtchnmbfeaaialaaDoorSw
namespace Go.Proofs.YtchnmbfeaaialaaDoor
open Go.RowKit Go.PlainAid

def farB (n : Nat) : Bool := decide ((300 < n ∧ n < 19900) ∨ 20100 < n)
set_option maxRecDepth 100000 in
theorem far_any (S : ByteArray) (w : World) : Calls Tryd.prog 9 #[.string S] w fun e w' => e = .returned (.bool (farB S.size)) ∧ w' = w := by
  by_cases h1 : 300 < S.size
  · have d1 : decide ((300 : Int) < (S.size : Int)) = true := decide_eq_true (by omega)
    by_cases h2 : S.size < 19900
    · have d2 : decide ((S.size : Int) < 19900) = true := decide_eq_true (by omega)
      have HV : farB S.size = true := decide_eq_true (.inl ⟨h1, h2⟩)
      rw [HV]
      go_enter Tryd.func9, Tryd.ntmps9
      go_wp2_with fail
      go_ret
      exact ⟨rfl, rfl⟩
    · have d2 : decide ((S.size : Int) < 19900) = false := decide_eq_false (by omega)
      have HV : farB S.size = decide ((20100 : Int) < (S.size : Int)) := by unfold farB; rw [Bool.eq_iff_iff, decide_eq_true_iff, decide_eq_true_iff]; omega
      rw [HV]
      go_enter Tryd.func9, Tryd.ntmps9
      go_wp2_with fail
      go_ret
      exact ⟨rfl, rfl⟩
  · have d1 : decide ((300 : Int) < (S.size : Int)) = false := decide_eq_false (by omega)
    have d2 : decide ((20100 : Int) < (S.size : Int)) = false := decide_eq_false (by omega)
    have HV : farB S.size = false := decide_eq_false (by omega)
    rw [HV]
    go_enter Tryd.func9, Tryd.ntmps9
    go_wp2_with fail
    go_ret
    exact ⟨rfl, rfl⟩
theorem far_no {n : Nat} (h : farB n = false) : n ≤ 20100 := by
  unfold farB at h; rw [decide_eq_false_iff_not] at h; omega
theorem one_e3 {f b s : Bool} {A : List UInt8} {n : Int} (h : (oneS f b s A n).2 ≠ 0) : (oneS f b s A n).1 = [] := by
  unfold oneS at h ⊢
  split
  · rfl
  · rename_i h0
    rw [if_neg h0] at h
    unfold outS at h ⊢
    split
    · rfl
    · rename_i h1; rw [if_neg h1] at h; exact absurd rfl h
theorem one_e0 {f b s : Bool} {A : List UInt8} {n : Int} (h : (oneS f b s A n).2 = 0) : ∃ (l : List Nat) (k : Nat), A = setL l ∧ SetOf l ∧ n = (k : Int) ∧ k < 65536 ∧ SetOf (mg f b s l [k]) ∧ oneS f b s A n = (setL (mg f b s l [k]), 0) := by
  have h0 : oneE A n = 0 := by
    by_cases e : oneE A n = 0
    · exact e
    · rw [one_no e] at h; exact absurd h e
  obtain ⟨l, rfl, hl⟩ := set_of (oneE_ok h0).1
  obtain ⟨k, rfl⟩ : ∃ k : Nat, n = k := ⟨n.toNat, by have := (oneE_ok h0).2.1; omega⟩
  have hk : k < 65536 := by have := (oneE_ok h0).2.2; omega
  rw [one_set hl hk] at h ⊢
  have hlen : (mg f b s l [k]).length ≤ 10000 := by
    by_cases e : 10000 < (mg f b s l [k]).length
    · rw [out_no e] at h; exact absurd h (by decide)
    · omega
  exact ⟨l, k, rfl, hl, rfl, hk, hl.mg (SetOf.one hk) hlen, out_ok hlen⟩
theorem one_few (f b s : Bool) (A : List UInt8) (n : Int) : (oneS f b s A n).1.length ≤ 20000 := by
  by_cases h : (oneS f b s A n).2 = 0
  · obtain ⟨l, k, _, _, _, _, h1, h2⟩ := one_e0 h
    rw [h2]; show (setL _).length ≤ _; rw [setL_len]; have := h1.few; omega
  · rw [one_e3 h]; exact Nat.zero_le _
set_option maxRecDepth 100000 in
set_option maxHeartbeats 12800000 in
theorem lawFl_any (SA : ByteArray) (p q : Int) (w : World) (T : STab w) :
    Calls Tryd.prog 6 #[.string SA, .int .i64 p, .int .i64 q] w fun e w' => e = .returned (.bool true) ∧ Below w.heap.size w w' := by
  have CAw := Lib.hid (fun W (hW : Below w.heap.size w W) => awake_any W (T.below hW))
  clear T
  have CF := Lib.hid (far_any SA w)
  obtain ⟨A, hA, lA⟩ := str_of SA
  by_cases hf : farB SA.size = true
  · rw [hf] at CF
    clear hf lA hA
    go_enter Tryd.func6, Tryd.ntmps6
    go_wp2_with fail
    refine CF.out.mono ?_
    rintro e w1 ⟨rfl, rfl⟩
    go_wp2_with fail
    refine (CAw.out _ (Below.refl _ _)).mono ?_
    rintro e w9 ⟨rfl, hb9⟩
    go_wp2_with fail
    go_ret
    exact ⟨rfl, hb9⟩
  rw [Bool.not_eq_true] at hf
  have hlen := far_no hf
  rw [hf] at CF
  have F1 := Lib.hid (fun W => flip_any A p W (by omega))
  by_cases h1 : (oneS true false true A p).2 = 0
  case neg =>
    have hx := one_e3 h1
    obtain ⟨e1, he1⟩ : ∃ e, (oneS true false true A p).2 = e := ⟨_, rfl⟩
    unfold strE at F1
    rw [hx, he1, hA] at F1
    rw [he1] at h1
    have n1 : (e1 != 0) = true := bne_iff_ne.2 h1
    have z1 : (str []).toList.isEmpty = true := by rw [empty_eq]; rfl
    obtain ⟨Z, hZ⟩ : ∃ Z, str [] = Z := ⟨_, rfl⟩
    rw [hZ] at F1 z1
    clear h1 he1 hx hA lA hf hlen hZ
    go_enter Tryd.func6, Tryd.ntmps6
    go_wp2_with fail
    refine CF.out.mono ?_
    rintro e w1 ⟨rfl, rfl⟩
    go_wp2_with fail
    refine (F1.out _).mono ?_
    rintro e w2 ⟨rfl, hb2⟩
    go_wp2_with fail
    refine (CAw.out _ hb2).mono ?_
    rintro e w9 ⟨rfl, hb9⟩
    go_wp2_with fail
    go_ret
    exact ⟨rfl, below_step hb2 hb9⟩
  obtain ⟨l, k, rfl, hl, rfl, hk, hfa, hr⟩ := one_e0 h1
  obtain ⟨fa, efa⟩ : ∃ fa, mg true false true l [k] = fa := ⟨_, rfl⟩
  have hback : mg true false true fa [k] = l := by rw [← efa]; exact flip_flip hl.up k
  have hmem : ∀ z, z ∈ fa ↔ (if z = k then z ∉ l else z ∈ l) := fun z => by rw [← efa]; exact flip_mem hl.up k z
  rw [efa] at hfa hr
  rw [hr] at F1
  have F2 := Lib.hid (fun W => flip_any (setL fa) (k : Int) W (by rw [setL_len]; have := hfa.few; omega))
  rw [one_set hfa hk, hback, out_ok hl.few] at F2
  have H1 := Lib.hid (fun W => hasI_any (setL l) (k : Int) W (by omega))
  have H2 := Lib.hid (fun W => hasI_any (setL fa) (k : Int) W (by rw [setL_len]; have := hfa.few; omega))
  rw [has_set hl hk] at H1
  rw [has_set hfa hk] at H2
  obtain ⟨b1, hb1⟩ : ∃ q, decide (k ∈ l) = q := ⟨_, rfl⟩
  have hb2 : decide (k ∈ fa) = !b1 := by
    rw [← hb1, Bool.eq_iff_iff, decide_eq_true_iff, hmem k, if_pos rfl]; simp
  rw [hb1] at H1
  rw [hb2] at H2
  have nb : (b1 == !b1) = false := by cases b1 <;> rfl
  have K1 := Lib.hid (fun W => check_any (setL fa) W (by rw [setL_len]; have := hfa.few; omega))
  rw [hfa.chk] at K1
  have F3 := Lib.hid (fun W => flip_any (setL l) q W (by omega))
  have F4 := Lib.hid (fun W => flip_any (setL fa) q W (by rw [setL_len]; have := hfa.few; omega))
  have F5 := Lib.hid (fun W => flip_any (oneS true false true (setL l) q).1 (k : Int) W (by have := one_few true false true (setL l) q; omega))
  have H3 := Lib.hid (fun W => hasI_any (setL l) q W (by omega))
  have H4 := Lib.hid (fun W => hasI_any (setL fa) q W (by rw [setL_len]; have := hfa.few; omega))
  have HC : (oneS true false true (setL l) q).2 = 0 → (oneS true false true (setL fa) q).2 = 0 → (oneS true false true (oneS true false true (setL l) q).1 (k : Int)).2 = 0 → oneS true false true (setL fa) q = oneS true false true (oneS true false true (setL l) q).1 (k : Int) := by
    intro g1 g2 _
    obtain ⟨l1, j, e1, s1, rfl, hj, s2, r1⟩ := one_e0 g1
    obtain rfl := (set_eq hl s1).1 e1
    rw [one_set hfa hj, r1]
    show _ = oneS true false true (setL (mg true false true l [j])) (k : Int)
    rw [one_set s2 hk, ← efa, flip_comm hl.up]
  have HH : (oneS true false true (setL fa) q).2 = 0 → (k : Int) ≠ q → ∃ h, hasS (setL l) q = (h, 0) ∧ hasS (setL fa) q = (h, 0) := by
    intro g1 g2
    obtain ⟨l1, j, e1, s1, rfl, hj, s2, r1⟩ := one_e0 g1
    refine ⟨decide (j ∈ l), has_set hl hj, ?_⟩
    rw [has_set hfa hj]
    have : decide (j ∈ fa) = decide (j ∈ l) := by
      rw [Bool.eq_iff_iff, decide_eq_true_iff, decide_eq_true_iff, hmem j, if_neg (by omega)]
    rw [this]
  obtain ⟨r2, hr2⟩ : ∃ r, oneS true false true (setL l) q = r := ⟨_, rfl⟩
  obtain ⟨r3, hr3⟩ : ∃ r, oneS true false true (setL fa) q = r := ⟨_, rfl⟩
  rw [hr2] at F3 F5 HC
  rw [hr3] at F4 HC HH
  obtain ⟨r4, hr4⟩ : ∃ r, oneS true false true r2.1 (k : Int) = r := ⟨_, rfl⟩
  rw [hr4] at F5 HC
  obtain ⟨y2, e2⟩ := r2
  obtain ⟨y3, e3⟩ := r3
  obtain ⟨y4, e4⟩ := r4
  unfold strE at F1 F2 F3 F4 F5
  simp only at F1 F2 F3 F4 F5 HC HH
  obtain ⟨h3, hh3⟩ : ∃ r, hasS (setL l) q = r := ⟨_, rfl⟩
  obtain ⟨h4, hh4⟩ : ∃ r, hasS (setL fa) q = r := ⟨_, rfl⟩
  rw [hh3] at H3 HH
  rw [hh4] at H4 HH
  rw [hA] at F1 F2 F3 H1 H3
  obtain ⟨X, hX⟩ : ∃ X, str (setL fa) = X := ⟨_, rfl⟩
  rw [hX] at F1 F2 F4 H2 H4 K1
  obtain ⟨Y2, hY2⟩ : ∃ X, str y2 = X := ⟨_, rfl⟩
  obtain ⟨Y3, hY3⟩ : ∃ X, str y3 = X := ⟨_, rfl⟩
  obtain ⟨Y4, hY4⟩ : ∃ X, str y4 = X := ⟨_, rfl⟩
  rw [hY2] at F3 F5
  rw [hY3] at F4
  rw [hY4] at F5
  have HC' : Hid (e2 = 0 → e3 = 0 → e4 = 0 → Y3 = Y4) := Lib.hid (fun a b c => by
    have := HC a b c
    rw [← hY3, ← hY4]; rw [(Prod.mk.inj this).1])
  have HH' := Lib.hid HH
  clear HC HH hr2 hr3 hr4 hh3 hh4 hX hY2 hY3 hY4 hA lA hf hlen hl hfa hback hmem efa hr hk h1 hb1 hb2
  have h2c : (e2 = 0 ∧ (e2 == 0) = true) ∨ (e2 == 0) = false := by
    by_cases h : e2 = 0
    · exact .inl ⟨h, by rw [h]; rfl⟩
    · exact .inr (beq_eq_false_iff_ne.2 h)
  have h4c : (e4 = 0 ∧ (e4 == 0) = true) ∨ (e4 == 0) = false := by
    by_cases h : e4 = 0
    · exact .inl ⟨h, by rw [h]; rfl⟩
    · exact .inr (beq_eq_false_iff_ne.2 h)
  by_cases h3 : e3 = 0
  · subst h3
    by_cases hpq : (k : Int) = q
    · have nq : ((k : Int) != q) = false := by rw [bne_eq_false_iff_eq]; exact hpq
      have HY := Lib.hid hpq
      clear hpq
      rcases h2c with ⟨rfl, _⟩ | n2
      · rcases h4c with ⟨rfl, _⟩ | n4
        · obtain rfl := HC'.out rfl rfl rfl
          go_enter Tryd.func6, Tryd.ntmps6
          go_wp2_with fail
          refine CF.out.mono ?_
          rintro e w0 ⟨rfl, rfl⟩
          go_wp2_with fail
          refine (F1.out _).mono ?_
          rintro e w1 ⟨rfl, hB1⟩
          go_wp2_with fail
          refine (F2.out _).mono ?_
          rintro e w2 ⟨rfl, hb2⟩
          have hB2 := below_step hB1 hb2
          go_wp2_with fail
          refine (H1.out _).mono ?_
          rintro e w3 ⟨rfl, hb3⟩
          have hB3 := below_step hB2 hb3
          go_wp2_with fail
          refine (H2.out _).mono ?_
          rintro e w4 ⟨rfl, hb4⟩
          have hB4 := below_step hB3 hb4
          go_wp2_with fail
          refine (K1.out _).mono ?_
          rintro e w5 ⟨rfl, hb5⟩
          have hB5 := below_step hB4 hb5
          go_wp2_with fail
          refine (F3.out _).mono ?_
          rintro e w6 ⟨rfl, hb6⟩
          have hB6 := below_step hB5 hb6
          go_wp2_with fail
          refine (F4.out _).mono ?_
          rintro e w7 ⟨rfl, hb7⟩
          have hB7 := below_step hB6 hb7
          go_wp2_with fail
          refine (F5.out _).mono ?_
          rintro e w8 ⟨rfl, hb8⟩
          have hB8 := below_step hB7 hb8
          go_wp2_with fail
          refine (CAw.out _ hB8).mono ?_
          rintro e wz ⟨rfl, hbz⟩
          go_wp2_with fail
          go_ret
          exact ⟨rfl, below_step hB8 hbz⟩
        · go_enter Tryd.func6, Tryd.ntmps6
          go_wp2_with fail
          refine CF.out.mono ?_
          rintro e w0 ⟨rfl, rfl⟩
          go_wp2_with fail
          refine (F1.out _).mono ?_
          rintro e w1 ⟨rfl, hB1⟩
          go_wp2_with fail
          refine (F2.out _).mono ?_
          rintro e w2 ⟨rfl, hb2⟩
          have hB2 := below_step hB1 hb2
          go_wp2_with fail
          refine (H1.out _).mono ?_
          rintro e w3 ⟨rfl, hb3⟩
          have hB3 := below_step hB2 hb3
          go_wp2_with fail
          refine (H2.out _).mono ?_
          rintro e w4 ⟨rfl, hb4⟩
          have hB4 := below_step hB3 hb4
          go_wp2_with fail
          refine (K1.out _).mono ?_
          rintro e w5 ⟨rfl, hb5⟩
          have hB5 := below_step hB4 hb5
          go_wp2_with fail
          refine (F3.out _).mono ?_
          rintro e w6 ⟨rfl, hb6⟩
          have hB6 := below_step hB5 hb6
          go_wp2_with fail
          refine (F4.out _).mono ?_
          rintro e w7 ⟨rfl, hb7⟩
          have hB7 := below_step hB6 hb7
          go_wp2_with fail
          refine (F5.out _).mono ?_
          rintro e w8 ⟨rfl, hb8⟩
          have hB8 := below_step hB7 hb8
          go_wp2_with fail
          refine (CAw.out _ hB8).mono ?_
          rintro e wz ⟨rfl, hbz⟩
          go_wp2_with fail
          go_ret
          exact ⟨rfl, below_step hB8 hbz⟩
      · go_enter Tryd.func6, Tryd.ntmps6
        go_wp2_with fail
        refine CF.out.mono ?_
        rintro e w0 ⟨rfl, rfl⟩
        go_wp2_with fail
        refine (F1.out _).mono ?_
        rintro e w1 ⟨rfl, hB1⟩
        go_wp2_with fail
        refine (F2.out _).mono ?_
        rintro e w2 ⟨rfl, hb2⟩
        have hB2 := below_step hB1 hb2
        go_wp2_with fail
        refine (H1.out _).mono ?_
        rintro e w3 ⟨rfl, hb3⟩
        have hB3 := below_step hB2 hb3
        go_wp2_with fail
        refine (H2.out _).mono ?_
        rintro e w4 ⟨rfl, hb4⟩
        have hB4 := below_step hB3 hb4
        go_wp2_with fail
        refine (K1.out _).mono ?_
        rintro e w5 ⟨rfl, hb5⟩
        have hB5 := below_step hB4 hb5
        go_wp2_with fail
        refine (F3.out _).mono ?_
        rintro e w6 ⟨rfl, hb6⟩
        have hB6 := below_step hB5 hb6
        go_wp2_with fail
        refine (F4.out _).mono ?_
        rintro e w7 ⟨rfl, hb7⟩
        have hB7 := below_step hB6 hb7
        go_wp2_with fail
        refine (F5.out _).mono ?_
        rintro e w8 ⟨rfl, hb8⟩
        have hB8 := below_step hB7 hb8
        go_wp2_with fail
        refine (CAw.out _ hB8).mono ?_
        rintro e wz ⟨rfl, hbz⟩
        go_wp2_with fail
        go_ret
        exact ⟨rfl, below_step hB8 hbz⟩
    · have nq : ((k : Int) != q) = true := bne_iff_ne.2 hpq
      obtain ⟨h, rfl, rfl⟩ := HH'.out rfl hpq
      have nh : (h != h) = false := by cases h <;> rfl
      clear hpq
      rcases h2c with ⟨rfl, _⟩ | n2
      · rcases h4c with ⟨rfl, _⟩ | n4
        · obtain rfl := HC'.out rfl rfl rfl
          go_enter Tryd.func6, Tryd.ntmps6
          go_wp2_with fail
          refine CF.out.mono ?_
          rintro e w0 ⟨rfl, rfl⟩
          go_wp2_with fail
          refine (F1.out _).mono ?_
          rintro e w1 ⟨rfl, hB1⟩
          go_wp2_with fail
          refine (F2.out _).mono ?_
          rintro e w2 ⟨rfl, hb2⟩
          have hB2 := below_step hB1 hb2
          go_wp2_with fail
          refine (H1.out _).mono ?_
          rintro e w3 ⟨rfl, hb3⟩
          have hB3 := below_step hB2 hb3
          go_wp2_with fail
          refine (H2.out _).mono ?_
          rintro e w4 ⟨rfl, hb4⟩
          have hB4 := below_step hB3 hb4
          go_wp2_with fail
          refine (K1.out _).mono ?_
          rintro e w5 ⟨rfl, hb5⟩
          have hB5 := below_step hB4 hb5
          go_wp2_with fail
          refine (F3.out _).mono ?_
          rintro e w6 ⟨rfl, hb6⟩
          have hB6 := below_step hB5 hb6
          go_wp2_with fail
          refine (F4.out _).mono ?_
          rintro e w7 ⟨rfl, hb7⟩
          have hB7 := below_step hB6 hb7
          go_wp2_with fail
          refine (F5.out _).mono ?_
          rintro e w8 ⟨rfl, hb8⟩
          have hB8 := below_step hB7 hb8
          go_wp2_with fail
          refine (H3.out _).mono ?_
          rintro e w9 ⟨rfl, hb9⟩
          have hB9 := below_step hB8 hb9
          go_wp2_with fail
          refine (H4.out _).mono ?_
          rintro e w10 ⟨rfl, hb10⟩
          have hB10 := below_step hB9 hb10
          go_wp2_with fail
          refine (CAw.out _ hB10).mono ?_
          rintro e wz ⟨rfl, hbz⟩
          go_wp2_with fail
          go_ret
          exact ⟨rfl, below_step hB10 hbz⟩
        · go_enter Tryd.func6, Tryd.ntmps6
          go_wp2_with fail
          refine CF.out.mono ?_
          rintro e w0 ⟨rfl, rfl⟩
          go_wp2_with fail
          refine (F1.out _).mono ?_
          rintro e w1 ⟨rfl, hB1⟩
          go_wp2_with fail
          refine (F2.out _).mono ?_
          rintro e w2 ⟨rfl, hb2⟩
          have hB2 := below_step hB1 hb2
          go_wp2_with fail
          refine (H1.out _).mono ?_
          rintro e w3 ⟨rfl, hb3⟩
          have hB3 := below_step hB2 hb3
          go_wp2_with fail
          refine (H2.out _).mono ?_
          rintro e w4 ⟨rfl, hb4⟩
          have hB4 := below_step hB3 hb4
          go_wp2_with fail
          refine (K1.out _).mono ?_
          rintro e w5 ⟨rfl, hb5⟩
          have hB5 := below_step hB4 hb5
          go_wp2_with fail
          refine (F3.out _).mono ?_
          rintro e w6 ⟨rfl, hb6⟩
          have hB6 := below_step hB5 hb6
          go_wp2_with fail
          refine (F4.out _).mono ?_
          rintro e w7 ⟨rfl, hb7⟩
          have hB7 := below_step hB6 hb7
          go_wp2_with fail
          refine (F5.out _).mono ?_
          rintro e w8 ⟨rfl, hb8⟩
          have hB8 := below_step hB7 hb8
          go_wp2_with fail
          refine (H3.out _).mono ?_
          rintro e w9 ⟨rfl, hb9⟩
          have hB9 := below_step hB8 hb9
          go_wp2_with fail
          refine (H4.out _).mono ?_
          rintro e w10 ⟨rfl, hb10⟩
          have hB10 := below_step hB9 hb10
          go_wp2_with fail
          refine (CAw.out _ hB10).mono ?_
          rintro e wz ⟨rfl, hbz⟩
          go_wp2_with fail
          go_ret
          exact ⟨rfl, below_step hB10 hbz⟩
      · go_enter Tryd.func6, Tryd.ntmps6
        go_wp2_with fail
        refine CF.out.mono ?_
        rintro e w0 ⟨rfl, rfl⟩
        go_wp2_with fail
        refine (F1.out _).mono ?_
        rintro e w1 ⟨rfl, hB1⟩
        go_wp2_with fail
        refine (F2.out _).mono ?_
        rintro e w2 ⟨rfl, hb2⟩
        have hB2 := below_step hB1 hb2
        go_wp2_with fail
        refine (H1.out _).mono ?_
        rintro e w3 ⟨rfl, hb3⟩
        have hB3 := below_step hB2 hb3
        go_wp2_with fail
        refine (H2.out _).mono ?_
        rintro e w4 ⟨rfl, hb4⟩
        have hB4 := below_step hB3 hb4
        go_wp2_with fail
        refine (K1.out _).mono ?_
        rintro e w5 ⟨rfl, hb5⟩
        have hB5 := below_step hB4 hb5
        go_wp2_with fail
        refine (F3.out _).mono ?_
        rintro e w6 ⟨rfl, hb6⟩
        have hB6 := below_step hB5 hb6
        go_wp2_with fail
        refine (F4.out _).mono ?_
        rintro e w7 ⟨rfl, hb7⟩
        have hB7 := below_step hB6 hb7
        go_wp2_with fail
        refine (F5.out _).mono ?_
        rintro e w8 ⟨rfl, hb8⟩
        have hB8 := below_step hB7 hb8
        go_wp2_with fail
        refine (H3.out _).mono ?_
        rintro e w9 ⟨rfl, hb9⟩
        have hB9 := below_step hB8 hb9
        go_wp2_with fail
        refine (H4.out _).mono ?_
        rintro e w10 ⟨rfl, hb10⟩
        have hB10 := below_step hB9 hb10
        go_wp2_with fail
        refine (CAw.out _ hB10).mono ?_
        rintro e wz ⟨rfl, hbz⟩
        go_wp2_with fail
        go_ret
        exact ⟨rfl, below_step hB10 hbz⟩
  · have n3 : (e3 == 0) = false := beq_eq_false_iff_ne.2 h3
    clear h3 h4c
    have hq2 : ((k : Int) != q) = true ∨ ((k : Int) != q) = false := by cases ((k : Int) != q) <;> simp
    rcases hq2 with nq | nq <;> rcases h2c with ⟨rfl, _⟩ | n2
    all_goals
      go_enter Tryd.func6, Tryd.ntmps6
      go_wp2_with fail
      refine CF.out.mono ?_
      rintro e w0 ⟨rfl, rfl⟩
      go_wp2_with fail
      refine (F1.out _).mono ?_
      rintro e w1 ⟨rfl, hB1⟩
      go_wp2_with fail
      refine (F2.out _).mono ?_
      rintro e w2 ⟨rfl, hb2⟩
      have hB2 := below_step hB1 hb2
      go_wp2_with fail
      refine (H1.out _).mono ?_
      rintro e w3 ⟨rfl, hb3⟩
      have hB3 := below_step hB2 hb3
      go_wp2_with fail
      refine (H2.out _).mono ?_
      rintro e w4 ⟨rfl, hb4⟩
      have hB4 := below_step hB3 hb4
      go_wp2_with fail
      refine (K1.out _).mono ?_
      rintro e w5 ⟨rfl, hb5⟩
      have hB5 := below_step hB4 hb5
      go_wp2_with fail
      refine (F3.out _).mono ?_
      rintro e w6 ⟨rfl, hb6⟩
      have hB6 := below_step hB5 hb6
      go_wp2_with fail
      refine (F4.out _).mono ?_
      rintro e w7 ⟨rfl, hb7⟩
      have hB7 := below_step hB6 hb7
      go_wp2_with fail
      refine (F5.out _).mono ?_
      rintro e w8 ⟨rfl, hb8⟩
      have hB8 := below_step hB7 hb8
      go_wp2_with fail
      refine (CAw.out _ hB8).mono ?_
      rintro e wz ⟨rfl, hbz⟩
      go_wp2_with fail
      go_ret
      exact ⟨rfl, below_step hB8 hbz⟩
end Go.Proofs.YtchnmbfeaaialaaDoor
