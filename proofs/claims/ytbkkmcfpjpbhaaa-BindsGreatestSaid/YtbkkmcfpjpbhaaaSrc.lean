/- The reference of layer 9: one, two, ids, Ids, Has, Add, Drop, Flip. -/
import Derived.Test.YtbkkmcfpjpbhaaaSrb
namespace Go.Proofs.Ytbkkmcfpjpbhaaa
open Go.RowKit Go.PlainAid

set_option maxRecDepth 50000 in
theorem rtwo_any (A B : List UInt8) (w : World) (hA : A.length ≤ 1000000) (hB : B.length ≤ 1000000) :
    Calls Try.prog 41 #[.string (str A), .string (str B)] w fun e w' => e = .returned (.int .i64 (twoE A B)) ∧ Below w.heap.size w w' := by
  have C := Lib.hid (rcheck_any A w hA)
  have C2 := Lib.hid (fun W => rcheck_any B W hB)
  obtain ⟨T, hT⟩ : ∃ T, str A = T := ⟨_, rfl⟩
  obtain ⟨U, hU⟩ : ∃ T, str B = T := ⟨_, rfl⟩
  rw [hT] at C ⊢
  rw [hU] at C2 ⊢
  clear hT hU
  by_cases hc : chkE A = 0
  · have HV : Hid (twoE A B = chkE B) := Lib.hid (twoE_no2 hc)
    rw [hc] at C
    obtain ⟨e1, he1⟩ : ∃ e, chkE B = e := ⟨_, rfl⟩
    rw [he1] at C2 HV
    clear hc he1
    go_enter Try.func41, Try.ntmps41
    go_wp2_with fail
    refine C.out.mono ?_
    rintro e w1 ⟨rfl, hb1⟩
    go_wp2_with fail
    refine (C2.out _).mono ?_
    rintro e w2 ⟨rfl, hb2⟩
    go_wp2_with fail
    go_ret
    exact ⟨by rw [HV.out]; rfl, below_step hb1 hb2⟩
  · have HV : Hid (twoE A B = chkE A) := Lib.hid (twoE_no1 hc)
    obtain ⟨e0, he0⟩ : ∃ e, chkE A = e := ⟨_, rfl⟩
    rw [he0] at hc C HV
    have hne : (e0 == 0) = false := beq_eq_false_iff_ne.2 hc
    clear hc he0
    go_enter Try.func41, Try.ntmps41
    go_wp2_with fail
    refine C.out.mono ?_
    rintro e w1 ⟨rfl, hb1⟩
    go_wp2_with fail
    go_ret
    exact ⟨by rw [HV.out]; rfl, hb1⟩
set_option maxRecDepth 100000 in
set_option maxHeartbeats 3200000 in
theorem rids_any (l : List Nat) (w : World) (hx : ∀ x ∈ l, x < 65536) (hL : l.length ≤ 100000) :
    Calls Try.prog 42 #[.string (str (setL l))] w fun e w' => ∃ v, e = .returned v ∧ w'.ownsRow w.heap.size 3 1 v l.length (natC l) ∧ Below w.heap.size w w' := by
  obtain ⟨m, hm⟩ : ∃ m, l.length = m := ⟨_, rfl⟩
  obtain ⟨S, hS⟩ : ∃ S, str (setL l) = S := ⟨_, rfl⟩
  have HSz : Hid (S.size = 2 * m) := Lib.hid (by rw [← hS, str_size, setL_len, hm])
  have HB : Hid (∀ k x, l[k]? = some x → ∃ (p n1 n2 : Nat) (h1 : p < S.size) (h2 : p + 1 < S.size), Hid (p = 2 * k) ∧ ((S[p]'h1).toNat : Int) = (n1 : Int) ∧ ((S[p + 1]'h2).toNat : Int) = (n2 : Int) ∧ Hid (n1 = x / 256 ∧ n2 = x % 256 ∧ x < 65536)) := Lib.hid fun k x h => by
    obtain ⟨a, b⟩ := set_at h
    obtain ⟨h1, e1⟩ := str_get a
    obtain ⟨h2, e2⟩ := str_get b
    have h64 := hx x (List.mem_of_getElem? h)
    subst hS
    exact ⟨2 * k, (hiB x).toNat, (loB x).toNat, h1, h2, Lib.hid rfl, by rw [e1], by rw [e2], Lib.hid ⟨hi_nat h64, lo_nat x, h64⟩⟩
  have HM := Lib.hid hm
  have hmb : m ≤ 100000 := by omega
  rw [hS, hm]
  clear hS hx hm hL
  obtain ⟨i0, hi, hj0, hj1, hj2⟩ := info_parts2 infoInt
  go_enter Try.func42, Try.ntmps42
  go_wp2
  go_loopw [3, 4] (fun x3 x4 wr => ∃ (k : Nat), x4 = .int .i64 ((2 * k : Nat) : Int) ∧ k ≤ m ∧ wr.ownsRow w.heap.size 3 1 x3 k (natC (l.take k)) ∧ Below w.heap.size w wr) (fun _ x4 _ => 2 * m + 1 - (intOf x4).toNat)
  case atStart => exact ⟨0, rfl, Nat.zero_le _, ⟨rfl, .inl ⟨rfl, rfl⟩⟩, Below.refl _ _⟩
  case round =>
    obtain ⟨k, rfl, hk, hown, hbel⟩ := hrel
    obtain ⟨va, vc, rfl⟩ := own_len hown
    have HO := Lib.hid hown
    have HBl := Lib.hid hbel
    clear hown hbel
    by_cases hlt : k < m
    · obtain ⟨x, hxk⟩ : ∃ x, l[k]? = some x := ⟨_, List.getElem?_eq_getElem (by rw [HM.out]; exact hlt)⟩
      obtain ⟨p, n1, n2, q1, q2, HP, b1, b2, HN⟩ := HB.out k x hxk
      have HT : Hid (natC (l.take (k + 1)) = natC (l.take k) ++ [.int .i64 (x : Int)]) := Lib.hid (by rw [← take_snocN hxk]; unfold natC; rw [List.map_append]; rfl)
      have hpm : p + 1 < 2000001 := by have := HSz.out; omega
      rw [← HP.out]
      have hd : decide ((p : Int) < (S.size : Int)) = true := decide_eq_true (by omega)
      have i1 : (0 : Int) ≤ (p : Int) := Int.natCast_nonneg _
      have i2 : (p : Int) < (S.size : Int) := by omega
      have i3 : IntKind.i64.wrap ((p : Int) + 1) = (p : Int) + 1 := by rw [IntKind.wrap_i64]; omega
      have i4 : (0 : Int) ≤ (p : Int) + 1 := by omega
      have i5 : (p : Int) + 1 < (S.size : Int) := by omega
      have htr : True := trivial
      obtain ⟨w1, w2, w3, w4⟩ := two_num HN.out
      have w5 : IntKind.i64.wrap (256 * (n1 : Int)) = 256 * (n1 : Int) := by rw [Int.mul_comm]; exact w2
      have w6 : IntKind.i64.wrap (256 * (n1 : Int) + (n2 : Int)) = (x : Int) := by
        obtain ⟨a, b, c⟩ := HN.out
        rw [IntKind.wrap_i64]; omega
      clear w2 w4
      have hbs := HBl.out.size
      have hownD : Hid (wr.drew.ownsRow w.heap.size 3 1 (.slice va k vc) k (natC (l.take k))) := Lib.hid HO.out.drew
      have hBD : Hid (Below w.heap.size w wr.drew) := Lib.hid HBl.out.drew
      clear hxk
      go_wp2
      -- MARK1
      go_region_held3 (fun w' => w'.heap.size = w'.heap.size) (go_keep) (first
        | (refine step_append_own rfl _ _ 34 rfl w.heap.size 3 i0 (.int .i64 0) 1 8 Try.underlying34 hi hj0 hj1 hj2 rfl (by decide) _ _ _ rfl (hownD.out.alloc _) ⟨wr.drew.heap.size, 0, none⟩ 1 1 [.int .i64 (x : Int)] rfl rfl (new_cells wr.drew [.int .i64 (x : Int)] _) (by simp [Value.oneCell']) (by unfold maxLen; omega) (by omega) (by simp; omega) ?_; intro v' w3 hown3 hgrow3 _))
      -- MARK2
      all_goals go_wp2
      all_goals (
        have hpe := HP.out
        have hsz3 := HSz.out
        refine ⟨⟨k + 1, by go_num, by omega, by rw [HT.out]; exact hown3, ?_⟩, by simp [intOf]; omega⟩
        exact ((hBD.out).alloc (by exact hbs) _).grown hgrow3 (by rw [World.size_alloc]; exact Nat.le_succ_of_le hbs) (fun k hk => (hownD.out.lt k hk).1))
    · obtain rfl : k = m := by omega
      have hd : decide (((2 * k : Nat) : Int) < (S.size : Int)) = false := decide_eq_false (by have := HSz.out; omega)
      have HE : Hid (l.take k = l) := Lib.hid (List.take_of_length_le (by rw [HM.out]; exact Nat.le_refl _))
      obtain ⟨p, hp⟩ : ∃ p, 2 * k = p := ⟨_, rfl⟩
      have hnl : ¬ p < S.size := by have := HSz.out; omega
      have hpb : p ≤ 200000 := by omega
      rw [hp] at hd ⊢
      go_wp2
      -- MARK3
      go_ret
      exact ⟨_, rfl, by have := HO.out; rw [HE.out] at this; exact this, HBl.out⟩
-- MARK9
end Go.Proofs.Ytbkkmcfpjpbhaaa
