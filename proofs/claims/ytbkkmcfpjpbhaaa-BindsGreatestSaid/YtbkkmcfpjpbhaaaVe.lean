/- binds.within, candidates, checkWith. -/
import Derived.Test.YtbkkmcfpjpbhaaaVd
namespace Go.Proofs.Ytbkkmcfpjpbhaaa
open Go.RowKit Go.PlainAid

theorem str_beqV (a b : List UInt8) : ((str a).toList == (str b).toList) = decide (a = b) := str_eqb
set_option maxRecDepth 100000 in
theorem withinB_any (A B : List UInt8) (w : World) (hA : A.length ≤ 100000) (hB : B.length ≤ 100000) :
    Calls Try.prog 47 #[.string (str A), .string (str B)] w fun e w' => e = .returned (.bool (subB A B)) ∧ Below w.heap.size w w' := by
  have C := Lib.hid (sub_any A B w hA hB)
  unfold subB
  obtain ⟨⟨b, er⟩, hr⟩ : ∃ r, subS A B = r := ⟨_, rfl⟩
  rw [hr] at C ⊢
  obtain ⟨S, hS⟩ : ∃ S, str A = S := ⟨_, rfl⟩
  obtain ⟨T, hT⟩ : ∃ T, str B = T := ⟨_, rfl⟩
  rw [hS, hT] at C ⊢
  clear hr hS hT
  go_enter Try.func47, Try.ntmps47
  go_wp2_with fail
  refine C.out.mono ?_
  rintro e w1 ⟨rfl, hb1⟩
  go_wp2_with fail
  go_ret
  exact ⟨rfl, hb1⟩
/-- What a call that returns a list of numbers gives. -/
def GivesN (l : List Nat) (w : World) (e : Ending) (w' : World) : Prop := ∃ v, e = .returned v ∧ Hid (w'.ownsRow w.heap.size 3 1 v l.length (natC l)) ∧ Below w.heap.size w w'
theorem natC_snoc (l : List Nat) (k : Nat) : natC (l ++ [k]) = natC l ++ [.int .i64 (k : Int)] := by unfold natC; rw [List.map_append]; rfl
set_option maxRecDepth 100000 in
set_option maxHeartbeats 3200000 in
theorem cands_any (v : Value) (T : List Bd) (n s : List UInt8) (w : World) (h : BsAt w v T) (hs : SmB T) (hl : T.length ≤ 2000) (hs2 : s.length ≤ 100000) :
    Calls Try.prog 35 #[v, .string (str n), .string (str s)] w (GivesN (candB T n s) w) := by
  have HV := Lib.hid (fun W (hW : Below w.heap.size w W) => h.below hW (Nat.le_refl _))
  obtain ⟨a, c, rfl, hc⟩ := h.slice
  obtain ⟨m, hm⟩ : ∃ m, T.length = m := ⟨_, rfl⟩
  have HN := Lib.hid hm
  have HS := Lib.hid hs
  have CW := Lib.hid (fun x (hx : x ∈ T) W => withinB_any x.s s W (hs x hx).2 hs2)
  have HL := Lib.hid (candG_len T n s)
  have HSu := Lib.hid (candG_succ T n s)
  unfold candB
  rw [hm] at hl hc HV ⊢
  obtain ⟨C, hC⟩ : ∃ C, candG T n s = C := ⟨_, rfl⟩
  rw [hC] at HL HSu ⊢
  have HC0 : Hid (C 0 = []) := Lib.hid (by rw [← hC]; rfl)
  obtain ⟨NN, hNN⟩ : ∃ NN, str n = NN := ⟨_, rfl⟩
  obtain ⟨SS, hSS⟩ : ∃ SS, str s = SS := ⟨_, rfl⟩
  have HNN := Lib.hid hNN
  rw [hSS] at CW
  rw [hNN, hSS]
  obtain ⟨i0, hi, hj0, hj1, hj2⟩ := info_parts2 infoInt
  clear h hm hs hs2 hC hNN hSS
  go_enter Try.func35, Try.ntmps35
  go_wp2_with fail
  go_loopw [7, 12] (fun x7 x12 wr => ∃ (k p : Nat), x12 = .int .i64 (k : Int) ∧ k ≤ m ∧ Hid ((C k).length = p) ∧ p ≤ k ∧ Hid (wr.ownsRow w.heap.size 3 1 x7 p (natC (C k))) ∧ Below w.heap.size w wr) (fun _ x12 _ => m - (intOf x12).toNat)
  case atStart => exact ⟨0, 0, rfl, Nat.zero_le _, Lib.hid (by rw [HC0.out]; rfl), Nat.zero_le _, Lib.hid (by rw [HC0.out]; exact ⟨rfl, .inl ⟨rfl, rfl⟩⟩), Below.refl _ _⟩
  case round =>
    obtain ⟨k, p, rfl, hk, HP, hp, HO, hb⟩ := hrel
    obtain ⟨va, vc, rfl⟩ := own_len HO.out
    have hk0 : (0 : Int) ≤ (k : Int) := Int.natCast_nonneg _
    by_cases hlt : k < m
    · obtain ⟨x, hx⟩ : ∃ x, T[k]? = some x := ⟨_, List.getElem?_eq_getElem (by rw [HN.out]; exact hlt)⟩
      obtain ⟨g, off, rfl, hg, c0, c1, c2, c3⟩ := (HV.out wr hb).node hx
      have CX := Lib.hid (CW.out x (List.mem_of_getElem? hx))
      have HH := Lib.hid (hasB_at (n := n) (s := s) hx)
      have HSk := Lib.hid (HSu.out k)
      have hk1 : (k : Int) < (m : Int) := by omega
      obtain ⟨xn, xs, xp, xr⟩ := x
      have hq := str_beqV xn n
      obtain ⟨bq, hbq⟩ : ∃ bq, decide (xn = n) = bq := ⟨_, rfl⟩
      obtain ⟨bs, hbs⟩ : ∃ bs, subB xs s = bs := ⟨_, rfl⟩
      obtain ⟨X, hX⟩ : ∃ X, str xn = X := ⟨_, rfl⟩
      obtain ⟨Y, hY⟩ : ∃ Y, str xs = Y := ⟨_, rfl⟩
      simp only at c0 c1 c2 c3 CX HH
      rw [hbq, hbs] at HH
      rw [hbs, hY] at CX
      rw [hX] at c0
      rw [hY] at c1
      rw [hX, HNN.out, hbq] at hq
      have hbx := World.alloc_heap_new wr (.cells #[.string X, .string Y, .int .i64 xp, .int .i64 xr] 24)
      have hba : Below w.heap.size w (wr.alloc (.cells #[.string X, .string Y, .int .i64 xp, .int .i64 xr] 24)) := hb.alloc hb.size _
      have HOa : Hid ((wr.alloc (.cells #[.string X, .string Y, .int .i64 xp, .int .i64 xr] 24)).ownsRow w.heap.size 3 1 (.slice va p vc) p (natC (C k))) := Lib.hid (HO.out.alloc _)
      clear hx hbq hbs hX hY
      cases bq
      · have HT : Hid (C (k + 1) = C k) := Lib.hid (by rw [HSk.out, HH.out, if_neg (by simp), List.append_nil])
        go_wp2_with fail
        exact ⟨⟨k + 1, p, by go_num, by omega, Lib.hid (by rw [HT.out]; exact HP.out), by omega, Lib.hid (by rw [HT.out]; exact HOa.out), hba⟩, by simp [intOf]; omega⟩
      · go_wp2_with fail
        refine (CX.out _).mono ?_
        rintro e w1 ⟨rfl, hb1⟩
        have hbw1 : Below w.heap.size w w1 := hba.trans (hb1.mono hba.size)
        have HO1 : Hid (w1.ownsRow w.heap.size 3 1 (.slice va p vc) p (natC (C k))) := Lib.hid (own_below HOa.out hb1)
        cases bs
        · have HT : Hid (C (k + 1) = C k) := Lib.hid (by rw [HSk.out, HH.out, if_neg (by simp), List.append_nil])
          go_wp2_with fail
          exact ⟨⟨k + 1, p, by go_num, by omega, Lib.hid (by rw [HT.out]; exact HP.out), by omega, Lib.hid (by rw [HT.out]; exact HO1.out), hbw1⟩, by simp [intOf]; omega⟩
        · have HT : Hid (C (k + 1) = C k ++ [k]) := Lib.hid (by rw [HSk.out, HH.out, if_pos (by simp)])
          have HTn : Hid (natC (C (k + 1)) = natC (C k) ++ [.int .i64 (k : Int)]) := Lib.hid (by rw [HT.out, natC_snoc])
          have HP1 : Hid ((C (k + 1)).length = p + 1) := Lib.hid (by rw [HT.out, List.length_append, HP.out]; rfl)
          clear hbx
          go_wp2_with (at_builtin; refine wpList_append_own _ rfl _ _ 34 rfl w.heap.size 3 i0 (.int .i64 0) 1 8 Try.underlying34 hi hj0 hj1 hj2 rfl (by decide) _ _ _ rfl (HO1.out.alloc _) ⟨w1.heap.size, 0, none⟩ 1 1 [.int .i64 (k : Int)] rfl rfl (new_cells w1 [.int .i64 (k : Int)] _) (by simp [Value.oneCell']) (by unfold maxLen; omega) (by omega) (by rw [World.size_alloc]; have := hbw1.size; omega) ?_; intro v4 w4 hown4 hgrow4 _; rw [← HTn.out] at hown4; have hb4 : Below w.heap.size w w4 := (hbw1.alloc hbw1.size _).grown hgrow4 (by rw [World.size_alloc]; have := hbw1.size; omega) (fun q hq => (HO1.out.lt q hq).1); have HO4 := Lib.hid hown4; clear hown4 hgrow4)
          exact ⟨⟨k + 1, p + 1, by go_num, by omega, HP1, by omega, HO4, hb4⟩, by simp [intOf]; omega⟩
    · obtain rfl : k = m := by omega
      go_wp2_with fail
      go_ret
      exact ⟨_, rfl, Lib.hid (by rw [HP.out]; exact HO.out), hb⟩
/-- The strings of a slice. -/
def SsAt (w : World) (v : Value) (l : List (List UInt8)) : Prop :=
  ∃ a n c, v = .slice a n c ∧ n = l.length ∧ (l = [] ∨ ∃ g off, a = some ⟨g, off, none⟩ ∧ g < w.heap.size ∧ ∀ (j : Nat) (x : List UInt8), l[j]? = some x → w.cell? ⟨g, off + j, none⟩ = some (.string (str x)))
theorem SsAt.below {B : Nat} {w w' : World} {v : Value} {l : List (List UInt8)} (h : SsAt w v l) (hb : Below B w w') (hB : w.heap.size ≤ B) : SsAt w' v l := by
  obtain ⟨a, n, c, e, hn, h⟩ := h
  refine ⟨a, n, c, e, hn, h.imp id ?_⟩
  rintro ⟨g, off, rfl, hg, hcell⟩
  exact ⟨g, off, rfl, Nat.lt_of_lt_of_le hg hb.size, fun j u hj => (hb.cell (p := ⟨g, off + j, none⟩) (by show g < B; omega)).trans (hcell j u hj)⟩
theorem ss_nil (w : World) : SsAt w (.slice none 0 0) [] := ⟨none, 0, 0, rfl, rfl, .inl rfl⟩
theorem ss_new (w : World) (l : List (List UInt8)) (n : Nat) (t : TypeId) (hn : l.length = n) (A : Array Value) (hA : A = (l.map fun x => Value.string (str x)).toArray) (N : Nat) (hN : w.heap.size = N) : SsAt (w.alloc (.cells A t)) (.slice (some ⟨N, 0, none⟩) n n) l := by
  subst hN hA
  refine ⟨_, n, n, rfl, hn.symm, .inr ⟨w.heap.size, 0, rfl, by rw [World.size_alloc]; omega, fun j x hj => ?_⟩⟩
  rw [World.cell?_alloc_at _ _ _ _ rfl]
  simp [hj]
/-- The first error of sets. -/
def setsE : List (List UInt8) → Int
  | [] => 0
  | x :: l => if chkE x ≠ 0 then chkE x else setsE l
/-- What checkWith returns. -/
def withE (T : List Bd) (l : List (List UInt8)) : Int := if (chkB T).2 ≠ 0 then (chkB T).2 else setsE l
theorem setsE_drop {l : List (List UInt8)} {k : Nat} {x : List UInt8} (h : l[k]? = some x) : setsE (l.drop k) = if chkE x ≠ 0 then chkE x else setsE (l.drop (k + 1)) := by
  obtain ⟨hk, e⟩ := List.getElem?_eq_some_iff.1 h
  rw [List.drop_eq_getElem_cons hk, e, setsE]
set_option maxRecDepth 100000 in
set_option maxHeartbeats 3200000 in
theorem checkWith_any (v v2 : Value) (T : List Bd) (l : List (List UInt8)) (w : World) (h : BsAt w v T) (hs : SmB T) (h2 : SsAt w v2 l) (hl : ∀ x ∈ l, x.length ≤ 100000) (hl2 : l.length ≤ 1000) :
    Calls Try.prog 33 #[v, v2] w fun e w' => e = .returned (.int .i64 (withE T l)) ∧ Below w.heap.size w w' := by
  have C := Lib.hid (bcheck_any v T w h hs)
  have HS := Lib.hid (fun W (hW : Below w.heap.size w W) => h2.below hW (Nat.le_refl _))
  have CC := Lib.hid (fun x (hx : x ∈ l) W => check_any x W (by have := hl x hx; omega))
  obtain ⟨a, n, c, rfl, hn, _⟩ := h2
  obtain ⟨b, cb, rfl, _⟩ := h.slice
  have HN := Lib.hid hn
  unfold withE
  unfold chkV at C
  obtain ⟨⟨i, er⟩, hr⟩ : ∃ r, chkB T = r := ⟨_, rfl⟩
  rw [hr] at C ⊢
  simp only at C ⊢
  have hn1 : n ≤ 1000 := by omega
  clear h hs hl hn hr hl2
  by_cases h0 : er = 0
  · subst h0
    rw [if_neg (by simp)]
    obtain ⟨E, hE⟩ : ∃ E, setsE l = E := ⟨_, rfl⟩
    have HE0 : Hid (setsE (l.drop 0) = E) := Lib.hid hE
    rw [hE]
    clear hE
    go_enter Try.func33, Try.ntmps33
    go_wp2_with fail
    refine C.out.mono ?_
    rintro e w1 ⟨rfl, hb1⟩
    go_wp2_with fail
    go_loopw [20] (fun x20 wr => ∃ (k : Nat), x20 = .int .i64 (k : Int) ∧ k ≤ n ∧ Hid (setsE (l.drop k) = E) ∧ Below w.heap.size w wr) (fun x20 _ => n - (intOf x20).toNat)
    case atStart => exact ⟨0, rfl, Nat.zero_le _, HE0, hb1⟩
    case round =>
      obtain ⟨k, rfl, hk, HE, hb⟩ := hrel
      have hk0 : (0 : Int) ≤ (k : Int) := Int.natCast_nonneg _
      by_cases hlt : k < n
      · obtain ⟨x, hx⟩ : ∃ x, l[k]? = some x := ⟨_, List.getElem?_eq_getElem (by rw [← HN.out]; exact hlt)⟩
        obtain ⟨a', n', c', e', hn', h3⟩ := HS.out wr hb
        obtain ⟨rfl, rfl, rfl⟩ := Value.slice.inj e'
        rcases h3 with h3 | ⟨g, off, rfl, hg, hcell⟩
        · rw [h3] at hx; cases hx
        have c0 := hcell k x hx
        have HD := Lib.hid (setsE_drop hx)
        have CX := Lib.hid (CC.out x (List.mem_of_getElem? hx))
        have hk1 : (k : Int) < (n : Int) := by omega
        obtain ⟨ce, hce⟩ : ∃ ce, chkE x = ce := ⟨_, rfl⟩
        rw [hce] at CX HD
        obtain ⟨X, hX⟩ : ∃ X, str x = X := ⟨_, rfl⟩
        rw [hX] at CX c0
        clear hx hcell e' hn' hce hX
        go_wp2_with fail
        refine (CX.out _).mono ?_
        rintro e w2 ⟨rfl, hb2⟩
        have hbw2 : Below w.heap.size w w2 := below_step hb hb2
        by_cases h1 : ce = 0
        · subst h1
          have HE2 : Hid (setsE (l.drop (k + 1)) = E) := Lib.hid (by rw [← HE.out, HD.out, if_neg (by simp)])
          go_wp2_with fail
          exact ⟨⟨k + 1, by go_num, by omega, HE2, hbw2⟩, by simp [intOf]; omega⟩
        · have hne : (ce != 0) = true := bne_iff_ne.2 h1
          have HE2 : Hid (E = ce) := Lib.hid (by rw [← HE.out, HD.out, if_pos h1])
          go_wp2_with fail
          go_ret
          exact ⟨ret_int HE2.out.symm, hbw2⟩
      · obtain rfl : k = n := by omega
        have HE2 : Hid (E = 0) := Lib.hid (by rw [← HE.out, List.drop_of_length_le (by rw [HN.out]; exact Nat.le_refl _)]; rfl)
        go_wp2_with fail
        go_ret
        exact ⟨ret_int HE2.out.symm, hb⟩
  · have hne : (er != 0) = true := bne_iff_ne.2 h0
    rw [if_pos h0]
    go_enter Try.func33, Try.ntmps33
    go_wp2_with fail
    refine C.out.mono ?_
    rintro e w1 ⟨rfl, hb1⟩
    go_wp2_with fail
    go_ret
    exact ⟨rfl, hb1⟩
-- MARK9
end Go.Proofs.Ytbkkmcfpjpbhaaa
