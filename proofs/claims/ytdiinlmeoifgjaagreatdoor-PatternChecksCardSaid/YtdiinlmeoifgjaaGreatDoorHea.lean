/- The reference of layer 12: Id, Has, End, Elements; SameIds; slices.Contains. -/
import Derived.Test.YtdiinlmeoifgjaaGreatDoorZq
import Derived.BigQuiet
namespace Go.Proofs.YtdiinlmeoifgjaaGreatDoor
open Go.RowKit Go.PlainAid

theorem eat_atH {l : List Sx} {e m : Nat} {x : Sx} {r : List Nat} (hx : l[e]? = some x) (h : eat ((kidsX l).drop e) (m + 1) = some r) : eat ((kidsX l).drop (e + 1)) (x.c.toNat + m) = some r := by
  obtain ⟨hk, ek⟩ := List.getElem?_eq_some_iff.1 (kidsX_at hx)
  rw [List.drop_eq_getElem_cons hk, ek, eat_cons] at h; exact h
theorem eat_lenH {ks : List Nat} {m : Nat} {r : List Nat} (h : eat ks m = some r) : m + r.length ≤ ks.length := by
  obtain ⟨p, e, h1, _⟩ := eat_suffix _ _ _ h
  rw [e, List.length_append]; omega
theorem kidsN_takeH {ks : List Nat} {i j : Nat} (hj : j < cnt ks i) : (kidsN ks i).take (j + 1) = (kidsN ks i).take j ++ [posK ks i j] := by
  rw [List.take_add_one, kidsN_at hj]; rfl
theorem natC_appH (a b : List Nat) : natC (a ++ b) = natC a ++ natC b := List.map_append
theorem own_nilH (w : World) (e : TypeId) (z B : Nat) : w.ownsRow B e z (.slice none 0 0) 0 [] := ⟨by simp, .inl ⟨rfl, rfl⟩⟩
set_option maxRecDepth 50000 in
theorem Id_any (x : Sx) (w : World) : Calls Tryz.prog 47 #[sxA x] w fun e w' => e = .returned (keyV (idX x)) ∧ Below w.heap.size w w' := by
  obtain ⟨k, c, n, s, p, f, t, o⟩ := x
  show Calls _ _ #[.agg #[.int .i64 k, .int .i64 c, .int .i64 n, .string (str s), .string (str p), .int .i64 f, .int .i64 t, .int .i64 o]] _ _
  have HV : Hid (keyV (idX ⟨k, c, n, s, p, f, t, o⟩) = .agg #[.string (str s), .string (str p)]) := Lib.hid rfl
  obtain ⟨S, hS⟩ : ∃ S, str s = S := ⟨_, rfl⟩
  obtain ⟨T, hT⟩ : ∃ S, str p = S := ⟨_, rfl⟩
  rw [hS, hT] at HV ⊢
  obtain ⟨RV, hRV⟩ : ∃ v, keyV (idX ⟨k, c, n, s, p, f, t, o⟩) = v := ⟨_, rfl⟩
  rw [hRV] at HV ⊢
  clear hS hT hRV
  go_enter Tryz.func47, Tryz.ntmps47
  go_wp2
  have hbx := World.alloc_heap_new (w.alloc (.cells #[.int .i64 k, .int .i64 c, .int .i64 n, .string S, .string T, .int .i64 f, .int .i64 t, .int .i64 o] 38)) (.cells #[.string S, .string T] 40)
  rw [World.size_alloc] at hbx
  refine bodyPost_ret (results_boxP rfl _ _ (w.heap.size + 1) _ _ _ rfl hbx) rfl ?_
  exact ⟨congrArg Ending.returned HV.out.symm, (below_b1 w _).alloc (by rw [World.size_alloc]; omega) _⟩
theorem has_at {l : List Pid} {q x : Pid} {k : Nat} (hx : l[k]? = some x) (he : x = q) : q ∈ l := by subst he; exact List.mem_of_getElem? hx
theorem has_no {l : List Pid} {q : Pid} (hn : ∀ j < l.length, ∀ y, l[j]? = some y → y ≠ q) : q ∉ l := by
  intro h
  obtain ⟨j, hj, e⟩ := List.getElem_of_mem h
  exact hn j hj _ (List.getElem?_eq_getElem hj) e
set_option maxRecDepth 50000 in
set_option maxHeartbeats 3200000 in
theorem rHas_any (v : Value) (l : List Pid) (q1 q2 : List UInt8) (w : World) (h : PsAt w v l) (hl : l.length ≤ 100000) :
    Calls Tryz.prog 46 #[v, .agg #[.string (str q1), .string (str q2)]] w fun e w' => e = .returned (.bool (decide (((q1, q2) : Pid) ∈ l))) ∧ Below w.heap.size w w' := by
  have hb0 := below_b1 w (.cells #[.string (str q1), .string (str q2)] 40)
  have hbx := World.alloc_heap_new w (.cells #[.string (str q1), .string (str q2)] 40)
  obtain ⟨W1, hW1⟩ : ∃ W1, w.alloc (.cells #[.string (str q1), .string (str q2)] 40) = W1 := ⟨_, rfl⟩
  have hsz : W1.heap.size = w.heap.size + 1 := by rw [← hW1, World.size_alloc]
  have HBx : Hid (∀ W, Below W1.heap.size W1 W → W.cell? ⟨w.heap.size, 0, none⟩ = some (.string (str q1)) ∧ W.cell? ⟨w.heap.size, 1, none⟩ = some (.string (str q2))) := Lib.hid fun W hW => by
    have h := (hW.block w.heap.size (by rw [hsz]; omega)).trans (hW1 ▸ hbx)
    exact ⟨by simp [World.cell?, h], by simp [World.cell?, h]⟩
  rw [hW1] at hb0
  have H1 := Lib.hid (fun W (hW : Below W1.heap.size W1 W) => h.below (below_step hb0 hW) (Nat.le_refl _))
  obtain ⟨va, vc, rfl, _⟩ := h.slice
  obtain ⟨n, hn⟩ : ∃ n, l.length = n := ⟨_, rfl⟩
  have HN := Lib.hid hn
  rw [hn] at hl H1 ⊢
  obtain ⟨Q1, hQ1⟩ : ∃ S, str q1 = S := ⟨_, rfl⟩
  obtain ⟨Q2, hQ2⟩ : ∃ S, str q2 = S := ⟨_, rfl⟩
  have HQ1 := Lib.hid hQ1
  have HQ2 := Lib.hid hQ2
  obtain ⟨R, hR⟩ : ∃ R, decide (((q1, q2) : Pid) ∈ l) = R := ⟨_, rfl⟩
  have HR := Lib.hid hR
  rw [hR]
  rw [hQ1, hQ2] at HBx hW1 ⊢
  clear h hn hbx hQ1 hQ2 hR
  go_enter Tryz.func46, Tryz.ntmps46
  go_wp2_with fail
  clear hW1
  -- MARK1
  go_loopw [5] (fun x5 wr => ∃ k : Nat, x5 = .int .i64 (k : Int) ∧ k ≤ n ∧ Hid (∀ j < k, ∀ y, l[j]? = some y → y ≠ (q1, q2)) ∧ Below W1.heap.size W1 wr) (fun x5 _ => n - (intOf x5).toNat)
  case atStart => exact ⟨0, rfl, Nat.zero_le _, Lib.hid (fun j hj => absurd hj (Nat.not_lt_zero _)), Below.refl _ _⟩
  case round =>
    obtain ⟨k, rfl, hk, HE, hb⟩ := hrel
    have hk0 : (0 : Int) ≤ (k : Int) := Int.natCast_nonneg _
    obtain ⟨b0, b1⟩ := HBx.out wr hb
    by_cases hlt1 : k < n
    · have hd1 : decide ((k : Int) < (n : Int)) = true := decide_eq_true (by omega)
      have hk1 : (k : Int) < (n : Int) := by omega
      obtain ⟨x, hx⟩ : ∃ x, l[k]? = some x := ⟨_, List.getElem?_eq_getElem (by rw [HN.out]; exact hlt1)⟩
      obtain ⟨g1, o1, rfl, hg1, c0, c1⟩ := (H1.out wr hb).node hx
      obtain ⟨x1, x2⟩ := x
      simp only at c0 c1
      have hq := pid_eq x1 x2 q1 q2
      obtain ⟨bq, hbq⟩ : ∃ bq, decide (((x1, x2) : Pid) = (q1, q2)) = bq := ⟨_, rfl⟩
      have HQ : Hid (((x1, x2) : Pid) = (q1, q2) ↔ bq = true) := Lib.hid (by rw [← hbq, decide_eq_true_iff])
      rw [hbq, HQ1.out, HQ2.out] at hq
      have HX := Lib.hid hx
      obtain ⟨X0, hX0⟩ : ∃ S, str x1 = S := ⟨_, rfl⟩
      obtain ⟨X1, hX1⟩ : ∃ S, str x2 = S := ⟨_, rfl⟩
      rw [hX0] at c0 hq
      rw [hX1] at c1 hq
      clear hx hbq hX0 hX1
      cases bq
      · have HE2 : Hid (∀ j < k + 1, ∀ y, l[j]? = some y → y ≠ (q1, q2)) := Lib.hid (fun j hj y hy => by
          rcases Nat.lt_succ_iff_lt_or_eq.1 hj with h | rfl
          · exact HE.out j h y hy
          · rw [HX.out] at hy
            obtain rfl := Option.some.inj hy
            exact fun e => by have := HQ.out.1 e; cases this)
        go_wp2_with fail
        go_quiet (fail)
        go_wp2_with fail
        exact ⟨⟨k + 1, by go_num, by omega, HE2, ⟨hb.os, hb.tape, hb.output, hb.size, hb.block⟩⟩, by simp [intOf]; omega⟩
      · have HD := Lib.hid (HR.out.symm.trans (decide_eq_true (has_at HX.out (HQ.out.2 rfl))))
        go_wp2_with fail
        go_quiet (fail)
        go_wp2_with fail
        go_ret
        exact ⟨ret_bool HD.out.symm, below_step hb0 ⟨hb.os, hb.tape, hb.output, hb.size, hb.block⟩⟩
    · obtain rfl : k = n := by omega
      have hd1 : decide ((k : Int) < (k : Int)) = false := decide_eq_false (by omega)
      have HD := Lib.hid (HR.out.symm.trans (decide_eq_false (has_no (by rw [HN.out]; exact HE.out))))
      go_wp2_with fail
      go_ret
      exact ⟨ret_bool HD.out.symm, below_step hb0 hb⟩
def PidI (l : List Pid) (q : Pid) (e : Ending) : Prop := (∃ k : Nat, e = .returned (.int .i64 (k : Int)) ∧ q ∈ l) ∨ (e = .returned (.int .i64 (-1)) ∧ q ∉ l)
set_option maxRecDepth 50000 in
set_option maxHeartbeats 1600000 in
theorem rEnd12_any (v : Value) (i : Nat) (l : List Sx) (w : World) (h : XsAt w v l) (hv : (chkX l).2 = 0) (hi : i < l.length) :
    Calls Tryz.prog 40 #[v, .int .i64 (i : Int)] w fun e w' => e = .returned (.int .i64 (endN (kidsX l) i : Int)) ∧ w' = w := by
  obtain ⟨a, n, c, rfl, hn, hcap, _⟩ := id h
  have hl2 := (chkX_tree hv).2.2
  obtain ⟨r, hr⟩ := (show Tr (kidsX l) from (chkX_tree hv).1).each (p := i) (by rw [kidsX_len]; omega)
  have he := endN_of (by rw [kidsX_len]; omega) hr
  obtain ⟨E, hE⟩ : ∃ E, endN (kidsX l) i = E := ⟨_, rfl⟩
  rw [hE] at he ⊢
  obtain ⟨he1, he2, he3⟩ := he
  rw [kidsX_len, ← hn] at he2
  have HR := Lib.hid hr
  have HRE : Hid (∀ e : Nat, e ≤ n → (kidsX l).drop e = r → e = E) := Lib.hid fun e h1 h2 => by
    have h3 := congrArg List.length h2
    have h4 := congrArg List.length he3
    rw [List.length_drop, kidsX_len] at h3 h4; omega
  have HX := Lib.hid h
  have HN := Lib.hid hn
  have HK := Lib.hid (chkX_kids hv)
  have hnb : n ≤ 2000 := by omega
  have hin : i < n := by omega
  clear h hv hn he3 hr hE hi
  go_enter Tryz.func40, Tryz.ntmps40
  go_wp2_with fail
  -- MARK1
  go_loop [1, 5] (fun x1 x5 => ∃ e m : Nat, x1 = .int .i64 (e : Int) ∧ x5 = .int .i64 (m : Int) ∧ e ≤ n ∧ m ≤ 2000 ∧ Hid (eat ((kidsX l).drop e) m = some r)) (fun x1 _ => n - (intOf x1).toNat)
  case atStart => exact ⟨i, 1, rfl, rfl, by omega, by omega, HR⟩
  case round =>
    obtain ⟨e, m, rfl, rfl, hen, hm, HE⟩ := hrel
    have he0 : (0 : Int) ≤ (e : Int) := Int.natCast_nonneg _
    cases m with
    | zero =>
      have hr2 : (kidsX l).drop e = r := by have := HE.out; rw [eat_zero] at this; exact Option.some.inj this
      obtain rfl := HRE.out e hen hr2
      clear hr2
      go_wp2_with fail
      -- MARK2
      go_ret
      exact ⟨rfl, rfl⟩
    | succ m =>
      have hlt : e < n := by
        have := eat_lenH HE.out
        rw [List.length_drop, kidsX_len, ← HN.out] at this; omega
      obtain ⟨x, hx⟩ : ∃ x, l[e]? = some x := ⟨_, List.getElem?_eq_getElem (by rw [← HN.out]; exact hlt)⟩
      obtain ⟨g, off, rfl, _, _, c1, _⟩ := HX.out.node hx
      have hx0 := HK.out x (List.mem_of_getElem? hx)
      obtain ⟨q, hq⟩ : ∃ q : Nat, x.c = (q : Int) := ⟨x.c.toNat, by omega⟩
      have hE2 := eat_atH hx HE.out
      rw [hq, Int.toNat_natCast] at hE2
      have hlen := eat_lenH hE2
      rw [List.length_drop, kidsX_len, ← HN.out] at hlen
      rw [hq] at c1
      have HE2 := Lib.hid hE2
      have hlt' : (e : Int) < (n : Int) := by omega
      have hd1 : decide ((e : Int) < (n : Int)) = true := decide_eq_true hlt'
      have hd0 : decide ((0 : Int) < ((m + 1 : Nat) : Int)) = true := decide_eq_true (by omega)
      clear hE2 hq hx hx0
      go_wp2_with fail
      -- MARK3
      go_round
      case rel => exact ⟨e + 1, m + q, by go_num, by go_num, by omega, by omega, by rw [Nat.add_comm m q]; exact HE2⟩
      case measure => simp [intOf]; omega
def lenHV : Value → Nat | .slice _ n _ => n | _ => 0
set_option maxRecDepth 50000 in
set_option maxHeartbeats 6400000 in
theorem rElements_any (v : Value) (l : List Sx) (p : Nat) (w : World) (h : XsAt w v l) (h1 : (chkX l).2 = 0) (hpn : p < l.length) :
    Calls Tryz.prog 31 #[v, .int .i64 (p : Int)] w fun e w' => ∃ a c, e = .returned (.slice a (cnt (kidsX l) p) c) ∧ Hid (w'.ownsRow w.heap.size 3 1 (.slice a (cnt (kidsX l) p) c) (cnt (kidsX l) p) (natC (kidsN (kidsX l) p))) ∧ Below w.heap.size w w' := by
  obtain ⟨va, vc, rfl, _⟩ := h.slice
  have hT : Tr (kidsX l) := (chkX_tree h1).1
  have hpk : p < (kidsX l).length := by rw [kidsX_len]; exact hpn
  obtain ⟨x, hx⟩ : ∃ x, l[p]? = some x := ⟨_, List.getElem?_eq_getElem hpn⟩
  obtain ⟨K, hK⟩ : ∃ K : Nat, x.c = (K : Int) := ⟨x.c.toNat, by have := chkX_kids h1 x (List.mem_of_getElem? hx); omega⟩
  have hcnt : cnt (kidsX l) p = K := by rw [cnt_of (kidsX_at hx), hK, Int.toNat_natCast]
  have hl2 := (chkX_tree h1).2.2
  have hend : endN (kidsX l) p ≤ l.length := ((chkX_pat h1).end_bd hpn).2
  have hK2 : K ≤ 2000 := by
    have := hT.pos_mono hpk (d := K) (k := 0) (by omega)
    have e := hT.pos_end hpk
    rw [hcnt] at e
    rw [Nat.zero_add, e] at this; omega
  obtain ⟨g, off, rfl⟩ : ∃ g off, va = some ⟨g, off, none⟩ := by obtain ⟨g, off, e, _⟩ := h.node hx; exact ⟨g, off, e⟩
  have HCell : Hid (∀ W, Below w.heap.size w W → W.cell? ⟨g, off + p * 8 + 1, none⟩ = some (.int .i64 (K : Int))) := Lib.hid fun W hW => by
    obtain ⟨g', off', e, _, _, c1, _⟩ := (h.below hW (Nat.le_refl _)).node hx
    cases e; rw [hK] at c1; exact c1
  have HSt : Hid (∀ j, j < K → ∃ q q' : Nat, posK (kidsX l) p j = q ∧ posK (kidsX l) p (j + 1) = q' ∧ q < q' ∧ q' ≤ 2000 ∧ ∀ W, Below w.heap.size w W → Calls Tryz.prog 40 #[.slice (some ⟨g, off, none⟩) l.length vc, .int .i64 (q : Int)] W fun e w' => e = .returned (.int .i64 (q' : Int)) ∧ w' = W) := Lib.hid fun j hj => by
    obtain ⟨s1, s2, s3⟩ := hT.pos_step hpk (k := j) (by omega)
    rw [kidsX_len] at s2
    have s4 := hT.end_bd (p := posK (kidsX l) p j) (by rw [kidsX_len]; exact s2)
    rw [s3, kidsX_len] at s4
    refine ⟨_, _, rfl, rfl, s4.1, by omega, fun W hW => ?_⟩
    have := rEnd12_any _ (posK (kidsX l) p j) l W (h.below hW (Nat.le_refl _)) h1 s2
    rw [s3] at this; exact this
  have HP0 : Hid (posK (kidsX l) p 0 = p + 1) := Lib.hid (posK_start hpk)
  have HKl : Hid (∀ j, j < K → (kidsN (kidsX l) p).take (j + 1) = (kidsN (kidsX l) p).take j ++ [posK (kidsX l) p j]) := Lib.hid fun j hj => kidsN_takeH (by omega)
  have HLn : Hid ((kidsN (kidsX l) p).length = K) := Lib.hid (by rw [kidsN_len, hcnt])
  obtain ⟨n, hn⟩ : ∃ n, l.length = n := ⟨_, rfl⟩
  rw [hn] at HSt hpn hl2 ⊢
  rw [hcnt]
  have b0 : (0 : Int) ≤ (p : Int) := Int.natCast_nonneg _
  have b1 : (p : Int) < (n : Int) := by omega
  obtain ⟨i0, hi0, hz0, hz1, hz2⟩ := info_parts2 infoInt
  clear h h1 hT hpk hx hK hcnt hn hend
  go_enter Tryz.func31, Tryz.ntmps31
  go_wp2_with fail
  -- MARK2
  go_loopw [5, 6, 7] (fun x5 x6 x7 wr => ∃ (j q : Nat) (b : Option Addr) (c : Nat), x5 = .slice b j c ∧ x6 = .int .i64 (q : Int) ∧ x7 = .int .i64 (j : Int) ∧ j ≤ K ∧ Hid (posK (kidsX l) p j = q) ∧ Hid (wr.ownsRow w.heap.size 3 1 (.slice b j c) j (natC ((kidsN (kidsX l) p).take j))) ∧ Below w.heap.size w wr) (fun _ _ x7 _ => K - (intOf x7).toNat)
  case atStart => exact ⟨0, p + 1, none, 0, rfl, by go_num, rfl, Nat.zero_le _, Lib.hid HP0.out, Lib.hid (by rw [List.take_zero]; exact own_nilH _ _ _ _), Below.refl _ _⟩
  case round =>
    obtain ⟨j, q, b, c, rfl, rfl, rfl, hj, HQ, HO, hb⟩ := hrel
    have hj0 : (0 : Int) ≤ (j : Int) := Int.natCast_nonneg _
    have c0 := HCell.out wr hb
    by_cases hlt : j < K
    · obtain ⟨q1, q', e1, e2, hqq, hq2, HSub⟩ := HSt.out j hlt
      have e3 : q = q1 := HQ.out.symm.trans e1
      subst e3
      have HSb := Lib.hid HSub
      have HQ2 := Lib.hid e2
      have HT1 : Hid (natC ((kidsN (kidsX l) p).take (j + 1)) = natC ((kidsN (kidsX l) p).take j) ++ [.int .i64 (q : Int)]) := Lib.hid (by rw [HKl.out j hlt, natC_appH, e1]; rfl)
      have hd : decide ((j : Int) < (K : Int)) = true := decide_eq_true (by omega)
      have hbs := hb.size
      clear HSub e1 e2
      go_wp2_with (at_builtin; refine wpList_append_own _ rfl _ _ 68 rfl w.heap.size 3 i0 (.int .i64 0) 1 8 Tryz.underlying68 hi0 hz0 hz1 hz2 rfl (by decide) _ _ _ rfl (HO.out.alloc _) ⟨wr.heap.size, 0, none⟩ 1 1 [.int .i64 (q : Int)] rfl rfl (new_cells1 _ _ _ _ rfl) (by simp [Value.oneCell']) (by unfold maxLen; omega) (by omega) (by rw [World.size_alloc]; omega) ?_; intro v4 w4 hown4 hgrow4 _; obtain ⟨b4, cb4, rfl⟩ := own_lenR hown4; have hb4 : Below w.heap.size w w4 := (hb.alloc hb.size _).grown hgrow4 (by rw [World.size_alloc]; omega) (fun k hk => (HO.out.lt k hk).1); have HO4 := Lib.hid hown4; clear hown4 hgrow4)
      -- MARK3
      refine (HSb.out w4 hb4).mono ?_
      rintro e w5 ⟨rfl, rfl⟩
      go_wp2_with fail
      go_roundw
      case rel => exact ⟨j + 1, q', b4, cb4, rfl, by go_num, by go_num, by omega, HQ2, Lib.hid (by rw [HT1.out]; exact HO4.out), hb4⟩
      case measure => simp [intOf]; omega
    · obtain rfl : j = K := by omega
      have hd : decide ((j : Int) < (j : Int)) = false := decide_eq_false (Int.lt_irrefl _)
      have HF : Hid ((kidsN (kidsX l) p).take j = kidsN (kidsX l) p) := Lib.hid (List.take_of_length_le (Nat.le_of_eq HLn.out))
      go_wp2_with fail
      -- MARK4
      go_ret
      exact ⟨b, c, rfl, Lib.hid (by have := HO.out; rw [HF.out] at this; exact this), hb⟩
-- MARK9
end Go.Proofs.YtdiinlmeoifgjaaGreatDoor
