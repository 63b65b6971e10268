import Derived.Test.YtdiinlmeoifgjaaGreatDoorYk
import Derived.Deep.RegionWith
/- walk, with any visit. -/
namespace Go.Proofs.YtdiinlmeoifgjaaGreatDoor
open Go.RowKit Go.PlainAid

set_option maxRecDepth 50000 in
set_option maxHeartbeats 3200000 in
theorem walkX_any (F B : Nat) (v : Value) (l : List Sx) (w0 w : World) (J : Nat → World → Prop) (R : Nat → Int → World → Prop) (hv : XsAt w0 v l) (hl : l.length ≤ 1000000) (eg : Hid (∀ args w, (callFunc F args).run Tryz.prog w = .ok (.enter F args) w))
    (HJ : Hid (∀ k W, J k W → Below w0.heap.size w0 W)) (HA : Hid (∀ k W o, J k W → J k (W.alloc o)))
    (HV : Hid (∀ (k : Nat) (x : Sx) W, l[k]? = some x → J k W → Calls Tryz.prog F #[.pointer (some ⟨B, 0, none⟩), .int .i64 (k : Int), sxA x] W fun e w' => ∃ er, e = .returned (.int .i64 er) ∧ (er = 0 → J (k + 1) w') ∧ (er ≠ 0 → R k er w')))
    (h0 : Hid (J 0 w)) :
    Calls Tryz.prog 49 #[v, .func (.func F) #[.pointer (some ⟨B, 0, none⟩)] #[]] w fun e w' => (e = .returned (.tuple #[.int .i64 0, .int .i64 0]) ∧ J l.length w') ∨ ∃ (k : Nat) (er : Int), er ≠ 0 ∧ e = .returned (.tuple #[.int .i64 (k : Int), .int .i64 er]) ∧ R k er w' := by
  obtain ⟨a, c, rfl, hc⟩ := hv.slice
  obtain ⟨n, hn⟩ : ∃ n, l.length = n := ⟨_, rfl⟩
  have HX := Lib.hid hv
  have HN := Lib.hid hn
  rw [hn] at hc hl HX ⊢
  clear hv hn
  go_enter Tryz.func49, Tryz.ntmps49
  go_wp2_with fail
  -- MARK1
  go_loopw [11] (fun x11 wr => ∃ k : Nat, x11 = .int .i64 (k : Int) ∧ k ≤ n ∧ Hid (J k wr)) (fun x11 _ => n - (intOf x11).toNat)
  case atStart => exact ⟨0, rfl, Nat.zero_le _, h0⟩
  case round =>
    obtain ⟨k, rfl, hk, HK⟩ := hrel
    have hk0 : (0 : Int) ≤ (k : Int) := Int.natCast_nonneg _
    by_cases hlt : k < n
    · obtain ⟨x, hx⟩ : ∃ x, l[k]? = some x := ⟨_, List.getElem?_eq_getElem (by rw [HN.out]; exact hlt)⟩
      obtain ⟨g, off, rfl, hg, c0, c1, c2, c3, c4, c5, c6, c7⟩ := (HX.out.below (HJ.out k wr HK.out) (Nat.le_refl _)).node hx
      have HC := Lib.hid (HV.out k x (wr.alloc (.cells (sxC x).toArray 38)) hx (HA.out k wr _ HK.out))
      obtain ⟨y0, y1, y2, y3, y4, y5, y6, y7⟩ := x
      have hd := World.alloc_heap_new wr (.cells #[.int .i64 y0, .int .i64 y1, .int .i64 y2, .string (str y3), .string (str y4), .int .i64 y5, .int .i64 y6, .int .i64 y7] 38)
      obtain ⟨d0, d1, d2, d3, d4, d5, d6, d7⟩ := box8_facts hd
      have hk1 : (k : Int) < (n : Int) := by omega
      unfold sxA sxC at HC
      simp only at HC c0 c1 c2 c3 c4 c5 c6 c7
      obtain ⟨S, hS⟩ : ∃ S, str y3 = S := ⟨_, rfl⟩
      obtain ⟨P, hP⟩ : ∃ P, str y4 = P := ⟨_, rfl⟩
      rw [hS] at HC c3 d3 d0 d1 d2 d4 d5 d6 d7
      rw [hP] at HC c4 d4 d0 d1 d2 d3 d5 d6 d7
      clear hx hd hS hP
      go_wp2_with fail
      -- MARK2
      rw [eg.out]
      go_wp2_with fail
      -- MARK2a
      refine HC.out.mono ?_
      rintro e w2 ⟨er, rfl, hj, hr⟩
      by_cases he : er = 0
      · have HJ2 := Lib.hid (hj he)
        subst he
        clear hj hr
        go_wp2_with fail
        -- MARK3
        go_roundw
        case rel => exact ⟨k + 1, by go_num, by omega, HJ2⟩
        case measure => simp [intOf]; omega
      · have HR2 := Lib.hid (hr he)
        have hne : (er != 0) = true := bne_iff_ne.2 he
        have HE := Lib.hid he
        clear hj hr he
        go_wp2_with fail
        -- MARK4
        go_ret2
        exact .inr ⟨k, er, HE.out, rfl, HR2.out⟩
    · obtain rfl : k = n := by omega
      go_wp2_with fail
      -- MARK5
      go_ret2
      exact .inl ⟨rfl, HK.out⟩
-- MARK9
end Go.Proofs.YtdiinlmeoifgjaaGreatDoor

/- The checker's visit. -/
namespace Go.Proofs.YtdiinlmeoifgjaaGreatDoor
open Go.RowKit Go.PlainAid

theorem LsBox.below {ty : TypeId} {B base : Nat} {rest : List Value} {a : List Nat} {W W' : World} (h : LsBox ty B base rest a W) (hb : Below W.heap.size W W') : LsBox ty B base rest a W' := by
  obtain ⟨v, h1, h2⟩ := h
  exact ⟨v, (hb.block B (Array.getElem?_eq_some_iff.1 h1).1).trans h1, own_below h2 hb⟩
def visE (k : Nat) (a : List Nat) (x : Sx) : Int := if (0 < k ∧ a = []) ∨ kindX x = false then 6 else if 200 < a.length then 3 else fldX x
/-- The state at a call of count: the box of the lists, the box of the node. -/
structure VsSt (B base N : Nat) (a : List Nat) (x : Sx) (w0 W : World) : Prop where
  ls : LsBox 92 B base [] a W
  nd : W.heap[N]? = some (.cells (sxC x).toArray 38 (0, 0))
  be : Below w0.heap.size w0 W
  sz : base ≤ W.heap.size
theorem VsSt.below {B base N : Nat} {a : List Nat} {x : Sx} {w0 W W' : World} (h : VsSt B base N a x w0 W) (hb : Below W.heap.size W W') : VsSt B base N a x w0 W' :=
  ⟨h.ls.below hb, (hb.block N (Array.getElem?_eq_some_iff.1 h.nd).1).trans h.nd, h.be.trans (hb.mono h.be.size), Nat.le_trans h.sz hb.size⟩
theorem VsSt.drew {B base N : Nat} {a : List Nat} {x : Sx} {w0 W : World} (h : VsSt B base N a x w0 W) : VsSt B base N a x w0 W.drew := h.below (Below.refl _ _).drew
theorem VsSt.drewN {B base N : Nat} {a : List Nat} {x : Sx} {w0 W : World} (h : VsSt B base N a x w0 W) (k : Nat) : VsSt B base N a x w0 (W.drewN k) := h.below ⟨rfl, rfl, rfl, Nat.le_refl _, fun _ _ => rfl⟩
theorem VsSt.count {B base N : Nat} {a : List Nat} {x : Sx} {w0 W : World} (h : VsSt B base N a x w0 W) (hB : w0.heap.size ≤ B) (hbs : w0.heap.size ≤ base) (hNB : N ≠ B) (hk : 0 ≤ x.c) (hc : x.c ≤ 9223372036854775807) (hs : StB a) (hl : a.length ≤ 5000) (ht : topN a) :
    Calls Tryz.prog 56 #[.pointer (some ⟨B, 0, none⟩), .int .i64 x.c] W fun e w' => e = .returned (.int .i64 (cntAV x.c.toNat a)) ∧ VsSt B base N (cntA x.c.toNat a) x w0 w' := by
  obtain ⟨k, hkk⟩ : ∃ k : Nat, x.c = (k : Int) := ⟨x.c.toNat, by omega⟩
  have := count_any 92 (by decide) B base k [] a W h.ls h.sz (by omega) hs hl ht
  rw [hkk, Int.toNat_natCast]
  refine this.mono ?_
  rintro e w' ⟨rfl, h1, h2, h3⟩
  have hb := h3 w0.heap.size hB hbs
  refine ⟨rfl, h1.out, h2 _ _ h.nd (fun e => hNB (Option.some.inj e)) (fun c fz e => ?_), h.be.trans hb, ?_⟩
  · injection e with _ e2 _
    exact absurd e2 (by decide)
  · exact Nat.le_trans h.sz hb.size
set_option maxRecDepth 50000 in
set_option maxHeartbeats 6400000 in
theorem visit_any (B base k : Nat) (x : Sx) (a : List Nat) (w0 W : World) (h : LsBox 92 B base [] a W) (hb : Below w0.heap.size w0 W) (hsz : base ≤ W.heap.size) (hB : w0.heap.size ≤ B) (hbs : w0.heap.size ≤ base) (T : STabs w0)
    (hp : x.p.length ≤ 100000) (hc : x.c ≤ 9223372036854775807) (hs : StB a) (hl : a.length ≤ 5000) (ht : topN a) :
    Calls Tryz.prog 50 #[.pointer (some ⟨B, 0, none⟩), .int .i64 (k : Int), sxA x] W fun e w' => e = .returned (.int .i64 (visE k a x)) ∧ Below w0.heap.size w0 w' ∧ base ≤ w'.heap.size ∧ (visE k a x = 0 → LsBox 92 B base [] (cntA x.c.toNat a) w') := by
  obtain ⟨W1, hW1⟩ : ∃ W1, W1 = W.alloc (.cells (sxC x).toArray 38) := ⟨_, rfl⟩
  have hst : VsSt B base W.heap.size a x w0 W1 := by
    rw [hW1]
    exact ⟨h.below (below_b1 _ _), World.alloc_heap_new _ _, hb.alloc hb.size _, by rw [World.size_alloc]; omega⟩
  have hNB : W.heap.size ≠ B := by
    obtain ⟨v, h1, _⟩ := h
    have := (Array.getElem?_eq_some_iff.1 h1).1; omega
  obtain ⟨m, hm⟩ : ∃ m, a.length = m := ⟨_, rfl⟩
  have HCell : Hid (∀ W', VsSt B base W.heap.size a x w0 W' → (∃ va vc, W'.cell? ⟨B, 0, none⟩ = some (.slice va m vc)) ∧ W'.cell? ⟨W.heap.size, 0, none⟩ = some (.int .i64 x.k) ∧ W'.cell? ⟨W.heap.size, 1, none⟩ = some (.int .i64 x.c) ∧ W'.cell? ⟨W.heap.size, 2, none⟩ = some (.int .i64 x.n) ∧ W'.cell? ⟨W.heap.size, 3, none⟩ = some (.string (str x.s)) ∧ W'.cell? ⟨W.heap.size, 4, none⟩ = some (.string (str x.p)) ∧ W'.cell? ⟨W.heap.size, 5, none⟩ = some (.int .i64 x.f) ∧ W'.cell? ⟨W.heap.size, 6, none⟩ = some (.int .i64 x.t) ∧ W'.cell? ⟨W.heap.size, 7, none⟩ = some (.int .i64 x.o)) := Lib.hid fun W' h' => by
    refine ⟨?_, box8_facts h'.nd⟩
    obtain ⟨v, h1, h2⟩ := h'.ls
    obtain ⟨va, vc, rfl⟩ := own_lenR h2
    rw [hm] at h1
    exact ⟨va, vc, (head_facts h1).1⟩
  have HCell2 : Hid (∀ W', VsSt B base W.heap.size (cntA x.c.toNat a) x w0 W' → W'.cell? ⟨W.heap.size, 0, none⟩ = some (.int .i64 x.k) ∧ W'.cell? ⟨W.heap.size, 1, none⟩ = some (.int .i64 x.c) ∧ W'.cell? ⟨W.heap.size, 2, none⟩ = some (.int .i64 x.n) ∧ W'.cell? ⟨W.heap.size, 3, none⟩ = some (.string (str x.s)) ∧ W'.cell? ⟨W.heap.size, 4, none⟩ = some (.string (str x.p)) ∧ W'.cell? ⟨W.heap.size, 5, none⟩ = some (.int .i64 x.f) ∧ W'.cell? ⟨W.heap.size, 6, none⟩ = some (.int .i64 x.t) ∧ W'.cell? ⟨W.heap.size, 7, none⟩ = some (.int .i64 x.o)) := Lib.hid fun W' h' => box8_facts h'.nd
  have CK := Lib.hid (fun W' => kind_any x W')
  have CF := Lib.hid (fun W' (hW : Below w0.heap.size w0 W') => flds_any x W' (T.below hW) hp)
  have CC := Lib.hid (fun (hx : 0 ≤ x.c) W' (hW : VsSt B base W.heap.size a x w0 W') => hW.count hB hbs hNB hx hc hs hl ht)
  have HKc : Hid (kindX x = true → 0 ≤ x.c) := Lib.hid kindX_c
  obtain ⟨bk, hbk⟩ : ∃ b, kindX x = b := ⟨_, rfl⟩
  obtain ⟨ef, hef⟩ : ∃ b, fldX x = b := ⟨_, rfl⟩
  have hen : (a = []) ↔ m = 0 := by rw [← hm]; exact List.length_eq_zero_iff.symm
  have HV : Hid (∀ r, (if (0 < k ∧ m = 0) ∨ bk = false then 6 else if 200 < m then 3 else ef) = r → visE k a x = r) := Lib.hid (by
    rintro r rfl; unfold visE; rw [hbk, hef, hm]; simp only [hen])
  have HS := Lib.hid hst
  have hml : m ≤ 5000 := by omega
  obtain ⟨x0, x1, x2, x3, x4, x5, x6, x7⟩ := x
  unfold sxA sxC at CK CF
  unfold sxC at hW1
  rw [hbk] at CK HKc
  rw [hef] at CF
  show Calls _ _ #[_, _, .agg #[.int .i64 x0, .int .i64 x1, .int .i64 x2, .string (str x3), .string (str x4), .int .i64 x5, .int .i64 x6, .int .i64 x7]] _ _
  simp only at CK CF CC HCell HCell2 HKc hW1 hp hc
  obtain ⟨S, hS⟩ : ∃ S, str x3 = S := ⟨_, rfl⟩
  obtain ⟨P, hP⟩ : ∃ P, str x4 = P := ⟨_, rfl⟩
  rw [hS] at CK CF HCell HCell2 hW1 ⊢
  rw [hP] at CK CF HCell HCell2 hW1 ⊢
  have hSz : W.heap.size ≤ W1.heap.size := by rw [hW1]; simp
  clear h hb hst hm hen hs hl ht T hbk hef hS hP hp hc
  obtain ⟨⟨va, vc, c0⟩, d0, d1, d2, d3, d4, d5, d6, d7⟩ := HCell.out W1 HS.out
  subst hW1
  by_cases hend : 0 < k ∧ m = 0
  · have HW := Lib.hid (HV.out 6 (if_pos (.inl hend)))
    obtain ⟨hk0, rfl⟩ := hend
    have hd0 : decide ((0 : Int) < (k : Int)) = true := decide_eq_true (by omega)
    go_enter Tryz.func50, Tryz.ntmps50
    go_wp2_with fail
    -- MARK1
    go_ret
    exact ⟨by rw [HW.out]; rfl, HS.out.be, HS.out.sz, fun h => by rw [HW.out] at h; cases h⟩
  have hor : (k = 0) ∨ (0 < k ∧ ((m : Int) == 0) = false) := by
    by_cases h : k = 0
    · exact .inl h
    · refine .inr ⟨by omega, beq_eq_false_iff_ne.2 (fun e => hend ⟨by omega, by omega⟩)⟩
  by_cases hbf : bk = false
  · have HW := Lib.hid (HV.out 6 (if_pos (.inr hbf)))
    subst hbf
    rcases hor with rfl | ⟨hk0, hm0⟩
    all_goals
      go_enter Tryz.func50, Tryz.ntmps50
      go_wp2_with fail
      -- MARK2
      refine (CK.out _).mono ?_
      rintro e w1 ⟨rfl, hb1⟩
      have HS1 := Lib.hid (HS.out.below hb1)
      go_wp2_with fail
      go_ret
      exact ⟨by rw [HW.out]; rfl, HS1.out.be, HS1.out.sz, fun h => by rw [HW.out] at h; cases h⟩
  obtain rfl : bk = true := by cases bk with | true => rfl | false => exact absurd rfl hbf
  by_cases h200 : 200 < m
  · have HW := Lib.hid (HV.out 3 (by rw [if_neg (by rintro (h | h); exact hend h; cases h), if_pos h200]))
    have hdm : decide ((200 : Int) < (m : Int)) = true := decide_eq_true (by omega)
    rcases hor with rfl | ⟨hk0, hm0⟩
    all_goals
      go_enter Tryz.func50, Tryz.ntmps50
      go_wp2_with fail
      -- MARK3
      refine (CK.out _).mono ?_
      rintro e w1 ⟨rfl, hb1⟩
      have HS1 := Lib.hid (HS.out.below hb1)
      go_wp2_with fail
      go_ret
      exact ⟨by rw [HW.out]; rfl, HS1.out.be, HS1.out.sz, fun h => by rw [HW.out] at h; cases h⟩
  have HW := Lib.hid (HV.out ef (by rw [if_neg (by rintro (h | h); exact hend h; cases h), if_neg h200]))
  have hdm : decide ((200 : Int) < (m : Int)) = false := decide_eq_false (by omega)
  have hx1 := HKc.out rfl
  have CC1 := Lib.hid (CC.out hx1)
  clear CC HV
  rcases hor with rfl | ⟨hk0, hm0⟩
  all_goals
    go_enter Tryz.func50, Tryz.ntmps50
    go_wp2_with fail
    refine (CK.out _).mono ?_
    rintro e w1 ⟨rfl, hb1⟩
    have HS1 := Lib.hid (HS.out.below hb1)
    obtain ⟨⟨va1, vc1, c1⟩, e0, e1, e2, e3, e4, e5, e6, e7⟩ := HCell.out _ HS1.out
    go_wp2_with fail
    -- MARK4
    go_region_with (refine (CC1.out _ HS1.out.drew).mono ?_; rintro e w2 ⟨rfl, hst2⟩; obtain ⟨f0, f1, f2, f3, f4, f5, f6, f7⟩ := HCell2.out _ hst2)
    -- MARK5
    all_goals
      have HS2 := Lib.hid hst2
      clear hst2
      go_wp2_with fail
      -- MARK6
      refine (CF.out _ HS2.out.be).mono ?_
      rintro e w3 ⟨rfl, hb3⟩
      have HS3 := Lib.hid (HS2.out.below hb3)
      go_wp2_with fail
      go_ret
      exact ⟨by rw [HW.out]; rfl, HS3.out.be, HS3.out.sz, fun _ => HS3.out.ls⟩
-- MARK9
end Go.Proofs.YtdiinlmeoifgjaaGreatDoor
