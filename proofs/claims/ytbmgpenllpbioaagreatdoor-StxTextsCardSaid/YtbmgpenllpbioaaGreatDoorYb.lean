/- Add and Flip: the visit of a change, changed. (Written by tools/gen_yb.py.) -/
import Derived.Test.YtbmgpenllpbioaaGreatDoorYq
import Derived.Test.YtbmgpenllpbioaaGreatDoorZu
import Derived.Deep.RegionLaw
import Derived.Deep.DeepCutAuto
import Derived.Deep.RegionHeld3
namespace Go.Proofs.YtbmgpenllpbioaaGreatDoor
open Go.RowKit Go.PlainAid

/-- A node with other scopes. -/
def setP (g : List UInt8 → List UInt8 × Int) (x : Sx) : Sx := { x with p := (g x.p).1 }
def firstE (g : List UInt8 → List UInt8 × Int) : List Sx → Int
  | [] => 0
  | x :: t => if (g x.p).2 ≠ 0 then (g x.p).2 else firstE g t
/-- What Add and Flip return. -/
def chgS (g : List UInt8 → List UInt8 × Int) (l : List Sx) : List Sx × Int := if (chkX l).2 ≠ 0 then ([], (chkX l).2) else if firstE g l ≠ 0 then ([], firstE g l) else (l.map (setP g), 0)
theorem firstE_none {g : List UInt8 → List UInt8 × Int} : ∀ {l : List Sx}, (∀ x ∈ l, (g x.p).2 = 0) → firstE g l = 0
  | [], _ => rfl
  | x :: t, h => by rw [firstE, if_neg (by rw [h x (by simp)]; simp)]; exact firstE_none fun y hy => h y (by simp [hy])
theorem firstE_at {g : List UInt8 → List UInt8 × Int} : ∀ {l : List Sx} {k : Nat} {x : Sx}, (∀ j y, j < k → l[j]? = some y → (g y.p).2 = 0) → l[k]? = some x → (g x.p).2 ≠ 0 → firstE g l = (g x.p).2
  | [], k, x, _, h, _ => by simp at h
  | y :: t, 0, x, _, h, hx => by simp at h; subst h; rw [firstE, if_pos hx]
  | y :: t, k + 1, x, h0, h, hx => by
    rw [firstE, if_neg (by rw [h0 0 y (by omega) rfl]; simp)]
    exact firstE_at (fun j z hj hz => h0 (j + 1) z (Nat.succ_lt_succ hj) (by simpa using hz)) (by simpa using h) hx
theorem new_cellsX (w : World) (l : List Value) (t : TypeId) (n : Nat) (hn : w.heap.size = n) : ∀ j u, l[j]? = some u → (w.alloc (.cells l.toArray t)).cell? ((⟨n, 0, none⟩ : Addr).add j) = some u := by
  subst hn; exact new_cells w l t
theorem one_8 (x0 x1 x2 x5 x6 x7 : Int) (S Q : ByteArray) : ∀ u ∈ [Value.int .i64 x0, .int .i64 x1, .int .i64 x2, .string S, .string Q, .int .i64 x5, .int .i64 x6, .int .i64 x7], u.oneCell' = true := by
  intro u hu; simp at hu; rcases hu with rfl | rfl | rfl | rfl | rfl | rfl | rfl | rfl <;> rfl
theorem zeroSxI : (Tryz.prog.info? 28).map (fun i => (i.zero, i.size, i.bytes)) = some (some (.agg #[.int .i64 0, .int .i64 0, .int .i64 0, .string ⟨#[]⟩, .string ⟨#[]⟩, .int .i64 0, .int .i64 0, .int .i64 0]), 8, 80) := by kernel_rfl
/-- The box of a change, the nodes so far. -/
structure ChSt (F : Nat) (sc : Int) (B base : Nat) (ys : List Sx) (w0 W : World) : Prop where
  bx : ∃ v, W.heap[B]? = some (.cells #[.int .i64 sc, .func (.func F) #[] #[], v] 87 (0, 0)) ∧ W.ownsRow base 28 8 v ys.length (xcs ys)
  be : Below w0.heap.size w0 W
  sz : base ≤ W.heap.size
theorem ChSt.below {F : Nat} {sc : Int} {B base : Nat} {ys : List Sx} {w0 W W' : World} (h : ChSt F sc B base ys w0 W) (hb : Below W.heap.size W W') : ChSt F sc B base ys w0 W' := by
  obtain ⟨v, h1, h2⟩ := h.bx
  exact ⟨⟨v, (hb.block B (Array.getElem?_eq_some_iff.1 h1).1).trans h1, own_below h2 hb⟩, h.be.trans (hb.mono h.be.size), Nat.le_trans h.sz hb.size⟩
/-- The state in a visit: the box, the row of nodes, the node's box. -/
structure ChW (F : Nat) (sc : Int) (B base N : Nat) (v : Value) (ys : List Sx) (nc : Array Value) (w0 W : World) : Prop where
  bx : W.heap[B]? = some (.cells #[.int .i64 sc, .func (.func F) #[] #[], v] 87 (0, 0))
  ow : W.ownsRow base 28 8 v ys.length (xcs ys)
  nd : W.heap[N]? = some (.cells nc 28 (0, 0))
  lt : ∀ g, v.ownBlock = some g → g < N
  bn : B < N
  bs : base ≤ N
  w0B : w0.heap.size ≤ B
  w0b : w0.heap.size ≤ base
  be : Below w0.heap.size w0 W
theorem ChW.below {F : Nat} {sc : Int} {B base N : Nat} {v : Value} {ys : List Sx} {nc : Array Value} {w0 W W' : World} (h : ChW F sc B base N v ys nc w0 W) (hb : Below W.heap.size W W') : ChW F sc B base N v ys nc w0 W' :=
  ⟨(hb.block B (Array.getElem?_eq_some_iff.1 h.bx).1).trans h.bx, own_below h.ow hb, (hb.block N (Array.getElem?_eq_some_iff.1 h.nd).1).trans h.nd, h.lt, h.bn, h.bs, h.w0B, h.w0b, h.be.trans (hb.mono h.be.size)⟩
theorem ChW.set {F : Nat} {sc : Int} {B base N : Nat} {v : Value} {ys : List Sx} {x0 x1 x2 x3 x4 x5 x6 x7 : Value} {w0 W : World} (y : Value) (h : ChW F sc B base N v ys #[x0, x1, x2, x3, x4, x5, x6, x7] w0 W) : ChW F sc B base N v ys #[x0, x1, x2, x3, y, x5, x6, x7] w0 (W.setCell ⟨N, 4, none⟩ y) := by
  have h1 := h.bn
  have h2 := h.w0B
  exact ⟨(Below.heap_setCell _ _ _ _ (by show B ≠ N; omega)).trans h.bx, own_setO h.ow (fun g hg => by have := h.lt g hg; omega), by simp [World.setCell, Array.getElem?_modify, h.nd], h.lt, h.bn, h.bs, h.w0B, h.w0b, h.be.setCell (by show w0.heap.size ≤ N; omega) _⟩
theorem ChW.boxed {F : Nat} {sc : Int} {B base N : Nat} {v : Value} {ys : List Sx} {nc : Array Value} {w0 W W1 w3 : World} (h : ChW F sc B base N v ys nc w0 W) (hW : Below W.heap.size W W1) (hg : W1.grownBy w3 v.ownBlock) :
    w3.heap[B]? = some (.cells #[.int .i64 sc, .func (.func F) #[] #[], v] 87 (0, 0)) := by
  have hB : B < W.heap.size := (Array.getElem?_eq_some_iff.1 h.bx).1
  exact (hg.block B (by have := hW.size; omega) (fun e => own_ne h.bx h.ow (by decide) B e.symm rfl)).trans ((hW.block B hB).trans h.bx)
theorem ChW.push {F : Nat} {sc : Int} {B base N : Nat} {v v' : Value} {ys zs : List Sx} {nc : Array Value} {w0 W W1 w3 : World} (h : ChW F sc B base N v ys nc w0 W) (hW : Below W.heap.size W W1) (hg : W1.grownBy w3 v.ownBlock)
    (hown : w3.ownsRow base 28 8 v' zs.length (xcs zs)) : ChSt F sc B base zs w0 (w3.setCell ⟨B, 2, none⟩ v') := by
  have hb3 := h.boxed hW hg
  have hlt : N < W.heap.size := (Array.getElem?_eq_some_iff.1 h.nd).1
  have hbe : Below w0.heap.size w0 W1 := h.be.trans (hW.mono h.be.size)
  refine ⟨⟨v', by simp [World.setCell, Array.getElem?_modify, hb3], own_setO hown (own_ne hb3 hown (by decide))⟩, ?_, ?_⟩
  · exact (hbe.grown hg hbe.size (fun g hgg => by have := (h.ow.lt g hgg).1; have := h.w0b; omega)).setCell (by show w0.heap.size ≤ B; exact h.w0B) _
  · have := hg.size; have := hW.size; rw [World.size_setCell]; have := h.bs; omega
theorem set_third {W : World} {B : Nat} {x y z : Value} {ty : TypeId} (z' : Value) (h : W.heap[B]? = some (.cells #[x, y, z] ty (0, 0))) : (W.setCell ⟨B, 2, none⟩ z').heap[B]? = some (.cells #[x, y, z'] ty (0, 0)) := by
  simp [World.setCell, Array.getElem?_modify, h]
theorem box3_fr {W : World} {n : Nat} {x y z : Value} {t : TypeId} (h : W.heap[n]? = some (.cells #[x, y, z] t (0, 0))) :
    W.cell? ⟨n, 0, none⟩ = some x ∧ W.cell? ⟨n, 1, none⟩ = some y ∧ W.cell? ⟨n, 2, none⟩ = some z ∧ W.frozen? ⟨n, 2, none⟩ = false := by
  refine ⟨?_, ?_, ?_, ?_⟩ <;> simp [World.cell?, World.frozen?, h]
theorem set_4of8 {W : World} {n : Nat} {x0 x1 x2 x3 x4 x5 x6 x7 : Value} {t : TypeId} {fr : Nat × Nat} (y : Value) (h : W.heap[n]? = some (.cells #[x0, x1, x2, x3, x4, x5, x6, x7] t fr)) :
    (W.setCell ⟨n, 4, none⟩ y).heap[n]? = some (.cells #[x0, x1, x2, x3, y, x5, x6, x7] t fr) := by
  simp [World.setCell, Array.getElem?_modify, h]
theorem frz8 {W : World} {n : Nat} {x0 x1 x2 x3 x4 x5 x6 x7 : Value} {t : TypeId} (h : W.heap[n]? = some (.cells #[x0, x1, x2, x3, x4, x5, x6, x7] t (0, 0))) : W.frozen? ⟨n, 4, none⟩ = false := by
  simp [World.frozen?, h]

set_option maxRecDepth 50000 in
set_option maxHeartbeats 6400000 in
theorem visitAdd_any (sc : Int) (B base k : Nat) (x : Sx) (ys : List Sx) (w0 W : World) (h : ChSt 64 sc B base ys w0 W) (hB : w0.heap.size ≤ B) (hbs : w0.heap.size ≤ base) (hp : x.p.length ≤ 100000) (hy : ys.length ≤ 1000000) :
    Calls Tryz.prog 83 #[.pointer (some ⟨B, 0, none⟩), .int .i64 (k : Int), sxA x] W fun e w' => e = .returned (.int .i64 (oneS true true true x.p sc).2) ∧ ChSt 64 sc B base (ys ++ [setP (fun p => oneS true true true p sc) x]) w0 w' := by
  have CF := Lib.hid (fun W' => add_any x.p sc W' hp)
  unfold setP
  obtain ⟨⟨q, er⟩, hq⟩ : ∃ r, oneS true true true x.p sc = r := ⟨_, rfl⟩
  rw [hq] at CF
  simp only [hq]
  unfold strE at CF
  simp only at CF
  obtain ⟨v, hbx, how⟩ := h.bx
  have hBW : B < W.heap.size := (Array.getElem?_eq_some_iff.1 hbx).1
  have hst : ChW 64 sc B base W.heap.size v ys (sxC x).toArray w0 (W.alloc (.cells (sxC x).toArray 28)) :=
    ⟨(Below.heap_alloc _ _ _ hBW).trans hbx, how.alloc _, World.alloc_heap_new _ _, fun g hg => (how.lt g hg).2, hBW, h.sz, hB, hbs, h.be.alloc h.be.size _⟩
  have HS := Lib.hid hst
  obtain ⟨x0, x1, x2, x3, x4, x5, x6, x7⟩ := x
  unfold sxC at HS
  simp only at HS CF
  show Calls _ _ #[_, _, .agg #[.int .i64 x0, .int .i64 x1, .int .i64 x2, .string (str x3), .string (str x4), .int .i64 x5, .int .i64 x6, .int .i64 x7]] _ _
  have HXC : Hid (xcs (ys ++ [⟨x0, x1, x2, x3, q, x5, x6, x7⟩]) = xcs ys ++ [.int .i64 x0, .int .i64 x1, .int .i64 x2, .string (str x3), .string (str q), .int .i64 x5, .int .i64 x6, .int .i64 x7] ∧ (ys ++ [(⟨x0, x1, x2, x3, q, x5, x6, x7⟩ : Sx)]).length = ys.length + 1) := Lib.hid ⟨by rw [xcs_app, xcs_one]; rfl, by simp⟩
  obtain ⟨S, hS⟩ : ∃ S, str x3 = S := ⟨_, rfl⟩
  obtain ⟨P, hP⟩ : ∃ P, str x4 = P := ⟨_, rfl⟩
  obtain ⟨Q, hQ⟩ : ∃ P, str q = P := ⟨_, rfl⟩
  rw [hS] at HS HXC ⊢
  rw [hP] at HS CF ⊢
  rw [hQ] at CF HXC
  obtain ⟨va, vc, rfl⟩ := own_lenR how
  obtain ⟨m, hm⟩ : ∃ m, ys.length = m := ⟨_, rfl⟩
  rw [hm] at HS HXC hy
  have HMl := Lib.hid hm
  obtain ⟨a0, a1, a2, _⟩ := box3_fr HS.out.bx
  obtain ⟨d0, d1, d2, d3, d4, d5, d6, d7⟩ := box8_facts HS.out.nd
  obtain ⟨i0, hi, hj0, hj1, hj2⟩ := info_parts2 zeroSxI
  clear h hst hq hS hP hQ hp hbx how hm
  go_enter Tryz.func83, Tryz.ntmps83
  go_wp2_with fail
  -- MARK1
  go_cut [7, 8] from 9 to 22 (fun s7 s8 wx => s7 = .string Q ∧ s8 = .int .i64 er ∧ Hid (ChW 64 sc B base W.heap.size (.slice va m vc) ys #[.int .i64 x0, .int .i64 x1, .int .i64 x2, .string S, .string P, .int .i64 x5, .int .i64 x6, .int .i64 x7] w0 wx))
  case first =>
    go_region_with (refine (CF.out _).mono ?_; rintro e w2 ⟨rfl, hb2⟩)
    all_goals go_wp2
    all_goals go_meet
    -- MARK2
    all_goals exact ⟨rfl, rfl, Lib.hid (HS.out.below ⟨hb2.os, hb2.tape, hb2.output, hb2.size, hb2.block⟩)⟩
  case rest =>
    obtain ⟨rfl, rfl, HS2⟩ := hcut
    obtain ⟨b0, b1, b2, b3⟩ := box3_fr HS2.out.bx
    have f4 := frz8 HS2.out.nd
    obtain ⟨g0, g1, g2, g3, g4, g5, g6, g7⟩ := box8_facts HS2.out.nd
    have HS3 := Lib.hid (HS2.out.set (.string Q))
    clear a0 a1 a2 d0 d1 d2 d3 d4 d5 d6 d7
    go_upto_region 3 with (fail)
    -- MARK3
    obtain ⟨W3, hW3⟩ : ∃ W3, W3 = wc.setCell ⟨W.heap.size, 4, none⟩ (.string Q) := ⟨_, rfl⟩
    rw [← hW3] at HS3 ⊢
    clear hW3 b0 b1 b2 b3 f4 g0 g1 g2 g3 g4 g5 g6 g7 HS2
    obtain ⟨b0, b1, b2, b3⟩ := box3_fr HS3.out.bx
    obtain ⟨g0, g1, g2, g3, g4, g5, g6, g7⟩ := box8_facts HS3.out.nd
    have hsz3 : base ≤ W3.heap.size := Nat.le_trans HS3.out.bs (Nat.le_of_lt (Array.getElem?_eq_some_iff.1 HS3.out.nd).1)
    have HBx : Hid (∀ (w4 : World) (o : Obj), (W3.alloc o).drew.grownBy w4 (Value.slice va m vc).ownBlock → w4.cell? ⟨B, 2, none⟩ = some (.slice va m vc) ∧ w4.frozen? ⟨B, 2, none⟩ = false) := Lib.hid fun w4 o h2 => by
      obtain ⟨_, _, q1, q2⟩ := box3_fr (HS3.out.boxed ((below_b1 W3 o).drew) h2)
      exact ⟨q1, q2⟩
    have HO3 : Hid (W3.ownsRow base 28 8 (.slice va m vc) m (xcs ys)) := Lib.hid (by have := HS3.out.ow; rw [HMl.out] at this; exact this)
    have HOd : Hid (∀ o, (W3.alloc o).drew.ownsRow base 28 8 (.slice va m vc) m (xcs ys)) := Lib.hid (fun o => own_below (HO3.out.alloc o) (Below.refl _ _).drew)
    have HSz : Hid (∀ o, base ≤ (W3.alloc o).drew.heap.size) := Lib.hid (fun o => by show base ≤ (W3.alloc o).heap.size; rw [World.size_alloc]; omega)
    have k5 : (W3.alloc (.cells #[.int .i64 x0, .int .i64 x1, .int .i64 x2, .string S, .string Q, .int .i64 x5, .int .i64 x6, .int .i64 x7] 28)).drew.cell? ⟨B, 2, none⟩ = some (.slice va m vc) := ((below_b1 W3 _).drew.cell (p := ⟨B, 2, none⟩) (Array.getElem?_eq_some_iff.1 HS3.out.bx).1).trans b2
    -- MARK4
    go_region_law (refine step_append_own rfl _ _ 22 rfl base 28 i0 (.agg #[.int .i64 0, .int .i64 0, .int .i64 0, .string ⟨#[]⟩, .string ⟨#[]⟩, .int .i64 0, .int .i64 0, .int .i64 0]) 8 80 Tryz.underlying22 hi hj0 hj1 hj2 rfl (by decide) _ _ _ rfl (HOd.out _) ⟨W3.heap.size, 0, none⟩ 1 1 [.int .i64 x0, .int .i64 x1, .int .i64 x2, .string S, .string Q, .int .i64 x5, .int .i64 x6, .int .i64 x7] rfl rfl (new_cellsX _ _ _ _ rfl) (one_8 _ _ _ _ _ _ _ _) (by unfold maxLen; omega) (by omega) (HSz.out _) ?_; intro v4 w4 hown4 hgrow4 _; obtain ⟨b4, cb4, rfl⟩ := own_lenR hown4; obtain ⟨k1, k2⟩ := HBx.out w4 _ hgrow4)
    -- MARK5
    all_goals
      have HP := Lib.hid (HS3.out.push (zs := ys ++ [⟨x0, x1, x2, x3, q, x5, x6, x7⟩]) ((below_b1 W3 _).drew) hgrow4 (by rw [HXC.out.1, HXC.out.2]; exact hown4))
      go_wp2_with fail
      go_ret
      exact ⟨rfl, HP.out⟩

set_option maxRecDepth 50000 in
set_option maxHeartbeats 6400000 in
theorem visitFlip_any (sc : Int) (B base k : Nat) (x : Sx) (ys : List Sx) (w0 W : World) (h : ChSt 65 sc B base ys w0 W) (hB : w0.heap.size ≤ B) (hbs : w0.heap.size ≤ base) (hp : x.p.length ≤ 100000) (hy : ys.length ≤ 1000000) :
    Calls Tryz.prog 83 #[.pointer (some ⟨B, 0, none⟩), .int .i64 (k : Int), sxA x] W fun e w' => e = .returned (.int .i64 (oneS true false true x.p sc).2) ∧ ChSt 65 sc B base (ys ++ [setP (fun p => oneS true false true p sc) x]) w0 w' := by
  have CF := Lib.hid (fun W' => flip_any x.p sc W' hp)
  unfold setP
  obtain ⟨⟨q, er⟩, hq⟩ : ∃ r, oneS true false true x.p sc = r := ⟨_, rfl⟩
  rw [hq] at CF
  simp only [hq]
  unfold strE at CF
  simp only at CF
  obtain ⟨v, hbx, how⟩ := h.bx
  have hBW : B < W.heap.size := (Array.getElem?_eq_some_iff.1 hbx).1
  have hst : ChW 65 sc B base W.heap.size v ys (sxC x).toArray w0 (W.alloc (.cells (sxC x).toArray 28)) :=
    ⟨(Below.heap_alloc _ _ _ hBW).trans hbx, how.alloc _, World.alloc_heap_new _ _, fun g hg => (how.lt g hg).2, hBW, h.sz, hB, hbs, h.be.alloc h.be.size _⟩
  have HS := Lib.hid hst
  obtain ⟨x0, x1, x2, x3, x4, x5, x6, x7⟩ := x
  unfold sxC at HS
  simp only at HS CF
  show Calls _ _ #[_, _, .agg #[.int .i64 x0, .int .i64 x1, .int .i64 x2, .string (str x3), .string (str x4), .int .i64 x5, .int .i64 x6, .int .i64 x7]] _ _
  have HXC : Hid (xcs (ys ++ [⟨x0, x1, x2, x3, q, x5, x6, x7⟩]) = xcs ys ++ [.int .i64 x0, .int .i64 x1, .int .i64 x2, .string (str x3), .string (str q), .int .i64 x5, .int .i64 x6, .int .i64 x7] ∧ (ys ++ [(⟨x0, x1, x2, x3, q, x5, x6, x7⟩ : Sx)]).length = ys.length + 1) := Lib.hid ⟨by rw [xcs_app, xcs_one]; rfl, by simp⟩
  obtain ⟨S, hS⟩ : ∃ S, str x3 = S := ⟨_, rfl⟩
  obtain ⟨P, hP⟩ : ∃ P, str x4 = P := ⟨_, rfl⟩
  obtain ⟨Q, hQ⟩ : ∃ P, str q = P := ⟨_, rfl⟩
  rw [hS] at HS HXC ⊢
  rw [hP] at HS CF ⊢
  rw [hQ] at CF HXC
  obtain ⟨va, vc, rfl⟩ := own_lenR how
  obtain ⟨m, hm⟩ : ∃ m, ys.length = m := ⟨_, rfl⟩
  rw [hm] at HS HXC hy
  have HMl := Lib.hid hm
  obtain ⟨a0, a1, a2, _⟩ := box3_fr HS.out.bx
  obtain ⟨d0, d1, d2, d3, d4, d5, d6, d7⟩ := box8_facts HS.out.nd
  obtain ⟨i0, hi, hj0, hj1, hj2⟩ := info_parts2 zeroSxI
  clear h hst hq hS hP hQ hp hbx how hm
  go_enter Tryz.func83, Tryz.ntmps83
  go_wp2_with fail
  -- MARK1
  go_cut [7, 8] from 9 to 22 (fun s7 s8 wx => s7 = .string Q ∧ s8 = .int .i64 er ∧ Hid (ChW 65 sc B base W.heap.size (.slice va m vc) ys #[.int .i64 x0, .int .i64 x1, .int .i64 x2, .string S, .string P, .int .i64 x5, .int .i64 x6, .int .i64 x7] w0 wx))
  case first =>
    go_region_with (refine (CF.out _).mono ?_; rintro e w2 ⟨rfl, hb2⟩)
    all_goals go_wp2
    all_goals go_meet
    -- MARK2
    all_goals exact ⟨rfl, rfl, Lib.hid (HS.out.below ⟨hb2.os, hb2.tape, hb2.output, hb2.size, hb2.block⟩)⟩
  case rest =>
    obtain ⟨rfl, rfl, HS2⟩ := hcut
    obtain ⟨b0, b1, b2, b3⟩ := box3_fr HS2.out.bx
    have f4 := frz8 HS2.out.nd
    obtain ⟨g0, g1, g2, g3, g4, g5, g6, g7⟩ := box8_facts HS2.out.nd
    have HS3 := Lib.hid (HS2.out.set (.string Q))
    clear a0 a1 a2 d0 d1 d2 d3 d4 d5 d6 d7
    go_upto_region 3 with (fail)
    -- MARK3
    obtain ⟨W3, hW3⟩ : ∃ W3, W3 = wc.setCell ⟨W.heap.size, 4, none⟩ (.string Q) := ⟨_, rfl⟩
    rw [← hW3] at HS3 ⊢
    clear hW3 b0 b1 b2 b3 f4 g0 g1 g2 g3 g4 g5 g6 g7 HS2
    obtain ⟨b0, b1, b2, b3⟩ := box3_fr HS3.out.bx
    obtain ⟨g0, g1, g2, g3, g4, g5, g6, g7⟩ := box8_facts HS3.out.nd
    have hsz3 : base ≤ W3.heap.size := Nat.le_trans HS3.out.bs (Nat.le_of_lt (Array.getElem?_eq_some_iff.1 HS3.out.nd).1)
    have HBx : Hid (∀ (w4 : World) (o : Obj), (W3.alloc o).drew.grownBy w4 (Value.slice va m vc).ownBlock → w4.cell? ⟨B, 2, none⟩ = some (.slice va m vc) ∧ w4.frozen? ⟨B, 2, none⟩ = false) := Lib.hid fun w4 o h2 => by
      obtain ⟨_, _, q1, q2⟩ := box3_fr (HS3.out.boxed ((below_b1 W3 o).drew) h2)
      exact ⟨q1, q2⟩
    have HO3 : Hid (W3.ownsRow base 28 8 (.slice va m vc) m (xcs ys)) := Lib.hid (by have := HS3.out.ow; rw [HMl.out] at this; exact this)
    have HOd : Hid (∀ o, (W3.alloc o).drew.ownsRow base 28 8 (.slice va m vc) m (xcs ys)) := Lib.hid (fun o => own_below (HO3.out.alloc o) (Below.refl _ _).drew)
    have HSz : Hid (∀ o, base ≤ (W3.alloc o).drew.heap.size) := Lib.hid (fun o => by show base ≤ (W3.alloc o).heap.size; rw [World.size_alloc]; omega)
    have k5 : (W3.alloc (.cells #[.int .i64 x0, .int .i64 x1, .int .i64 x2, .string S, .string Q, .int .i64 x5, .int .i64 x6, .int .i64 x7] 28)).drew.cell? ⟨B, 2, none⟩ = some (.slice va m vc) := ((below_b1 W3 _).drew.cell (p := ⟨B, 2, none⟩) (Array.getElem?_eq_some_iff.1 HS3.out.bx).1).trans b2
    -- MARK4
    go_region_law (refine step_append_own rfl _ _ 22 rfl base 28 i0 (.agg #[.int .i64 0, .int .i64 0, .int .i64 0, .string ⟨#[]⟩, .string ⟨#[]⟩, .int .i64 0, .int .i64 0, .int .i64 0]) 8 80 Tryz.underlying22 hi hj0 hj1 hj2 rfl (by decide) _ _ _ rfl (HOd.out _) ⟨W3.heap.size, 0, none⟩ 1 1 [.int .i64 x0, .int .i64 x1, .int .i64 x2, .string S, .string Q, .int .i64 x5, .int .i64 x6, .int .i64 x7] rfl rfl (new_cellsX _ _ _ _ rfl) (one_8 _ _ _ _ _ _ _ _) (by unfold maxLen; omega) (by omega) (HSz.out _) ?_; intro v4 w4 hown4 hgrow4 _; obtain ⟨b4, cb4, rfl⟩ := own_lenR hown4; obtain ⟨k1, k2⟩ := HBx.out w4 _ hgrow4)
    -- MARK5
    all_goals
      have HP := Lib.hid (HS3.out.push (zs := ys ++ [⟨x0, x1, x2, x3, q, x5, x6, x7⟩]) ((below_b1 W3 _).drew) hgrow4 (by rw [HXC.out.1, HXC.out.2]; exact hown4))
      go_wp2_with fail
      go_ret
      exact ⟨rfl, HP.out⟩
-- MARK9
end Go.Proofs.YtbmgpenllpbioaaGreatDoor
