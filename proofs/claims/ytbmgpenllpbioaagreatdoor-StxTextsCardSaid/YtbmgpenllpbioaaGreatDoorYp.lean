/- The printing's visit. -/
import Derived.Test.YtbmgpenllpbioaaGreatDoorYl
import Derived.Test.YtbmgpenllpbioaaGreatDoorYb
import Derived.Deep.RegionWith
namespace Go.Proofs.YtbmgpenllpbioaaGreatDoor
open Go.RowKit Go.PlainAid

def prE (x : Sx) : Int := if 0 < x.c then 0 else (leafS x).2
def prO (x : Sx) (a : List Nat) (out : List UInt8) : List UInt8 :=
  if 0 < x.c then out ++ [40] else ((out ++ (leafS x).1) ++ List.replicate (a.length - (cntA 0 a).length) 41) ++ (if cntA 0 a = [] then [] else [32])
def prF : List Sx → List Nat → List UInt8 → List UInt8 × Int
  | [], _, out => (out, 0)
  | x :: t, a, out => if prE x ≠ 0 then ([], prE x) else prF t (cntA x.c.toNat a) (prO x a out)
/-- The state in a visit. -/
structure PrV (B base N : Nat) (va vt : Value) (a : List Nat) (out : List UInt8) (nc : Array Value) (w0 W : World) : Prop where
  bx : W.heap[B]? = some (.cells #[va, vt] 90 (0, 0))
  ol : W.ownsRow base 3 1 va a.length (stV a)
  ot : W.ownsRow base 5 1 vt out.length (out.map bc)
  nd : W.heap[N]? = some (.cells nc 28 (0, 0))
  be : Below w0.heap.size w0 W
  sz : base ≤ W.heap.size
  wB : w0.heap.size ≤ B
  wb : w0.heap.size ≤ base
theorem PrV.below {B base N : Nat} {va vt : Value} {a : List Nat} {out : List UInt8} {nc : Array Value} {w0 W W' : World} (h : PrV B base N va vt a out nc w0 W) (hb : Below W.heap.size W W') : PrV B base N va vt a out nc w0 W' :=
  ⟨(hb.block B (Array.getElem?_eq_some_iff.1 h.bx).1).trans h.bx, own_below h.ol hb, own_below h.ot hb, (hb.block N (Array.getElem?_eq_some_iff.1 h.nd).1).trans h.nd, h.be.trans (hb.mono h.be.size), Nat.le_trans h.sz hb.size, h.wB, h.wb⟩
/-- The state between visits. -/
structure PrU (B base : Nat) (va vt : Value) (a : List Nat) (out : List UInt8) (w0 W : World) : Prop where
  bx : W.heap[B]? = some (.cells #[va, vt] 90 (0, 0))
  ol : W.ownsRow base 3 1 va a.length (stV a)
  ot : W.ownsRow base 5 1 vt out.length (out.map bc)
  be : Below w0.heap.size w0 W
  sz : base ≤ W.heap.size
  wB : w0.heap.size ≤ B
  wb : w0.heap.size ≤ base
theorem PrU.below {B base : Nat} {va vt : Value} {a : List Nat} {out : List UInt8} {w0 W W' : World} (h : PrU B base va vt a out w0 W) (hb : Below W.heap.size W W') : PrU B base va vt a out w0 W' :=
  ⟨(hb.block B (Array.getElem?_eq_some_iff.1 h.bx).1).trans h.bx, own_below h.ol hb, own_below h.ot hb, h.be.trans (hb.mono h.be.size), Nat.le_trans h.sz hb.size, h.wB, h.wb⟩
theorem PrV.toU {B base N : Nat} {va vt : Value} {a : List Nat} {out : List UInt8} {nc : Array Value} {w0 W : World} (h : PrV B base N va vt a out nc w0 W) : PrU B base va vt a out w0 W := ⟨h.bx, h.ol, h.ot, h.be, h.sz, h.wB, h.wb⟩
theorem PrV.drew {B base N : Nat} {va vt : Value} {a : List Nat} {out : List UInt8} {nc : Array Value} {w0 W : World} (h : PrV B base N va vt a out nc w0 W) : PrV B base N va vt a out nc w0 W.drew := h.below (Below.refl _ _).drew
theorem own_keep {w w' : World} {B n z : Nat} {e : TypeId} {v : Value} {xs : List Value} (h : w.ownsRow B e z v n xs) (hk : ∀ g, v.ownBlock = some g → w'.heap[g]? = w.heap[g]?) : w'.ownsRow B e z v n xs := by
  obtain ⟨h1, h2⟩ := h
  refine ⟨h1, ?_⟩
  rcases h2 with h2 | ⟨g, cap, cur, rfl, hg, hc, r⟩
  · exact .inl h2
  · exact .inr ⟨g, cap, cur, rfl, hg, (hk g rfl).trans hc, r⟩
theorem PrV.count {B base N k : Nat} {va vt : Value} {a : List Nat} {out : List UInt8} {nc : Array Value} {w0 W : World} (h : PrV B base N va vt a out nc w0 W) (hk : k ≤ 9223372036854775807) (hs : StB a) (hl : a.length ≤ 5000) (ht : topN a) :
    Calls Tryz.prog 75 #[.pointer (some ⟨B, 0, none⟩), .int .i64 (k : Int)] W fun e w' => e = .returned (.int .i64 (cntAV k a)) ∧ ∃ va', PrV B base N va' vt (cntA k a) out nc w0 w' := by
  refine (count_any 90 (by decide) B base k [vt] a W ⟨va, h.bx, h.ol⟩ h.sz hk hs hl ht).mono ?_
  rintro e w' ⟨rfl, ⟨va', h1, h2⟩, h3, h4⟩
  have hb := h4 w0.heap.size h.wB h.wb
  have hkeep : ∀ (g : Nat) (c : Array Value) (e : TypeId) (fz : Nat × Nat), W.heap[g]? = some (.cells c e fz) → g ≠ B → e ≠ 3 → w'.heap[g]? = some (.cells c e fz) := fun g c e fz hg hgB he =>
    h3 g _ hg (fun e' => hgB (Option.some.inj e')) (fun c' fz' e' => by injection e' with _ e2 _; exact he e2)
  have hBlt := (Array.getElem?_eq_some_iff.1 h.bx).1
  refine ⟨rfl, va', h1, h2, own_keep h.ot fun g hg => ?_, hkeep N _ _ _ h.nd (fun e' => ?_) (by decide), h.be.trans hb, Nat.le_trans h.sz hb.size, h.wB, h.wb⟩
  · obtain ⟨c, fz, hc⟩ := Lib.ownsRow_kind h.ot g hg
    rw [hkeep g c _ fz hc (own_ne h.bx h.ot (by decide) g hg) (by decide), hc]
  · have := h.nd; rw [e', h.bx] at this; have := Option.some.inj this; injection this with _ e2 _; exact absurd e2 (by decide)
theorem PrV.mid {B base N : Nat} {va vt : Value} {a : List Nat} {out : List UInt8} {nc : Array Value} {w0 W W1 w3 : World} (h : PrV B base N va vt a out nc w0 W) (hW : Below W.heap.size W W1) (hg : W1.grownBy w3 vt.ownBlock) :
    w3.heap[B]? = some (.cells #[va, vt] 90 (0, 0)) := by
  have hB : B < W.heap.size := (Array.getElem?_eq_some_iff.1 h.bx).1
  exact (hg.block B (by have := hW.size; omega) (fun e => own_ne h.bx h.ot (by decide) B e.symm rfl)).trans ((hW.block B hB).trans h.bx)
theorem PrV.push {B base N : Nat} {va vt vt' : Value} {a : List Nat} {out out' : List UInt8} {nc : Array Value} {w0 W W1 w3 : World} (h : PrV B base N va vt a out nc w0 W) (hW : Below W.heap.size W W1) (hg : W1.grownBy w3 vt.ownBlock)
    (hown : w3.ownsRow base 5 1 vt' out'.length (out'.map bc)) : PrV B base N va vt' a out' nc w0 (w3.setCell ⟨B, 1, none⟩ vt') := by
  have hb3 := h.mid hW hg
  have hbe : Below w0.heap.size w0 W1 := h.be.trans (hW.mono h.be.size)
  have hne : ∀ (g : Nat) (c : Array Value) (e : TypeId) (fz : Nat × Nat), W.heap[g]? = some (.cells c e fz) → e ≠ 5 → w3.heap[g]? = W.heap[g]? := fun g c e fz hc he => by
    have hlt := (Array.getElem?_eq_some_iff.1 hc).1
    refine (hg.block g (by have := hW.size; omega) (fun e' => ?_)).trans (hW.block g hlt)
    obtain ⟨c2, fz2, h2⟩ := Lib.ownsRow_kind h.ot g e'.symm
    rw [hc] at h2; have h3 := Option.some.inj h2; injection h3 with _ e2 _; exact he e2
  have hNB : N ≠ B := fun e' => by have := h.nd; rw [e', h.bx] at this; have := Option.some.inj this; injection this with _ e2 _; exact absurd e2 (by decide)
  refine ⟨by simp [World.setCell, Array.getElem?_modify, hb3], own_setO (own_keep h.ol fun g hgo => ?_) (fun g hgo => own_ne h.bx h.ol (by decide) g hgo), own_setO hown (own_ne hb3 hown (by decide)), ?_, ?_, ?_, h.wB, h.wb⟩
  · obtain ⟨c, fz, hc⟩ := Lib.ownsRow_kind h.ol g hgo
    exact hne g c _ fz hc (by decide)
  · exact (Below.heap_setCell _ _ _ _ hNB).trans ((hne N _ _ _ h.nd (by decide)).trans h.nd)
  · exact (hbe.grown hg hbe.size (fun g hgg => by have := (h.ot.lt g hgg).1; have := h.wb; omega)).setCell (by show w0.heap.size ≤ B; exact h.wB) _
  · have := hg.size; have := hW.size; have := h.sz; rw [World.size_setCell]; omega
theorem box2_fr {W : World} {n : Nat} {x y : Value} {t : TypeId} (h : W.heap[n]? = some (.cells #[x, y] t (0, 0))) :
    W.cell? ⟨n, 0, none⟩ = some x ∧ W.cell? ⟨n, 1, none⟩ = some y ∧ W.frozen? ⟨n, 1, none⟩ = false := by
  refine ⟨?_, ?_, ?_⟩ <;> simp [World.cell?, World.frozen?, h]
theorem bytes_push {w : World} {B n : Nat} {v : Value} {out : List UInt8} {c : Nat} (hc : c < 256) (hn : out.length = n) (h : w.ownsRow B 5 1 v (n + 1) (out.map bc ++ [.int .u8 (c : Int)])) : w.ownsRow B 5 1 v (out ++ [UInt8.ofNat c]).length ((out ++ [UInt8.ofNat c]).map bc) := by
  rw [List.length_append, List.map_append, hn]
  have e : ([UInt8.ofNat c].map bc : List Value) = [.int .u8 (c : Int)] := by
    simp only [List.map_cons, List.map_nil, bc]
    rw [UInt8.toNat_ofNat', Nat.mod_eq_of_lt hc]
  rw [e]; exact h
theorem one_u8 (c : Int) : ∀ u ∈ [Value.int .u8 c], u.oneCell' = true := by intro u hu; simp at hu; subst hu; rfl
set_option maxRecDepth 50000 in
set_option maxHeartbeats 6400000 in
theorem visitPar_any (B base k c : Nat) (x : Sx) (va vt : Value) (a : List Nat) (out : List UInt8) (w0 W : World) (h : PrU B base va vt a out w0 W) (hc : x.c = ((c + 1 : Nat) : Int)) (hcm : c + 1 ≤ 9223372036854775807) (hs : StB a) (hl : a.length ≤ 5000) (ht : topN a) (ho : out.length ≤ 1000000000) :
    Calls Tryz.prog 66 #[.pointer (some ⟨B, 0, none⟩), .int .i64 (k : Int), sxA x] W fun e w' => e = .returned (.int .i64 0) ∧ ∃ va' vt', PrV B base W.heap.size va' vt' (cntA (c + 1) a) (out ++ [40]) (sxC x).toArray w0 w' := by
  have hst : PrV B base W.heap.size va vt a out (sxC x).toArray w0 (W.alloc (.cells (sxC x).toArray 28)) := by
    have h' := h.below (below_b1 W (.cells (sxC x).toArray 28))
    exact ⟨h'.bx, h'.ol, h'.ot, World.alloc_heap_new _ _, h'.be, h'.sz, h'.wB, h'.wb⟩
  obtain ⟨va1, ca1, rfl⟩ := own_lenR h.ot
  obtain ⟨m, hm⟩ : ∃ m, out.length = m := ⟨_, rfl⟩
  have HM := Lib.hid hm
  have HS := Lib.hid hst
  rw [hm] at HS ho
  obtain ⟨x0, x1, x2, x3, x4, x5, x6, x7⟩ := x
  simp only at hc
  subst hc
  unfold sxC at HS ⊢
  simp only at HS ⊢
  show Calls _ _ #[_, _, .agg #[.int .i64 x0, .int .i64 ((c + 1 : Nat) : Int), .int .i64 x2, .string (str x3), .string (str x4), .int .i64 x5, .int .i64 x6, .int .i64 x7]] _ _
  obtain ⟨S, hS⟩ : ∃ S, str x3 = S := ⟨_, rfl⟩
  obtain ⟨P, hP⟩ : ∃ P, str x4 = P := ⟨_, rfl⟩
  rw [hS] at HS ⊢
  rw [hP] at HS ⊢
  obtain ⟨q, hq⟩ : ∃ q, c + 1 = q := ⟨_, rfl⟩
  have hq0 : 0 < q := by omega
  rw [hq] at HS hcm ⊢
  obtain ⟨a0, a1, a2⟩ := box2_fr HS.out.bx
  obtain ⟨d0, d1, d2, d3, d4, d5, d6, d7⟩ := box8_facts HS.out.nd
  have HOT : Hid ((W.alloc (.cells #[.int .i64 x0, .int .i64 (q : Int), .int .i64 x2, .string S, .string P, .int .i64 x5, .int .i64 x6, .int .i64 x7] 28)).ownsRow base 5 1 (.slice va1 m ca1) m (out.map bc)) := Lib.hid (by have := HS.out.ot; rw [hm] at this; exact this)
  have HCt := Lib.hid (fun va' vt' W' (hW : PrV B base W.heap.size va' vt' a (out ++ [40]) #[.int .i64 x0, .int .i64 (q : Int), .int .i64 x2, .string S, .string P, .int .i64 x5, .int .i64 x6, .int .i64 x7] w0 W') => hW.count (k := q) hcm hs hl ht)
  obtain ⟨i0, hi, hz0, hz1, hz2⟩ := info_parts2 infoU8
  have hsz := HS.out.sz
  have dq : decide ((0 : Int) < (q : Int)) = true := decide_eq_true (by omega)
  clear h hst hm hs hl ht hS hP hq
  go_enter Tryz.func66, Tryz.ntmps66
  go_wp2_with (at_builtin; refine wpList_append_own _ rfl _ _ 88 rfl base 5 i0 (.int .u8 0) 1 1 Tryz.underlying88 hi hz0 hz1 hz2 rfl (by decide) _ _ _ rfl (HOT.out.alloc _) ⟨W.heap.size + 1, 0, none⟩ 1 1 [.int .u8 40] rfl rfl (new_cellsX _ _ _ _ (World.size_alloc _ _)) (one_u8 40) (by unfold maxLen; omega) (by omega) (by rw [World.size_alloc]; omega) ?_; intro v4 w4 hown4 hgrow4 _; obtain ⟨b4, cb4, rfl⟩ := own_lenR hown4; obtain ⟨_, k1, k2⟩ := box2_fr (HS.out.mid (below_b1 _ _) hgrow4); have HP4 := Lib.hid (HS.out.push (out' := out ++ [40]) (below_b1 _ _) hgrow4 (bytes_push (c := 40) (by decide) HM.out hown4)); clear hown4 hgrow4)
  -- MARK1
  obtain ⟨W5, hW5⟩ : ∃ W5, W5 = w4.setCell ⟨B, 1, none⟩ (.slice b4 (m + 1) cb4) := ⟨_, rfl⟩
  rw [← hW5] at HP4 ⊢
  clear hW5 d0 d1 d2 d3 d4 d5 d6 d7 a0 a1 a2 k1 k2
  obtain ⟨d0, d1, d2, d3, d4, d5, d6, d7⟩ := box8_facts HP4.out.nd
  go_region_with (go_at_call 75; refine (HCt.out _ _ _ HP4.out.drew).mono ?_; rintro e w6 ⟨rfl, va6, hst6⟩)
  -- MARK2
  all_goals
    have HP6 := Lib.hid hst6
    clear hst6
    go_wp2_with fail
    go_ret
    exact ⟨rfl, va6, _, HP6.out⟩
-- MARK9
end Go.Proofs.YtbmgpenllpbioaaGreatDoor
