/- compareAt. -/
import Derived.Test.YtkngkajojcmmlaaDoorDca
import Derived.Deep.DeepCutAuto
import Derived.Deep.CutBlock
namespace Go.Proofs.YtkngkajojcmmlaaDoor
open Go.RowKit Go.Shelf Go.PlainAid

theorem box4_facts {W : World} {n : Nat} {x y z u : Value} {t : TypeId} (h : W.heap[n]? = some (.cells #[x, y, z, u] t (0, 0))) :
    W.cell? ⟨n, 0, none⟩ = some x ∧ W.cell? ⟨n, 1, none⟩ = some y ∧ W.cell? ⟨n, 2, none⟩ = some z ∧ W.cell? ⟨n, 3, none⟩ = some u := by
  refine ⟨?_, ?_, ?_, ?_⟩ <;> simp [World.cell?, h]
theorem two_new {W : World} {n : Nat} (h : W.heap.size = n) (l l' : Array Value) (t t' : TypeId) : ((W.alloc (.cells l t)).alloc (.cells l' t')).drew.heap[n]? = some (.cells l t (0, 0)) ∧ ((W.alloc (.cells l t)).alloc (.cells l' t')).drew.heap[n + 1]? = some (.cells l' t' (0, 0)) ∧ Below W.heap.size W ((W.alloc (.cells l t)).alloc (.cells l' t')).drew := by
  subst h
  have hb : Below W.heap.size W ((W.alloc (.cells l t)).alloc (.cells l' t')) := ((Below.refl _ W).alloc (Nat.le_refl _) _).alloc (by simp only [World.size_alloc]; omega) _
  refine ⟨?_, ?_, hb.drew⟩
  · exact (Below.heap_alloc _ _ _ (by simp only [World.size_alloc]; omega)).trans (World.alloc_heap_new _ _)
  · have := World.alloc_heap_new (W.alloc (.cells l t)) (.cells l' t'); rw [World.size_alloc] at this; exact this
set_option maxRecDepth 50000 in
set_option maxHeartbeats 6400000 in
theorem compareAt_go (ga oa na ca gea gb ob nb cb geb : Nat) (a b : List Nd) (w0 : World) (HA : Hid (TreeAt w0 ga oa na gea a)) (HB : Hid (TreeAt w0 gb ob nb geb b)) :
    ∀ (f i j : Nat) (w : World), Below w0.heap.size w0 w → 400 - i < f → i < na → j < nb →
    Calls Tryd.prog 72 #[.agg #[.slice (some ⟨ga, oa, none⟩) na ca, .slice (some ⟨gea, 0, none⟩) na na], .agg #[.slice (some ⟨gb, ob, none⟩) nb cb, .slice (some ⟨geb, 0, none⟩) nb nb], .int .i64 (i : Int), .int .i64 (j : Int)] w
      fun e w' => e = .returned (.int .i64 (ordF a b f i j)) ∧ Below w.heap.size w w' := by
  intro f
  induction f with
  | zero => intro i j w _ h; omega
  | succ f ih =>
    intro i j w hw hf hi hj
    obtain ⟨W1, hW1⟩ : ∃ W1, W1 = (w.alloc (.cells #[.slice (some ⟨ga, oa, none⟩) na ca, .slice (some ⟨gea, 0, none⟩) na na] 72)).alloc (.cells #[.slice (some ⟨gb, ob, none⟩) nb cb, .slice (some ⟨geb, 0, none⟩) nb nb] 72) := ⟨_, rfl⟩
    have hsz1 : W1.heap.size = w.heap.size + 2 := by rw [hW1]; simp
    have hb1 : Below w.heap.size w W1 := by rw [hW1]; exact ((Below.refl _ w).alloc (Nat.le_refl _) _).alloc (by simp only [World.size_alloc]; omega) _
    have hbx : W1.heap[w.heap.size]? = some (.cells #[.slice (some ⟨ga, oa, none⟩) na ca, .slice (some ⟨gea, 0, none⟩) na na] 72 (0, 0)) := by
      rw [hW1]; exact (Below.heap_alloc _ _ _ (by simp only [World.size_alloc]; omega)).trans (World.alloc_heap_new _ _)
    have hby : W1.heap[w.heap.size + 1]? = some (.cells #[.slice (some ⟨gb, ob, none⟩) nb cb, .slice (some ⟨geb, 0, none⟩) nb nb] 72 (0, 0)) := by
      rw [hW1]; have := World.alloc_heap_new (w.alloc (.cells #[.slice (some ⟨ga, oa, none⟩) na ca, .slice (some ⟨gea, 0, none⟩) na na] 72)) (.cells #[.slice (some ⟨gb, ob, none⟩) nb cb, .slice (some ⟨geb, 0, none⟩) nb nb] 72); rwa [World.size_alloc] at this
    have hw1 : Below w0.heap.size w0 W1 := hw.trans (hb1.mono hw.size)
    have HBX : Hid (∀ W, Below W1.heap.size W1 W → W.heap[w.heap.size]? = some (.cells #[.slice (some ⟨ga, oa, none⟩) na ca, .slice (some ⟨gea, 0, none⟩) na na] 72 (0, 0)) ∧ W.heap[w.heap.size + 1]? = some (.cells #[.slice (some ⟨gb, ob, none⟩) nb cb, .slice (some ⟨geb, 0, none⟩) nb nb] 72 (0, 0)) ∧
        W.cell? ⟨w.heap.size, 0, none⟩ = some (.slice (some ⟨ga, oa, none⟩) na ca) ∧ W.cell? ⟨w.heap.size, 1, none⟩ = some (.slice (some ⟨gea, 0, none⟩) na na) ∧ W.cell? ⟨w.heap.size + 1, 0, none⟩ = some (.slice (some ⟨gb, ob, none⟩) nb cb) ∧ W.cell? ⟨w.heap.size + 1, 1, none⟩ = some (.slice (some ⟨geb, 0, none⟩) nb nb) ∧ Below w0.heap.size w0 W) := Lib.hid fun W hb => by
      have e1 := (hb.block _ (by omega)).trans hbx
      have e2 := (hb.block _ (by omega)).trans hby
      obtain ⟨x0, x1, _, _⟩ := box_facts e1
      obtain ⟨y0, y1, _, _⟩ := box_facts e2
      exact ⟨e1, e2, x0, x1, y0, y1, hw1.trans (hb.mono hw1.size)⟩
    obtain ⟨x, hx⟩ : ∃ x, a[i]? = some x := ⟨_, List.getElem?_eq_getElem (by rw [HA.out.len]; exact hi)⟩
    obtain ⟨y, hy⟩ : ∃ y, b[j]? = some y := ⟨_, List.getElem?_eq_getElem (by rw [HB.out.len]; exact hj)⟩
    have HNd : Hid (∀ W, Below w0.heap.size w0 W → W.cell? ⟨ga, oa + i * 4, none⟩ = some (.int .i64 x.1) ∧ W.cell? ⟨ga, oa + i * 4 + 1, none⟩ = some (.int .i64 x.2.1) ∧ W.cell? ⟨ga, oa + i * 4 + 2, none⟩ = some (.int .i64 x.2.2.1) ∧ W.cell? ⟨ga, oa + i * 4 + 3, none⟩ = some (.string (str x.2.2.2)) ∧
        W.cell? ⟨gb, ob + j * 4, none⟩ = some (.int .i64 y.1) ∧ W.cell? ⟨gb, ob + j * 4 + 1, none⟩ = some (.int .i64 y.2.1) ∧ W.cell? ⟨gb, ob + j * 4 + 2, none⟩ = some (.int .i64 y.2.2.1) ∧ W.cell? ⟨gb, ob + j * 4 + 3, none⟩ = some (.string (str y.2.2.2))) := Lib.hid fun W hb => by
      obtain ⟨p0, p1, p2, p3⟩ := dcs_at a hx
      obtain ⟨q0, q1, q2, q3⟩ := dcs_at b hy
      have hA := HA.out.below hb
      have hB := HB.out.below hb
      exact ⟨hA.nds _ _ p0, hA.nds _ _ p1, hA.nds _ _ p2, hA.nds _ _ p3, hB.nds _ _ q0, hB.nds _ _ q1, hB.nds _ _ q2, hB.nds _ _ q3⟩
    have HOrd : Hid (ordF a b (f + 1) i j = if ndS x y ≠ 0 then ndS x y else cmpL (ordF a b f) (kidsN (kidsL a) i) (kidsN (kidsL b) j)) := Lib.hid (by
      show (if ndS (ndAt a i) (ndAt b j) ≠ 0 then ndS (ndAt a i) (ndAt b j) else _) = _
      rw [ndAt_of hx, ndAt_of hy])
    have HKL : Hid ((kidsN (kidsL a) i).length ≤ 1000) := Lib.hid (by
      have := kidsN_le HA.out.tr (i := i) (by rw [kidsL_len, HA.out.len]; exact hi)
      rw [kidsL_len, HA.out.len] at this; have := HA.out.le; omega)
    have HCl : Hid (∀ W', Below W1.heap.size W1 W' → ∀ (k x y : Nat), (kidsN (kidsL a) i)[k]? = some x → (kidsN (kidsL b) j)[k]? = some y → ∀ W, Below W'.heap.size W' W → Calls Tryd.prog 95 #[.int .i64 (x : Int), .int .i64 (y : Int), .pointer (some ⟨w.heap.size, 0, none⟩), .pointer (some ⟨w.heap.size + 1, 0, none⟩)] W fun e w' => e = .returned (.int .i64 (ordF a b f x y)) ∧ Below W.heap.size W w') := Lib.hid fun W' hb' k x y hx hy W hb => by
      have hbW := hb'.trans (hb.mono hb'.size)
      obtain ⟨e1, e2, _, _, _, _, e3⟩ := HBX.out W hbW
      have l1 : i < (kidsL a).length := by rw [kidsL_len, HA.out.len]; exact hi
      have l2 : j < (kidsL b).length := by rw [kidsL_len, HB.out.len]; exact hj
      have k1 : k < cnt (kidsL a) i := by have := (List.getElem?_eq_some_iff.1 hx).1; rwa [kidsN_len] at this
      have k2 : k < cnt (kidsL b) j := by have := (List.getElem?_eq_some_iff.1 hy).1; rwa [kidsN_len] at this
      obtain ⟨p1, p2, _⟩ := HA.out.tr.pos_step l1 k1
      obtain ⟨q1, q2, _⟩ := HB.out.tr.pos_step l2 k2
      rw [kidsN_at k1] at hx
      rw [kidsN_at k2] at hy
      rw [kidsL_len, HA.out.len] at p2
      rw [kidsL_len, HB.out.len] at q2
      have hx' := Option.some.inj hx
      have hy' := Option.some.inj hy
      have h400 := HA.out.le
      exact clos_any _ _ _ _ _ _ _ _ _ W e1 e2 (Lib.hid (ih x y W e3 (by omega) (by omega) (by omega)))
    have KA := Lib.hid (fun (W : World) (hb : Below W1.heap.size W1 W) => kids_at (some ⟨ga, oa, none⟩) ca oa ga gea na i a W (HA.out.below (HBX.out W hb).2.2.2.2.2.2) hi)
    have KB := Lib.hid (fun (W : World) (hb : Below W1.heap.size W1 W) => kids_at (some ⟨gb, ob, none⟩) cb ob gb geb nb j b W (HB.out.below (HBX.out W hb).2.2.2.2.2.2) hj)
    have C1 := Lib.hid (cmp_int)
    have C2 := Lib.hid (cmp_i64)
    have C3 := Lib.hid (cmp_str)
    have CO := Lib.hid (or_3)
    obtain ⟨R, hR⟩ : ∃ R, ordF a b (f + 1) i j = R := ⟨_, rfl⟩
    rw [hR] at HOrd ⊢
    have hi0 : (0 : Int) ≤ (i : Int) := Int.natCast_nonneg _
    have hi1 : (i : Int) < (na : Int) := by omega
    have hj0 : (0 : Int) ≤ (j : Int) := Int.natCast_nonneg _
    have hj1 : (j : Int) < (nb : Int) := by omega
    obtain ⟨x0, x1, x2, x3⟩ := x
    obtain ⟨y0, y1, y2, y3⟩ := y
    have HB1 := Lib.hid hb1
    clear ih hx hy hR hbx hby hw hw1 hf hi hj
    go_enter Tryd.func72, Tryd.ntmps72
    go_upto_region 1 with (fail)
    -- MARK1
    rw [← hW1]
    clear hW1 hb1
    obtain ⟨_, _, bx0, bx1, by0, by1, hwW⟩ := HBX.out W1 (Below.refl _ _)
    obtain ⟨u0, u1, u2, u3, v0, v1, v2, v3⟩ := HNd.out W1 hwW
    simp only at u0 u1 u2 u3 v0 v1 v2 v3
    go_cut [9, 10] (fun s9 s10 wx => ∃ p q, s9 = .pointer (some ⟨p, 0, none⟩) ∧ s10 = .pointer (some ⟨q, 0, none⟩) ∧ wx.heap[p]? = some (.cells #[.int .i64 x0, .int .i64 x1, .int .i64 x2, .string (str x3)] 48 (0, 0)) ∧ wx.heap[q]? = some (.cells #[.int .i64 y0, .int .i64 y1, .int .i64 y2, .string (str y3)] 48 (0, 0)) ∧ Below W1.heap.size W1 wx)
    case first =>
      have hga : ga < W1.heap.size := Nat.lt_of_lt_of_le HA.out.lt hwW.size
      have hgb : gb < W1.heap.size := Nat.lt_of_lt_of_le HB.out.lt hwW.size
      have L1 : ∀ (p : Addr) (v : Value), p.block < W1.heap.size → W1.cell? p = some v → (∀ o, (W1.alloc o).cell? p = some v) ∧ (∀ o o', ((W1.alloc o).alloc o').cell? p = some v) := fun p v hp hv => ⟨fun o => (World.cell?_alloc_lt _ _ _ hp).trans hv, fun o o' => (World.cell?_alloc_lt _ _ _ (by rw [World.size_alloc]; omega)).trans ((World.cell?_alloc_lt _ _ _ hp).trans hv)⟩
      obtain ⟨a0, b0⟩ := L1 _ _ hga u0
      obtain ⟨a1, b1⟩ := L1 _ _ hga u1
      obtain ⟨a2, b2⟩ := L1 _ _ hga u2
      obtain ⟨a3, b3⟩ := L1 _ _ hga u3
      obtain ⟨a4, b4⟩ := L1 _ _ hgb v0
      obtain ⟨a5, b5⟩ := L1 _ _ hgb v1
      obtain ⟨a6, b6⟩ := L1 _ _ hgb v2
      obtain ⟨a7, b7⟩ := L1 _ _ hgb v3
      obtain ⟨a8, b8⟩ := L1 ⟨w.heap.size, 0, none⟩ _ (by show w.heap.size < W1.heap.size; omega) bx0
      obtain ⟨a9, b9⟩ := L1 ⟨w.heap.size, 1, none⟩ _ (by show w.heap.size < W1.heap.size; omega) bx1
      obtain ⟨a10, b10⟩ := L1 ⟨w.heap.size + 1, 0, none⟩ _ (by show w.heap.size + 1 < W1.heap.size; omega) by0
      obtain ⟨a11, b11⟩ := L1 ⟨w.heap.size + 1, 1, none⟩ _ (by show w.heap.size + 1 < W1.heap.size; omega) by1
      clear L1
      go_region
      all_goals go_wp2
      all_goals go_meet
      -- MARK2
      all_goals first
        | (have h2 := two_new hsz1 #[.int .i64 x0, .int .i64 x1, .int .i64 x2, .string (str x3)] #[.int .i64 y0, .int .i64 y1, .int .i64 y2, .string (str y3)] 48 48; exact ⟨_, _, rfl, rfl, h2.1, h2.2.1, h2.2.2⟩)
        | (have h2 := two_new hsz1 #[.int .i64 y0, .int .i64 y1, .int .i64 y2, .string (str y3)] #[.int .i64 x0, .int .i64 x1, .int .i64 x2, .string (str x3)] 48 48; exact ⟨_, _, rfl, rfl, h2.2.1, h2.1, h2.2.2⟩)
    case rest =>
      obtain ⟨p, q, rfl, rfl, hp, hq, hbc⟩ := hcut
      clear bx0 bx1 by0 by1 u0 u1 u2 u3 v0 v1 v2 v3
      obtain ⟨p0, p1, p2, p3⟩ := box4_facts hp
      obtain ⟨q0, q1, q2, q3⟩ := box4_facts hq
      go_upto_region 2 with (fail)
      go_cut [11] (fun s11 wx => s11 = .int .i64 (ndS (x0, x1, x2, x3) (y0, y1, y2, y3)) ∧ Below W1.heap.size W1 wx)
      case first =>
        go_region_held3 (fun w' => w'.cell? ⟨p, 0, none⟩ = some (.int .i64 x0) ∧ w'.cell? ⟨p, 2, none⟩ = some (.int .i64 x2) ∧ w'.cell? ⟨p, 3, none⟩ = some (.string (str x3)) ∧ w'.cell? ⟨q, 0, none⟩ = some (.int .i64 y0) ∧ w'.cell? ⟨q, 2, none⟩ = some (.int .i64 y2) ∧ w'.cell? ⟨q, 3, none⟩ = some (.string (str y3))) (go_keep) (first
          | (go_at_call 91; refine (C1.out _ _ _).mono ?_; rintro e w3 ⟨rfl, rfl⟩)
          | (go_at_call 92; refine (C2.out _ _ _).mono ?_; rintro e w3 ⟨rfl, rfl⟩)
          | (go_at_call 93; refine (C3.out _ _ _).mono ?_; rintro e w3 ⟨rfl, rfl⟩)
          | (go_at_call 90; refine (CO.out _ _ _ _).mono ?_; rintro e w3 ⟨rfl, rfl⟩))
        -- MARK3
        all_goals go_wp2
        all_goals go_meet
        all_goals exact ⟨rfl, hbc.drew.alloc hbc.size _⟩
      case rest =>
        obtain ⟨rfl, hb2⟩ := hcut
        clear hp hq hbc p0 p1 p2 p3 q0 q1 q2 q3 C1 C2 C3 CO
        obtain ⟨d, hd⟩ : ∃ d, ndS (x0, x1, x2, x3) (y0, y1, y2, y3) = d := ⟨_, rfl⟩
        rw [hd] at HOrd ⊢
        by_cases hd0 : d = 0
        · subst hd0
          have HF : Hid (R = cmpL (ordF a b f) (kidsN (kidsL a) i) (kidsN (kidsL b) j)) := Lib.hid (by rw [HOrd.out, if_neg (by simp)])
          obtain ⟨na', hna'⟩ : ∃ k, (kidsN (kidsL a) i).length = k := ⟨_, rfl⟩
          obtain ⟨nb', hnb'⟩ : ∃ k, (kidsN (kidsL b) j).length = k := ⟨_, rfl⟩
          rw [hna'] at KA
          rw [hnb'] at KB
          clear hd hna' hnb'
          go_upto_region 5 with (fail)
          -- MARK4
          have hcur : Below W1.heap.size W1 wc.drew := hb2.drew
          obtain ⟨_, _, z0, z1, z2, z3, _⟩ := HBX.out _ hcur
          obtain ⟨_, _, c0, c1, c2, c3, _⟩ := HBX.out _ hb2
          go_region_held3 (fun w' => w'.cell? ⟨w.heap.size, 0, none⟩ = some (.slice (some ⟨ga, oa, none⟩) na ca) ∧ w'.cell? ⟨w.heap.size, 1, none⟩ = some (.slice (some ⟨gea, 0, none⟩) na na) ∧ w'.cell? ⟨w.heap.size + 1, 0, none⟩ = some (.slice (some ⟨gb, ob, none⟩) nb cb) ∧ w'.cell? ⟨w.heap.size + 1, 1, none⟩ = some (.slice (some ⟨geb, 0, none⟩) nb nb)) (go_keep) (first
            | (go_at_call 59; with_reducible refine (KA.out _ hcur).mono ?_; rintro e wA1 ⟨A1, A2, rfl, hn, CA⟩; have hA := Below.refl wA1.heap.size wA1; replace hcur := hcur.trans (hn.mono hcur.size); (try replace hB := hB.trans (hn.mono hB.size)); (try replace hA2 := hA2.trans (hn.mono hA2.size)); (try replace hB2 := hB2.trans (hn.mono hB2.size)); obtain ⟨_, _, z0, z1, z2, z3, _⟩ := HBX.out _ hcur; clear hn)
            | (go_at_call 59; with_reducible refine (KB.out _ hcur).mono ?_; rintro e wB1 ⟨B1, B2, rfl, hn, CB⟩; have hB := Below.refl wB1.heap.size wB1; replace hcur := hcur.trans (hn.mono hcur.size); (try replace hA := hA.trans (hn.mono hA.size)); (try replace hA2 := hA2.trans (hn.mono hA2.size)); (try replace hB2 := hB2.trans (hn.mono hB2.size)); obtain ⟨_, _, z0, z1, z2, z3, _⟩ := HBX.out _ hcur; clear hn)
            | (go_at_call 58; with_reducible refine (CA.out _ hA).mono ?_; rintro e wA2 ⟨g5, c5, rfl, hn, RA⟩; have hA2 := Below.refl wA2.heap.size wA2; replace hcur := hcur.trans (hn.mono hcur.size); (try replace hA := hA.trans (hn.mono hA.size)); (try replace hB := hB.trans (hn.mono hB.size)); (try replace hB2 := hB2.trans (hn.mono hB2.size)); obtain ⟨_, _, z0, z1, z2, z3, _⟩ := HBX.out _ hcur; clear hn)
            | (go_at_call 58; with_reducible refine (CB.out _ hB).mono ?_; rintro e wB2 ⟨g6, c6, rfl, hn, RB⟩; have hB2 := Below.refl wB2.heap.size wB2; replace hcur := hcur.trans (hn.mono hcur.size); (try replace hA := hA.trans (hn.mono hA.size)); (try replace hB := hB.trans (hn.mono hB.size)); (try replace hA2 := hA2.trans (hn.mono hA2.size)); obtain ⟨_, _, z0, z1, z2, z3, _⟩ := HBX.out _ hcur; clear hn)
            | (go_at_call 94; refine (cmpFunc_any _ _ _ _ _ _ _ _ (RA.out _ hA2) (RB.out _ hB2) HKL.out (Lib.hid (HCl.out _ hcur))).mono ?_; rintro e w9 ⟨rfl, hn⟩; replace hcur := hcur.trans (hn.mono hcur.size); obtain ⟨_, _, z0, z1, z2, z3, _⟩ := HBX.out _ hcur))
          -- MARK5
          all_goals go_wp2
          all_goals go_ret
          all_goals exact ⟨by rw [HF.out]; rfl, HB1.out.trans (hcur.mono HB1.out.size)⟩
        · have hne : (d != 0) = true := bne_iff_ne.2 hd0
          have HF : Hid (R = d) := Lib.hid (by rw [HOrd.out, if_pos hd0])
          clear hd hd0
          go_wp2_with fail
          go_ret
          exact ⟨by rw [HF.out]; rfl, HB1.out.trans (hb2.mono HB1.out.size)⟩
end Go.Proofs.YtkngkajojcmmlaaDoor
