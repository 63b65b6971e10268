import Derived.Test.YtkngkajojcmmlaaGreatDoorZj
import Derived.Deep.DeepCutAuto
import Derived.Deep.CutBlock
/- compareAt. -/
namespace Go.Proofs.YtkngkajojcmmlaaGreatDoor
open Go.RowKit Go.Shelf Go.PlainAid

theorem box4_facts {W : World} {n : Nat} {x y z u : Value} {t : TypeId} (h : W.heap[n]? = some (.cells #[x, y, z, u] t (0, 0))) :
    W.cell? ⟨n, 0, none⟩ = some x ∧ W.cell? ⟨n, 1, none⟩ = some y ∧ W.cell? ⟨n, 2, none⟩ = some z ∧ W.cell? ⟨n, 3, none⟩ = some u := by
  refine ⟨?_, ?_, ?_, ?_⟩ <;> simp [World.cell?, h]
theorem two_new {W : World} {n : Nat} (h : W.heap.size = n) (l l' : Array Value) (t t' : TypeId) : ((W.alloc (.cells l t)).alloc (.cells l' t')).drew.heap[n]? = some (.cells l t (0, 0)) ∧ ((W.alloc (.cells l t)).alloc (.cells l' t')).drew.heap[n + 1]? = some (.cells l' t' (0, 0)) ∧ Below W.heap.size W ((W.alloc (.cells l t)).alloc (.cells l' t')).drew := by
  subst h
  have hb : Below W.heap.size W ((W.alloc (.cells l t)).alloc (.cells l' t')) := ((Below.refl _ W).alloc (Nat.le_refl _) _).alloc (by simp only [World.size_alloc]; omega) _
  refine ⟨?_, ?_, hb.drew⟩
  · exact (Below.heap_alloc _ _ _ (by simp only [World.size_alloc]; omega)).trans (World.alloc_heap_new _ _)
  · have := World.alloc_heap_new (W.alloc (.cells l t)) (.cells l' t'); rw [World.size_alloc] at this; exact this
set_option maxRecDepth 50000 in
set_option maxHeartbeats 6400000 in
theorem compareAt_go (ga oa na ca gea gb ob nb cb geb : Nat) (a b : List Nd) (w0 : World) (HA : Hid (TreeAt w0 ga oa na gea a)) (HB : Hid (TreeAt w0 gb ob nb geb b)) :
    ∀ (f i j : Nat) (w : World), Below w0.heap.size w0 w → 400 - i < f → i < na → j < nb →
    Calls Tryz.prog 24 #[.agg #[.slice (some ⟨ga, oa, none⟩) na ca, .slice (some ⟨gea, 0, none⟩) na na], .agg #[.slice (some ⟨gb, ob, none⟩) nb cb, .slice (some ⟨geb, 0, none⟩) nb nb], .int .i64 (i : Int), .int .i64 (j : Int)] w
      fun e w' => e = .returned (.int .i64 (ordF a b f i j)) ∧ Below w.heap.size w w' := by
  intro f
  induction f with
  | zero => intro i j w _ h; omega
  | succ f ih =>
    intro i j w hw hf hi hj
    obtain ⟨W1, hW1⟩ : ∃ W1, W1 = (w.alloc (.cells #[.slice (some ⟨ga, oa, none⟩) na ca, .slice (some ⟨gea, 0, none⟩) na na] 52)).alloc (.cells #[.slice (some ⟨gb, ob, none⟩) nb cb, .slice (some ⟨geb, 0, none⟩) nb nb] 52) := ⟨_, rfl⟩
    have hsz1 : W1.heap.size = w.heap.size + 2 := by rw [hW1]; simp
    have hb1 : Below w.heap.size w W1 := by rw [hW1]; exact ((Below.refl _ w).alloc (Nat.le_refl _) _).alloc (by simp only [World.size_alloc]; omega) _
    have hbx : W1.heap[w.heap.size]? = some (.cells #[.slice (some ⟨ga, oa, none⟩) na ca, .slice (some ⟨gea, 0, none⟩) na na] 52 (0, 0)) := by
      rw [hW1]; exact (Below.heap_alloc _ _ _ (by simp only [World.size_alloc]; omega)).trans (World.alloc_heap_new _ _)
    have hby : W1.heap[w.heap.size + 1]? = some (.cells #[.slice (some ⟨gb, ob, none⟩) nb cb, .slice (some ⟨geb, 0, none⟩) nb nb] 52 (0, 0)) := by
      rw [hW1]; have := World.alloc_heap_new (w.alloc (.cells #[.slice (some ⟨ga, oa, none⟩) na ca, .slice (some ⟨gea, 0, none⟩) na na] 52)) (.cells #[.slice (some ⟨gb, ob, none⟩) nb cb, .slice (some ⟨geb, 0, none⟩) nb nb] 52); rwa [World.size_alloc] at this
    have hw1 : Below w0.heap.size w0 W1 := hw.trans (hb1.mono hw.size)
    have HBX : Hid (∀ W, Below W1.heap.size W1 W → W.heap[w.heap.size]? = some (.cells #[.slice (some ⟨ga, oa, none⟩) na ca, .slice (some ⟨gea, 0, none⟩) na na] 52 (0, 0)) ∧ W.heap[w.heap.size + 1]? = some (.cells #[.slice (some ⟨gb, ob, none⟩) nb cb, .slice (some ⟨geb, 0, none⟩) nb nb] 52 (0, 0)) ∧
        W.cell? ⟨w.heap.size, 0, none⟩ = some (.slice (some ⟨ga, oa, none⟩) na ca) ∧ W.cell? ⟨w.heap.size, 1, none⟩ = some (.slice (some ⟨gea, 0, none⟩) na na) ∧ W.cell? ⟨w.heap.size + 1, 0, none⟩ = some (.slice (some ⟨gb, ob, none⟩) nb cb) ∧ W.cell? ⟨w.heap.size + 1, 1, none⟩ = some (.slice (some ⟨geb, 0, none⟩) nb nb) ∧ Below w0.heap.size w0 W) := Lib.hid fun W hb => by
      have e1 := (hb.block _ (by omega)).trans hbx
      have e2 := (hb.block _ (by omega)).trans hby
      obtain ⟨x0, x1, _, _⟩ := box_facts e1
      obtain ⟨y0, y1, _, _⟩ := box_facts e2
      exact ⟨e1, e2, x0, x1, y0, y1, hw1.trans (hb.mono hw1.size)⟩
    obtain ⟨x, hx⟩ : ∃ x, a[i]? = some x := ⟨_, List.getElem?_eq_getElem (by rw [HA.out.len]; exact hi)⟩
    obtain ⟨y, hy⟩ : ∃ y, b[j]? = some y := ⟨_, List.getElem?_eq_getElem (by rw [HB.out.len]; exact hj)⟩
    have HNd : Hid (∀ W, Below w0.heap.size w0 W → W.cell? ⟨ga, oa + i * 4, none⟩ = some (.int .i64 x.1) ∧ W.cell? ⟨ga, oa + i * 4 + 1, none⟩ = some (.int .i64 x.2.1) ∧ W.cell? ⟨ga, oa + i * 4 + 2, none⟩ = some (.int .i64 x.2.2.1) ∧ W.cell? ⟨ga, oa + i * 4 + 3, none⟩ = some (.string (str x.2.2.2)) ∧
        W.cell? ⟨gb, ob + j * 4, none⟩ = some (.int .i64 y.1) ∧ W.cell? ⟨gb, ob + j * 4 + 1, none⟩ = some (.int .i64 y.2.1) ∧ W.cell? ⟨gb, ob + j * 4 + 2, none⟩ = some (.int .i64 y.2.2.1) ∧ W.cell? ⟨gb, ob + j * 4 + 3, none⟩ = some (.string (str y.2.2.2))) := Lib.hid fun W hb => by
      obtain ⟨p0, p1, p2, p3⟩ := dcs_at a hx
      obtain ⟨q0, q1, q2, q3⟩ := dcs_at b hy
      have hA := HA.out.below hb
      have hB := HB.out.below hb
      exact ⟨hA.nds _ _ p0, hA.nds _ _ p1, hA.nds _ _ p2, hA.nds _ _ p3, hB.nds _ _ q0, hB.nds _ _ q1, hB.nds _ _ q2, hB.nds _ _ q3⟩
    have HOrd : Hid (ordF a b (f + 1) i j = if ndS x y ≠ 0 then ndS x y else cmpL (ordF a b f) (kidsN (kidsL a) i) (kidsN (kidsL b) j)) := Lib.hid (by
      show (if ndS (ndAt a i) (ndAt b j) ≠ 0 then ndS (ndAt a i) (ndAt b j) else _) = _
      rw [ndAt_of hx, ndAt_of hy])
    have HKL : Hid ((kidsN (kidsL a) i).length ≤ 1000) := Lib.hid (by
      have := kidsN_le HA.out.tr (i := i) (by rw [kidsL_len, HA.out.len]; exact hi)
      rw [kidsL_len, HA.out.len] at this; have := HA.out.le; omega)
    have HCl : Hid (∀ W', Below W1.heap.size W1 W' → ∀ (k x y : Nat), (kidsN (kidsL a) i)[k]? = some x → (kidsN (kidsL b) j)[k]? = some y → ∀ W, Below W'.heap.size W' W → Calls Tryz.prog 53 #[.int .i64 (x : Int), .int .i64 (y : Int), .pointer (some ⟨w.heap.size, 0, none⟩), .pointer (some ⟨w.heap.size + 1, 0, none⟩)] W fun e w' => e = .returned (.int .i64 (ordF a b f x y)) ∧ Below W.heap.size W w') := Lib.hid fun W' hb' k x y hx hy W hb => by
      have hbW := hb'.trans (hb.mono hb'.size)
      obtain ⟨e1, e2, _, _, _, _, e3⟩ := HBX.out W hbW
      have l1 : i < (kidsL a).length := by rw [kidsL_len, HA.out.len]; exact hi
      have l2 : j < (kidsL b).length := by rw [kidsL_len, HB.out.len]; exact hj
      have k1 : k < cnt (kidsL a) i := by have := (List.getElem?_eq_some_iff.1 hx).1; rwa [kidsN_len] at this
      have k2 : k < cnt (kidsL b) j := by have := (List.getElem?_eq_some_iff.1 hy).1; rwa [kidsN_len] at this
      obtain ⟨p1, p2, _⟩ := HA.out.tr.pos_step l1 k1
      obtain ⟨q1, q2, _⟩ := HB.out.tr.pos_step l2 k2
      rw [kidsN_at k1] at hx
      rw [kidsN_at k2] at hy
      rw [kidsL_len, HA.out.len] at p2
      rw [kidsL_len, HB.out.len] at q2
      have hx' := Option.some.inj hx
      have hy' := Option.some.inj hy
      have h400 := HA.out.le
      exact clos_any _ _ _ _ _ _ _ _ _ W e1 e2 (Lib.hid (ih x y W e3 (by omega) (by omega) (by omega)))
    have KA := Lib.hid (fun (W : World) (hb : Below W1.heap.size W1 W) => kids_at (some ⟨ga, oa, none⟩) ca oa ga gea na i a W (HA.out.below (HBX.out W hb).2.2.2.2.2.2) hi)
    have KB := Lib.hid (fun (W : World) (hb : Below W1.heap.size W1 W) => kids_at (some ⟨gb, ob, none⟩) cb ob gb geb nb j b W (HB.out.below (HBX.out W hb).2.2.2.2.2.2) hj)
    have C1 := Lib.hid (cmp_int)
    have C2 := Lib.hid (cmp_i64)
    have C3 := Lib.hid (cmp_str)
    have CO := Lib.hid (or_3)
    obtain ⟨R, hR⟩ : ∃ R, ordF a b (f + 1) i j = R := ⟨_, rfl⟩
    rw [hR] at HOrd ⊢
    have hi0 : (0 : Int) ≤ (i : Int) := Int.natCast_nonneg _
    have hi1 : (i : Int) < (na : Int) := by omega
    have hj0 : (0 : Int) ≤ (j : Int) := Int.natCast_nonneg _
    have hj1 : (j : Int) < (nb : Int) := by omega
    obtain ⟨x0, x1, x2, x3⟩ := x
    obtain ⟨y0, y1, y2, y3⟩ := y
    have HB1 := Lib.hid hb1
    clear ih hx hy hR hbx hby hw hw1 hf hi hj
    go_enter Tryz.func24, Tryz.ntmps24
    go_upto_region 1 with (fail)
    -- MARK1
    rw [← hW1]
    clear hW1 hb1
    obtain ⟨_, _, bx0, bx1, by0, by1, hwW⟩ := HBX.out W1 (Below.refl _ _)
    obtain ⟨u0, u1, u2, u3, v0, v1, v2, v3⟩ := HNd.out W1 hwW
    simp only at u0 u1 u2 u3 v0 v1 v2 v3
    go_cut [9, 10] (fun s9 s10 wx => ∃ p q, s9 = .pointer (some ⟨p, 0, none⟩) ∧ s10 = .pointer (some ⟨q, 0, none⟩) ∧ wx.heap[p]? = some (.cells #[.int .i64 x0, .int .i64 x1, .int .i64 x2, .string (str x3)] 40 (0, 0)) ∧ wx.heap[q]? = some (.cells #[.int .i64 y0, .int .i64 y1, .int .i64 y2, .string (str y3)] 40 (0, 0)) ∧ Below W1.heap.size W1 wx)
    case first =>
      have hga : ga < W1.heap.size := Nat.lt_of_lt_of_le HA.out.lt hwW.size
      have hgb : gb < W1.heap.size := Nat.lt_of_lt_of_le HB.out.lt hwW.size
      have L1 : ∀ (p : Addr) (v : Value), p.block < W1.heap.size → W1.cell? p = some v → (∀ o, (W1.alloc o).cell? p = some v) ∧ (∀ o o', ((W1.alloc o).alloc o').cell? p = some v) := fun p v hp hv => ⟨fun o => (World.cell?_alloc_lt _ _ _ hp).trans hv, fun o o' => (World.cell?_alloc_lt _ _ _ (by rw [World.size_alloc]; omega)).trans ((World.cell?_alloc_lt _ _ _ hp).trans hv)⟩
      obtain ⟨a0, b0⟩ := L1 _ _ hga u0
      obtain ⟨a1, b1⟩ := L1 _ _ hga u1
      obtain ⟨a2, b2⟩ := L1 _ _ hga u2
      obtain ⟨a3, b3⟩ := L1 _ _ hga u3
      obtain ⟨a4, b4⟩ := L1 _ _ hgb v0
      obtain ⟨a5, b5⟩ := L1 _ _ hgb v1
      obtain ⟨a6, b6⟩ := L1 _ _ hgb v2
      obtain ⟨a7, b7⟩ := L1 _ _ hgb v3
      obtain ⟨a8, b8⟩ := L1 ⟨w.heap.size, 0, none⟩ _ (by show w.heap.size < W1.heap.size; omega) bx0
      obtain ⟨a9, b9⟩ := L1 ⟨w.heap.size, 1, none⟩ _ (by show w.heap.size < W1.heap.size; omega) bx1
      obtain ⟨a10, b10⟩ := L1 ⟨w.heap.size + 1, 0, none⟩ _ (by show w.heap.size + 1 < W1.heap.size; omega) by0
      obtain ⟨a11, b11⟩ := L1 ⟨w.heap.size + 1, 1, none⟩ _ (by show w.heap.size + 1 < W1.heap.size; omega) by1
      clear L1
      go_region
      all_goals go_wp2
      all_goals go_meet
      -- MARK2
      all_goals first
        | (have h2 := two_new hsz1 #[.int .i64 x0, .int .i64 x1, .int .i64 x2, .string (str x3)] #[.int .i64 y0, .int .i64 y1, .int .i64 y2, .string (str y3)] 40 40; exact ⟨_, _, rfl, rfl, h2.1, h2.2.1, h2.2.2⟩)
        | (have h2 := two_new hsz1 #[.int .i64 y0, .int .i64 y1, .int .i64 y2, .string (str y3)] #[.int .i64 x0, .int .i64 x1, .int .i64 x2, .string (str x3)] 40 40; exact ⟨_, _, rfl, rfl, h2.2.1, h2.1, h2.2.2⟩)
    case rest =>
      obtain ⟨p, q, rfl, rfl, hp, hq, hbc⟩ := hcut
      clear bx0 bx1 by0 by1 u0 u1 u2 u3 v0 v1 v2 v3
      obtain ⟨p0, p1, p2, p3⟩ := box4_facts hp
      obtain ⟨q0, q1, q2, q3⟩ := box4_facts hq
      go_upto_region 2 with (fail)
      go_cut [11] (fun s11 wx => s11 = .int .i64 (ndS (x0, x1, x2, x3) (y0, y1, y2, y3)) ∧ Below W1.heap.size W1 wx)
      case first =>
        go_region_held3 (fun w' => w'.cell? ⟨p, 0, none⟩ = some (.int .i64 x0) ∧ w'.cell? ⟨p, 2, none⟩ = some (.int .i64 x2) ∧ w'.cell? ⟨p, 3, none⟩ = some (.string (str x3)) ∧ w'.cell? ⟨q, 0, none⟩ = some (.int .i64 y0) ∧ w'.cell? ⟨q, 2, none⟩ = some (.int .i64 y2) ∧ w'.cell? ⟨q, 3, none⟩ = some (.string (str y3))) (go_keep) (first
          | (go_at_call 49; refine (C1.out _ _ _).mono ?_; rintro e w3 ⟨rfl, rfl⟩)
          | (go_at_call 50; refine (C2.out _ _ _).mono ?_; rintro e w3 ⟨rfl, rfl⟩)
          | (go_at_call 51; refine (C3.out _ _ _).mono ?_; rintro e w3 ⟨rfl, rfl⟩)
          | (go_at_call 48; refine (CO.out _ _ _ _).mono ?_; rintro e w3 ⟨rfl, rfl⟩))
        -- MARK3
        all_goals go_wp2
        all_goals go_meet
        all_goals exact ⟨rfl, hbc.drew.alloc hbc.size _⟩
      case rest =>
        obtain ⟨rfl, hb2⟩ := hcut
        clear hp hq hbc p0 p1 p2 p3 q0 q1 q2 q3 C1 C2 C3 CO
        obtain ⟨d, hd⟩ : ∃ d, ndS (x0, x1, x2, x3) (y0, y1, y2, y3) = d := ⟨_, rfl⟩
        rw [hd] at HOrd ⊢
        by_cases hd0 : d = 0
        · subst hd0
          have HF : Hid (R = cmpL (ordF a b f) (kidsN (kidsL a) i) (kidsN (kidsL b) j)) := Lib.hid (by rw [HOrd.out, if_neg (by simp)])
          obtain ⟨na', hna'⟩ : ∃ k, (kidsN (kidsL a) i).length = k := ⟨_, rfl⟩
          obtain ⟨nb', hnb'⟩ : ∃ k, (kidsN (kidsL b) j).length = k := ⟨_, rfl⟩
          rw [hna'] at KA
          rw [hnb'] at KB
          clear hd hna' hnb'
          go_upto_region 5 with (fail)
          -- MARK4
          have hcur : Below W1.heap.size W1 wc.drew := hb2.drew
          obtain ⟨_, _, z0, z1, z2, z3, _⟩ := HBX.out _ hcur
          obtain ⟨_, _, c0, c1, c2, c3, _⟩ := HBX.out _ hb2
          go_region_held3 (fun w' => w'.cell? ⟨w.heap.size, 0, none⟩ = some (.slice (some ⟨ga, oa, none⟩) na ca) ∧ w'.cell? ⟨w.heap.size, 1, none⟩ = some (.slice (some ⟨gea, 0, none⟩) na na) ∧ w'.cell? ⟨w.heap.size + 1, 0, none⟩ = some (.slice (some ⟨gb, ob, none⟩) nb cb) ∧ w'.cell? ⟨w.heap.size + 1, 1, none⟩ = some (.slice (some ⟨geb, 0, none⟩) nb nb)) (go_keep) (first
            | (go_at_call 40; with_reducible refine (KA.out _ hcur).mono ?_; rintro e wA1 ⟨A1, A2, rfl, hn, CA⟩; have hA := Below.refl wA1.heap.size wA1; replace hcur := hcur.trans (hn.mono hcur.size); (try replace hB := hB.trans (hn.mono hB.size)); (try replace hA2 := hA2.trans (hn.mono hA2.size)); (try replace hB2 := hB2.trans (hn.mono hB2.size)); obtain ⟨_, _, z0, z1, z2, z3, _⟩ := HBX.out _ hcur; clear hn)
            | (go_at_call 40; with_reducible refine (KB.out _ hcur).mono ?_; rintro e wB1 ⟨B1, B2, rfl, hn, CB⟩; have hB := Below.refl wB1.heap.size wB1; replace hcur := hcur.trans (hn.mono hcur.size); (try replace hA := hA.trans (hn.mono hA.size)); (try replace hA2 := hA2.trans (hn.mono hA2.size)); (try replace hB2 := hB2.trans (hn.mono hB2.size)); obtain ⟨_, _, z0, z1, z2, z3, _⟩ := HBX.out _ hcur; clear hn)
            | (go_at_call 39; with_reducible refine (CA.out _ hA).mono ?_; rintro e wA2 ⟨g5, c5, rfl, hn, RA⟩; have hA2 := Below.refl wA2.heap.size wA2; replace hcur := hcur.trans (hn.mono hcur.size); (try replace hA := hA.trans (hn.mono hA.size)); (try replace hB := hB.trans (hn.mono hB.size)); (try replace hB2 := hB2.trans (hn.mono hB2.size)); obtain ⟨_, _, z0, z1, z2, z3, _⟩ := HBX.out _ hcur; clear hn)
            | (go_at_call 39; with_reducible refine (CB.out _ hB).mono ?_; rintro e wB2 ⟨g6, c6, rfl, hn, RB⟩; have hB2 := Below.refl wB2.heap.size wB2; replace hcur := hcur.trans (hn.mono hcur.size); (try replace hA := hA.trans (hn.mono hA.size)); (try replace hB := hB.trans (hn.mono hB.size)); (try replace hA2 := hA2.trans (hn.mono hA2.size)); obtain ⟨_, _, z0, z1, z2, z3, _⟩ := HBX.out _ hcur; clear hn)
            | (go_at_call 52; refine (cmpFunc_any _ _ _ _ _ _ _ _ (RA.out _ hA2) (RB.out _ hB2) HKL.out (Lib.hid (HCl.out _ hcur))).mono ?_; rintro e w9 ⟨rfl, hn⟩; replace hcur := hcur.trans (hn.mono hcur.size); obtain ⟨_, _, z0, z1, z2, z3, _⟩ := HBX.out _ hcur))
          -- MARK5
          all_goals go_wp2
          all_goals go_ret
          all_goals exact ⟨by rw [HF.out]; rfl, HB1.out.trans (hcur.mono HB1.out.size)⟩
        · have hne : (d != 0) = true := bne_iff_ne.2 hd0
          have HF : Hid (R = d) := Lib.hid (by rw [HOrd.out, if_pos hd0])
          clear hd hd0
          go_wp2_with fail
          go_ret
          exact ⟨by rw [HF.out]; rfl, HB1.out.trans (hb2.mono HB1.out.size)⟩
end Go.Proofs.YtkngkajojcmmlaaGreatDoor

/- Compare. -/
namespace Go.Proofs.YtkngkajojcmmlaaGreatDoor
open Go.RowKit Go.Shelf Go.PlainAid

def cmpE (a b : List Nd) : Int := if (chkT symS a).2 ≠ 0 then (chkT symS a).2 else (chkT symS b).2
def cmpZ (a b : List Nd) : Int := if cmpE a b ≠ 0 then 0 else ordT a b
/-- What Compare returns. -/
def cmpV (a b : List Nd) : Value := .tuple #[.int .i64 (cmpZ a b), .int .i64 (cmpE a b)]
set_option maxRecDepth 50000 in
set_option maxHeartbeats 3200000 in
theorem Compare_any (v v' : Value) (a b : List Nd) (w : World) (h : NdsAt w v a) (h' : NdsAt w v' b) (KB : KidsB a) (KB' : KidsB b) (T : STabs w) :
    Calls Tryz.prog 7 #[v, v'] w fun e w' => e = .returned (cmpV a b) ∧ Below w.heap.size w w' := by
  have T1 := Lib.hid (treeOf_any symS v a w h (Lib.hid (symAll_of T)) (Lib.hid KB))
  have T2 := Lib.hid (fun W (hW : Below w.heap.size w W) => treeOf_any symS v' b W (h'.below hW (Nat.le_refl _)) (Lib.hid (symAll_of (T.below hW))) (Lib.hid KB'))
  by_cases h1 : (chkT symS a).2 = 0
  · obtain ⟨a1, a2, a3, _⟩ := chkT_ok h1
    obtain ⟨g, o, c, rfl, hg, hc⟩ := h.some a2
    by_cases h2 : (chkT symS b).2 = 0
    · obtain ⟨b1, b2, b3, _⟩ := chkT_ok h2
      obtain ⟨g', o', c', rfl, hg', hc'⟩ := h'.some b2
      have HV : Hid (cmpV a b = .tuple #[.int .i64 (ordF a b 401 0 0), .int .i64 0]) := Lib.hid (by
        have e : cmpE a b = 0 := by unfold cmpE; rw [if_neg (by rw [h1]; simp)]; exact h2
        unfold cmpV cmpZ; rw [e, if_neg (by simp)]; rfl)
      have HCmp : Hid (∀ W ge ge', Below w.heap.size w W → ge < W.heap.size → ge' < W.heap.size → (∀ (j q : Nat), (endsL (kidsL a))[j]? = some q → W.cell? ⟨ge, j, none⟩ = some (.int .i64 (q : Int))) → (∀ (j q : Nat), (endsL (kidsL b))[j]? = some q → W.cell? ⟨ge', j, none⟩ = some (.int .i64 (q : Int))) →
          Calls Tryz.prog 24 #[.agg #[.slice (some ⟨g, o, none⟩) a.length c, .slice (some ⟨ge, 0, none⟩) a.length a.length], .agg #[.slice (some ⟨g', o', none⟩) b.length c', .slice (some ⟨ge', 0, none⟩) b.length b.length], .int .i64 0, .int .i64 0] W fun e w' => e = .returned (.int .i64 (ordF a b 401 0 0)) ∧ Below W.heap.size W w') := Lib.hid fun W ge ge' hW l1 l2 e1 e2 =>
        compareAt_go g o a.length c ge g' o' b.length c' ge' a b W (Lib.hid ⟨rfl, a1, a3, Nat.lt_of_lt_of_le hg hW.size, fun j u hj => (hW.cell (p := ⟨g, o + j, none⟩) hg).trans (hc j u hj), l1, e1⟩) (Lib.hid ⟨rfl, b1, b3, Nat.lt_of_lt_of_le hg' hW.size, fun j u hj => (hW.cell (p := ⟨g', o' + j, none⟩) hg').trans (hc' j u hj), l2, e2⟩) 401 0 0 W (Below.refl _ _) (by omega) (List.length_pos_iff.2 a2) (List.length_pos_iff.2 b2)
      obtain ⟨n, hn⟩ : ∃ n, a.length = n := ⟨_, rfl⟩
      obtain ⟨m, hm⟩ : ∃ m, b.length = m := ⟨_, rfl⟩
      have HN := Lib.hid hn
      have HM := Lib.hid hm
      rw [hn, hm] at HCmp
      rw [hn] at T1 ⊢
      rw [hm] at T2 ⊢
      have H1 := Lib.hid h1
      have H2 := Lib.hid h2
      obtain ⟨R, hR⟩ : ∃ R, ordF a b 401 0 0 = R := ⟨_, rfl⟩
      rw [hR] at HCmp HV
      clear h h' hc hc' KB KB' T h1 h2 a1 a2 a3 b1 b2 b3 hn hm hR
      go_enter Tryz.func7, Tryz.ntmps7
      go_wp2_with fail
      refine T1.out.mono ?_
      rintro e w2 ⟨_, hok, hb2⟩
      obtain ⟨ve, rfl, ge, rfl, hge, hgl, hgc⟩ := hok H1.out
      rw [HN.out]
      have HGC := Lib.hid hgc
      clear hok hgc
      go_wp2_with fail
      -- MARK1
      obtain ⟨W3, hW3⟩ : ∃ W3, W3 = w2.alloc (.cells #[.slice (some ⟨g, o, none⟩) n c, .slice (some ⟨ge, 0, none⟩) n n] 52) := ⟨_, rfl⟩
      have hbk : W3.heap[w2.heap.size]? = some (.cells #[.slice (some ⟨g, o, none⟩) n c, .slice (some ⟨ge, 0, none⟩) n n] 52 (0, 0)) := by rw [hW3]; exact World.alloc_heap_new _ _
      have hb3 : Below w2.heap.size w2 W3 := by rw [hW3]; exact below_b1 _ _
      rw [← hW3]
      clear hW3
      obtain ⟨g6, hg6⟩ : ∃ g6, w2.heap.size = g6 := ⟨_, rfl⟩
      rw [hg6] at hbk
      have hB3 := hb2.trans (hb3.mono hb2.size)
      refine (T2.out W3 hB3).mono ?_
      rintro e w4 ⟨_, hok, hb4⟩
      obtain ⟨ve', rfl, ge', rfl, hge', hgl', hgc'⟩ := hok H2.out
      rw [HM.out]
      have HGC' := Lib.hid hgc'
      have hbk4 := (hb4.block g6 (Array.getElem?_eq_some_iff.1 hbk).1).trans hbk
      have hl4 : g6 < w4.heap.size := (Array.getElem?_eq_some_iff.1 hbk4).1
      have hB4 := hB3.trans (hb4.mono hB3.size)
      have l3 := hb3.size
      have l4 := hb4.size
      have HGC4 : Hid (∀ (j q : Nat), (endsL (kidsL a))[j]? = some q → w4.cell? ⟨ge, j, none⟩ = some (.int .i64 (q : Int))) := Lib.hid fun j q hj => ((hb4.cell (p := ⟨ge, j, none⟩) (by show ge < W3.heap.size; omega)).trans (hb3.cell (p := ⟨ge, j, none⟩) hgl)).trans (HGC.out j q hj)
      obtain ⟨f0, f1, _, _⟩ := box_facts hbk4
      have hne : w4.heap.size ≠ g6 := by omega
      clear hok hgc'
      go_wp2_with fail
      -- MARK2
      obtain ⟨W5, hW5⟩ : ∃ W5, W5 = w4.alloc (.cells #[.slice (some ⟨g', o', none⟩) m c', .slice (some ⟨ge', 0, none⟩) m m] 52) := ⟨_, rfl⟩
      have hb5 : Below w4.heap.size w4 W5 := by rw [hW5]; exact below_b1 _ _
      have l5 := hb5.size
      have hB5 := hB4.trans (hb5.mono hB4.size)
      have CC := Lib.hid (HCmp.out W5 ge ge' hB5 (by omega) (by omega) (fun j q hj => (hb5.cell (p := ⟨ge, j, none⟩) (by show ge < w4.heap.size; omega)).trans (HGC4.out j q hj)) (fun j q hj => (hb5.cell (p := ⟨ge', j, none⟩) (by show ge' < w4.heap.size; omega)).trans (HGC'.out j q hj)))
      rw [← hW5]
      clear hW5 hbk hbk4 HCmp
      refine CC.out.mono ?_
      rintro e w6 ⟨rfl, hb6⟩
      go_wp2_with fail
      -- MARK3
      go_ret2
      exact ⟨(congrArg Ending.returned HV.out).symm, hB5.trans (hb6.mono hB5.size)⟩
    · obtain ⟨e2, he2⟩ : ∃ e2, (chkT symS b).2 = e2 := ⟨_, rfl⟩
      have HV : Hid (cmpV a b = .tuple #[.int .i64 0, .int .i64 e2]) := Lib.hid (by
        have e : cmpE a b = e2 := by unfold cmpE; rw [if_neg (by rw [h1]; simp)]; exact he2
        unfold cmpV cmpZ; rw [e, if_pos (by rw [← he2]; exact h2)])
      have H1 := Lib.hid h1
      have H2 := Lib.hid h2
      have HE := Lib.hid he2
      rw [he2] at h2
      have hne : (e2 != 0) = true := bne_iff_ne.2 h2
      obtain ⟨a', c', rfl⟩ := h'.slice
      obtain ⟨n, hn⟩ : ∃ n, a.length = n := ⟨_, rfl⟩
      obtain ⟨m, hm⟩ : ∃ m, b.length = m := ⟨_, rfl⟩
      have HN := Lib.hid hn
      have HM := Lib.hid hm
      rw [hn] at T1 ⊢
      rw [hm] at T2 ⊢
      clear h h' hc KB KB' T h1 h2 a1 a2 a3 hn hm he2
      go_enter Tryz.func7, Tryz.ntmps7
      go_wp2_with fail
      refine T1.out.mono ?_
      rintro e w2 ⟨_, hok, hb2⟩
      obtain ⟨ve, rfl, ge, rfl, hge, hgl, hgc⟩ := hok H1.out
      rw [HN.out]
      clear hok hgc
      go_wp2_with fail
      obtain ⟨W3, hW3⟩ : ∃ W3, W3 = w2.alloc (.cells #[.slice (some ⟨g, o, none⟩) n c, .slice (some ⟨ge, 0, none⟩) n n] 52) := ⟨_, rfl⟩
      have hb3 : Below w2.heap.size w2 W3 := by rw [hW3]; exact below_b1 _ _
      rw [← hW3]
      clear hW3
      have hB3 := hb2.trans (hb3.mono hb2.size)
      refine (T2.out W3 hB3).mono ?_
      rintro e w4 ⟨hbad, _, hb4⟩
      obtain rfl := hbad H2.out
      rw [HE.out]
      unfold zeroTree
      have hB4 := hB3.trans (hb4.mono hB3.size)
      clear hbad
      go_wp2_with fail
      -- MARK4
      go_ret2
      exact ⟨(congrArg Ending.returned HV.out).symm, hB4.alloc hB4.size _⟩
  · obtain ⟨e2, he2⟩ : ∃ e2, (chkT symS a).2 = e2 := ⟨_, rfl⟩
    have HV : Hid (cmpV a b = .tuple #[.int .i64 0, .int .i64 e2]) := Lib.hid (by
      have e : cmpE a b = e2 := by unfold cmpE; rw [if_pos h1]; exact he2
      unfold cmpV cmpZ; rw [e, if_pos (by rw [← he2]; exact h1)])
    have H1 := Lib.hid h1
    have HE := Lib.hid he2
    rw [he2] at h1
    have hne : (e2 != 0) = true := bne_iff_ne.2 h1
    obtain ⟨a', c', rfl⟩ := h'.slice
    obtain ⟨a0, c0, rfl⟩ := h.slice
    clear h h' KB KB' T h1 he2 T2
    go_enter Tryz.func7, Tryz.ntmps7
    go_wp2_with fail
    refine T1.out.mono ?_
    rintro e w2 ⟨hbad, _, hb2⟩
    obtain rfl := hbad H1.out
    rw [HE.out]
    unfold zeroTree
    clear hbad
    go_wp2_with fail
    -- MARK5
    go_ret2
    exact ⟨(congrArg Ending.returned HV.out).symm, hb2.alloc hb2.size _⟩
end Go.Proofs.YtkngkajojcmmlaaGreatDoor

/- The reference's Same, of any two lists of nodes. -/
namespace Go.Proofs.YtkngkajojcmmlaaGreatDoor
open Go.RowKit Go.PlainAid

theorem nd_parts {x y : Nd} (h : x ≠ y) : (x.1 == y.1) = false ∨ (x.1 = y.1 ∧ (x.2.1 == y.2.1) = false) ∨ (x.1 = y.1 ∧ x.2.1 = y.2.1 ∧ (x.2.2.1 == y.2.2.1) = false) ∨ (x.1 = y.1 ∧ x.2.1 = y.2.1 ∧ x.2.2.1 = y.2.2.1 ∧ ((str x.2.2.2).toList == (str y.2.2.2).toList) = false) := by
  obtain ⟨x0, x1, x2, x3⟩ := x
  obtain ⟨y0, y1, y2, y3⟩ := y
  by_cases h0 : x0 = y0
  · by_cases h1 : x1 = y1
    · by_cases h2 : x2 = y2
      · refine .inr (.inr (.inr ⟨h0, h1, h2, ?_⟩))
        rw [beq_eq_false_iff_ne]
        intro e
        rw [ByteArray.toList_eq, ByteArray.toList_eq, str_list, str_list] at e
        exact h (by rw [h0, h1, h2, show x3 = y3 from e])
      · exact .inr (.inr (.inl ⟨h0, h1, beq_eq_false_iff_ne.2 h2⟩))
    · exact .inr (.inl ⟨h0, beq_eq_false_iff_ne.2 h1⟩)
  · exact .inl (beq_eq_false_iff_ne.2 h0)
set_option maxRecDepth 50000 in
set_option maxHeartbeats 3200000 in
theorem same4_any (v v' : Value) (l m : List Nd) (w : World) (h : NdsAt w v l) (h' : NdsAt w v' m) (hl : l.length ≤ 1000000) :
    Calls Tryz.prog 14 #[v, v'] w fun e w' => e = .returned (.bool (decide (l = m))) ∧ Below w.heap.size w w' := by
  by_cases hlen : l.length = m.length
  · obtain ⟨a, c, hv⟩ := h.slice
    obtain ⟨a', c', hv'⟩ := h'.slice
    obtain ⟨n, hn⟩ : ∃ n, l.length = n := ⟨_, rfl⟩
    rw [hn] at hv
    rw [← hlen, hn] at hv'
    subst hv hv'
    have H := Lib.hid h
    have H' := Lib.hid h'
    have HN := Lib.hid hn
    have HM : Hid (m.length = n) := Lib.hid (by omega)
    have hnb : n ≤ 1000000 := by omega
    have hne : (((n : Int)) != (n : Int)) = false := by simp
    obtain ⟨R, hR⟩ : ∃ R, decide (l = m) = R := ⟨_, rfl⟩
    have HR := Lib.hid hR
    rw [hR]
    clear h h' hn hl hlen hR
    go_enter Tryz.func14, Tryz.ntmps14
    go_wp2
    go_loopw [5] (fun i wr => ∃ k : Nat, k ≤ n ∧ i = .int .i64 k ∧ Hid (l.take k = m.take k) ∧ Below w.heap.size w wr) (fun i _ => n - (intOf i).toNat)
    case atStart => exact ⟨0, Nat.zero_le _, rfl, Lib.hid (by rw [List.take_zero, List.take_zero]), Below.refl _ _⟩
    case round =>
      obtain ⟨k, hk, rfl, HT, hB⟩ := hrel
      by_cases hlt : k < n
      · obtain ⟨x, hx⟩ : ∃ x, l[k]? = some x := ⟨_, List.getElem?_eq_getElem (by rw [HN.out]; exact hlt)⟩
        obtain ⟨y, hy⟩ : ∃ y, m[k]? = some y := ⟨_, List.getElem?_eq_getElem (by rw [HM.out]; exact hlt)⟩
        rcases H.out.below hB (Nat.le_refl _) with ⟨_, _, _, hnil⟩ | ⟨g, off, cc, hv, hg, hcl⟩
        · rw [hnil] at hx; simp at hx
        · rcases H'.out.below hB (Nat.le_refl _) with ⟨_, _, _, hnil⟩ | ⟨g', off', cc', hv', hg', hcl'⟩
          · rw [hnil] at hy; simp at hy
          · obtain ⟨rfl, hv2, rfl⟩ := Value.slice.inj hv
            obtain ⟨rfl, hv3, rfl⟩ := Value.slice.inj hv'
            obtain ⟨p0, p1, p2, p3⟩ := dcs_at l hx
            obtain ⟨q0, q1, q2, q3⟩ := dcs_at m hy
            have d0 := hcl _ _ p0
            have d1 := hcl _ _ p1
            have d2 := hcl _ _ p2
            have d3 := hcl _ _ p3
            have e0 := hcl' _ _ q0
            have e1 := hcl' _ _ q1
            have e2 := hcl' _ _ q2
            have e3 := hcl' _ _ q3
            have hkm : (k : Int) < (n : Int) := by omega
            have hk0 : (0 : Int) ≤ (k : Int) := Int.natCast_nonneg _
            by_cases hxy : x = y
            · have HT2 : Hid (l.take (k + 1) = m.take (k + 1)) := Lib.hid (by rw [List.take_add_one, List.take_add_one, hx, hy, HT.out, hxy])
              subst hxy
              obtain ⟨x0, x1, x2, x3⟩ := x
              obtain ⟨z, hz⟩ : ∃ z, str x3 = z := ⟨_, rfl⟩
              simp only [hz, ← Nat.add_assoc] at d0 d1 d2 d3 e0 e1 e2 e3
              clear hcl hcl' hv hv' hv2 hv3 hx hy p0 p1 p2 p3 q0 q1 q2 q3 hz
              go_wp2
              go_quiet (fail)
              go_wp2
              exact ⟨⟨k + 1, by omega, by go_num, HT2, ⟨hB.os, hB.tape, hB.output, hB.size, hB.block⟩⟩, by simp [intOf]; omega⟩
            · have HF : Hid (R = false) := Lib.hid (by
                rw [← HR.out]
                refine decide_eq_false fun e => hxy ?_
                rw [e, hy] at hx
                exact (Option.some.inj hx).symm)
              have hp := nd_parts hxy
              obtain ⟨x0, x1, x2, x3⟩ := x
              obtain ⟨y0, y1, y2, y3⟩ := y
              simp only at hp
              obtain ⟨z, hz⟩ : ∃ z, str x3 = z := ⟨_, rfl⟩
              obtain ⟨u, hu⟩ : ∃ u, str y3 = u := ⟨_, rfl⟩
              rw [hz, hu] at hp
              simp only [hz, hu, ← Nat.add_assoc] at d0 d1 d2 d3 e0 e1 e2 e3
              clear hcl hcl' hv hv' hv2 hv3 hx hy p0 p1 p2 p3 q0 q1 q2 q3 hz hu hxy
              rcases hp with h0 | ⟨rfl, h1⟩ | ⟨rfl, rfl, h2⟩ | ⟨rfl, rfl, rfl, h3⟩ <;> (
                go_wp2
                go_quiet (fail)
                -- MARK1
                go_wp2
                go_ret
                exact ⟨by rw [HF.out]; rfl, ⟨hB.os, hB.tape, hB.output, hB.size, hB.block⟩⟩)
      · obtain rfl : k = n := by omega
        have HF : Hid (R = true) := Lib.hid (by
          rw [← HR.out]
          have := HT.out
          rw [List.take_of_length_le (Nat.le_of_eq HN.out), List.take_of_length_le (Nat.le_of_eq HM.out)] at this
          exact decide_eq_true this)
        go_wp2
        go_ret
        exact ⟨by rw [HF.out]; rfl, hB⟩
  · obtain ⟨a, c, rfl⟩ := h.slice
    obtain ⟨a', c', rfl⟩ := h'.slice
    have HF : Hid (decide (l = m) = false) := Lib.hid (decide_eq_false fun e => hlen (by rw [e]))
    have hne : ((l.length : Int) != (m.length : Int)) = true := bne_iff_ne.2 (by omega)
    rw [HF.out]
    clear h h' hlen HF
    go_enter Tryz.func14, Tryz.ntmps14
    go_wp2
    go_ret
    exact ⟨rfl, Below.refl _ _⟩
end Go.Proofs.YtkngkajojcmmlaaGreatDoor
