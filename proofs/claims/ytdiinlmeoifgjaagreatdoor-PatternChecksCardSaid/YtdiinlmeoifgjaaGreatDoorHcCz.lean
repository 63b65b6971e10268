import Derived.Test.YtdiinlmeoifgjaaGreatDoorHwz
import Derived.Test.YtdiinlmeoifgjaaGreatDoorHu
import Derived.Maps.OwnIn
import Derived.Test.YtdiinlmeoifgjaaGreatDoorHlg
import Derived.Test.YtdiinlmeoifgjaaGreatDoorHw
import Derived.Test.YtdiinlmeoifgjaaGreatDoorHdp
import Derived.ShutString
import Derived.ChangeOld
import Derived.Below
import Derived.Carry
/- What an input needs at least (mathematics of the reference's need). -/
namespace Go.Proofs.YtdiinlmeoifgjaaGreatDoor

theorem ndP_le {p : List Sx} (h : PatOk p) {i e : Nat} (hin : InL p i e) : ndP p i e ≤ e - i := by
  have h1 := spE_len h _ i 0 e 0 false hin rfl
  unfold ndP
  rw [← spL_nd p.length i 0 e false]
  unfold spE at h1
  rw [← h1]
  unfold cn0
  exact List.length_filter_le _ _
theorem dvG_bd : ∀ (ds : List Bool) (k : Nat), (k : Int) - 1 ≤ (dvG k ds).1 ∧ (dvG k ds).1 ≤ (k : Int) + ds.length := by
  intro ds
  induction ds with
  | nil => intro k; rw [dvG]; simp; omega
  | cons d t ih =>
    intro k
    rw [dvG]
    split
    · simp only [List.length_cons]; omega
    · have := ih (k + 1)
      simp only [List.length_cons]; omega
theorem dvF_bd (ds : List Bool) : -1 ≤ (dvF ds).1 ∧ (dvF ds).1 ≤ ds.length := by
  have := dvG_bd ds 0
  unfold dvF
  omega
theorem elX_len (p : List Sx) (i : Nat) : (elX p i).length = cnt (kidsX p) i - skp i := by unfold elX; rw [List.length_drop, kidsN_len]
theorem elX_at {p : List Sx} {i k : Nat} (hk : skp i + k < cnt (kidsX p) i) : (elX p i)[k]? = some (posK (kidsX p) i (skp i + k)) := by
  unfold elX; rw [List.getElem?_drop]; exact kidsN_at hk
/-- The element's part of what the list needs. -/
theorem nd_el {p : List Sx} (hG : GoodP p) {i k : Nat} (hi : i < p.length) (hl : lstAt p i = true) (hk : skp i + k < cnt (kidsX p) i) :
    ndP p (posK (kidsX p) i (skp i + k)) (endX p i) = (if (dvF (dsX p i)).2.1 = true ∧ ((k : Int) = (dvF (dsX p i)).1 ∨ (k : Int) = (dvF (dsX p i)).1 + 1) then 0 else needX p (posK (kidsX p) i (skp i + k))) + ndP p (posK (kidsX p) i (skp i + (k + 1))) (endX p i) := by
  have hp := hG.toPatOk
  obtain ⟨e, he⟩ : ∃ e, posK (kidsX p) i (skp i + k) = e := ⟨_, rfl⟩
  have hlt := (el_lt hp hi hk)
  have hsm := el_small hp hi hk
  have hnx := el_next hp hi hk
  have hin := el_in (p := p) hi (Nat.le_of_lt hk)
  have hd0 : (dsX p i)[k]? = some (dotAt p e) := by unfold dsX; rw [List.getElem?_map, elX_at hk, he]; rfl
  have hdl : k < (dsX p i).length := (List.getElem?_eq_some_iff.1 hd0).1
  have hat := dvF_at (hG.list hi hl) hdl
  have hd1 : (dsX p i)[k + 1]? = some true ↔ (endX p e < endX p i ∧ dotAt p (endX p e) = true) := by
    rw [← he, hnx]
    by_cases h1 : skp i + (k + 1) < cnt (kidsX p) i
    · have h2 := (el_lt hp hi h1).1
      unfold dsX
      rw [List.getElem?_map, elX_at h1]
      show some (dotAt p (posK (kidsX p) i (skp i + (k + 1)))) = some true ↔ _
      rw [show skp i + k + 1 = skp i + (k + 1) from rfl]
      constructor
      · intro h; exact ⟨h2, Option.some.inj h⟩
      · intro h; rw [h.2]
    · have h2 : skp i + k + 1 = cnt (kidsX p) i := by omega
      constructor
      · intro h
        have := (List.getElem?_eq_some_iff.1 h).1
        unfold dsX at this
        rw [List.length_map, elX_len] at this
        omega
      · rintro ⟨h, _⟩
        rw [h2, el_end hp hi] at h
        exact absurd h (Nat.lt_irrefl _)
  have hC : ((dvF (dsX p i)).2.1 = true ∧ ((k : Int) = (dvF (dsX p i)).1 ∨ (k : Int) = (dvF (dsX p i)).1 + 1)) ↔ (dotAt p e = true ∨ (endX p e < endX p i ∧ dotAt p (endX p e) = true)) := by
    rw [hat, hd0, hd1]
    constructor
    · rintro (h | h)
      · exact .inl (Option.some.inj h)
      · exact .inr h
    · rintro (h | h)
      · exact .inl (by rw [h])
      · exact .inr h
  rw [ndP_step hp hin hlt.1, he]
  rw [show skp i + (k + 1) = skp i + k + 1 from rfl, ← hnx, he]
  congr 1
  by_cases hc : dotAt p e = true ∨ (endX p e < endX p i ∧ dotAt p (endX p e) = true)
  · rw [if_pos hc, if_pos (hC.2 hc)]
  · rw [if_neg hc, if_neg (fun h => hc (hC.1 h))]
    unfold needX
    have hs : skp e = 0 := by unfold skp; rw [if_neg]; rw [he] at hsm; omega
    have hpe : posK (kidsX p) e 0 = e + 1 := posK_start (by rw [kidsX_len, ← he]; exact hlt.2)
    rw [hs, hpe]
    by_cases hle : lstAt p e = true
    · rw [if_pos hle, if_pos hle]
    · rw [if_neg hle, if_neg hle]
theorem need_leaf {p : List Sx} {i : Nat} (h : lstAt p i = false) : needX p i = 1 := by unfold needX; rw [h]; rfl
theorem need_list {p : List Sx} {i : Nat} (h : lstAt p i = true) : needX p i = 1 + skp i + ndP p (posK (kidsX p) i (skp i + 0)) (endX p i) := by unfold needX; rw [if_pos h]; rfl
theorem need_bd {p : List Sx} (hG : GoodP p) {i : Nat} (hi : i < p.length) (hs : lstAt p i = true → skp i ≤ cnt (kidsX p) i) : needX p i ≤ 2002 := by
  have hp := hG.toPatOk
  unfold needX
  split
  · rename_i hl
    have h1 := ndP_le hp (el_in (p := p) hi (hs hl))
    have h2 := (hp.end_bd hi).2
    have h3 := hG.short
    have h4 : skp i ≤ 1 := by unfold skp; split <;> omega
    omega
  · omega
theorem qel_skp {p : List Sx} (h : GoodP p) {i : Nat} (hi : i < p.length) : skp i ≤ cnt (kidsX p) i := by
  unfold skp
  split
  · rename_i h0
    subst h0
    rcases Nat.eq_zero_or_pos (cnt (kidsX p) 0) with h1 | h1
    · have := el_end h.toPatOk hi
      rw [h1, posK_start (by rw [kidsX_len]; exact hi), h.toPatOk.end_0] at this
      have := h.long; omega
    · exact h1
  · exact Nat.zero_le _
/-- The whole: what Fewest gives. -/
theorem need_fw {p : List Sx} (hG : GoodP p) (hl : lstAt p 0 = true) : needX p 0 = fwP p := by
  have hi : 0 < p.length := by have := hG.long; omega
  have hk : 0 < (kidsX p).length := by rw [kidsX_len]; exact hi
  have hc := qel_skp hG hi
  have hs : skp 0 = 1 := rfl
  rw [need_list hl, fwP_nd, hs, hG.toPatOk.end_0]
  have : posK (kidsX p) 0 (1 + 0) = 2 := by
    rw [hs] at hc
    obtain ⟨s1, s2, s3⟩ := hG.tr.pos_step hk (k := 0) hc
    rw [posK_start hk] at s3
    show posK (kidsX p) 0 (0 + 1) = 2
    rw [← s3]; exact hG.one
  rw [this]
-- MARK9
end Go.Proofs.YtdiinlmeoifgjaaGreatDoor

/- Divide: the parts, and the elements. (Written by tools/mkq.py from gen_hpb.py's text.) -/
namespace Go.Proofs.YtdiinlmeoifgjaaGreatDoor
open Go.RowKit Go.PlainAid

theorem results_boxDv {fn : Func} {p q : Tmp} (h : fn.results = #[.cell p 78, .tmp q]) (tmps : Array Value) (W : World) (n : Nat) (a b c e : Value) (tt : TypeId) (hp : tmps.getD p undef = .pointer (some ⟨n, 0, none⟩)) (hq : tmps.getD q undef = e) (hb : W.heap[n]? = some (.cells #[a, b, c] tt (0, 0))) :
    (results fn tmps).run Tryz.prog W = .ok (.tuple #[.agg #[a, b, c], e]) W := by
  obtain ⟨c0, c1, c2, _⟩ := box3F hb
  have hp' : tmps[p]?.getD undef = .pointer (some ⟨n, 0, none⟩) := by simpa using hp
  have hq' : tmps[q]?.getD undef = e := by simpa using hq
  simp [results, h, hp', hq', go_sem, c0, c1, c2]
theorem set3v {W : World} {n : Nat} {x0 x1 x2 : Value} {t : TypeId} {fr : Nat × Nat} (y0 y1 y2 : Value) (h : W.heap[n]? = some (.cells #[x0, x1, x2] t fr)) : (((W.setCell ⟨n, 0, none⟩ y0).setCell ⟨n, 1, none⟩ y1).setCell ⟨n, 2, none⟩ y2).heap[n]? = some (.cells #[y0, y1, y2] t fr) := by
  simp [World.setCell, Array.getElem?_modify, h]
/-- The elements that are looked at, in memory. -/
def DvE (p : List Sx) (i : Nat) (xv : Value) (W : World) : Prop :=
  ∃ xa xc, xv = .slice xa (elX p i).length xc ∧ (0 < (elX p i).length → ∃ gx off, xa = some ⟨gx, off, none⟩ ∧ gx < W.heap.size ∧ ∀ k e : Nat, (elX p i)[k]? = some e → W.cell? ⟨gx, off + k, none⟩ = some (.int .i64 (e : Int)))
def dvV (r : Pt3) : Value := .agg #[.int .i64 r.1, .int .i64 r.2.2, .bool r.2.1]
set_option maxRecDepth 100000 in
set_option maxHeartbeats 12800000 in
theorem Div2_any (v : Value) (p : List Sx) (i : Nat) (w : World) (h : XsAt w v p) (hc : (chkX p).2 = 0) (hG : GoodP p) (hil : i < p.length) :
    Calls Tryz.prog 35 #[v, .int .i64 (i : Int)] w fun e w' => ∃ xv, e = .returned (.tuple #[dvV (dvF (dsX p i)), xv]) ∧ DvE p i xv w' ∧ Below w.heap.size w w' := by
  have HX := Lib.hid (fun W (hW : Below w.heap.size w W) => h.below hW (Nat.le_refl _))
  have CE := Lib.hid (fun W (hW : Below w.heap.size w W) => rElements_any v p i W (HX.out W hW) hc hil)
  obtain ⟨va, vc, rfl, _⟩ := h.slice
  obtain ⟨n, hn⟩ : ∃ n, p.length = n := ⟨_, rfl⟩
  have HN := Lib.hid hn
  obtain ⟨x0, hx0⟩ : ∃ x, p[i]? = some x := ⟨_, List.getElem?_eq_getElem hil⟩
  obtain ⟨g0, o0, rfl, _⟩ := h.node hx0
  have hin : i < n := by rw [← hn]; exact hil
  have hsk := qel_skp hG hil
  have HEl : Hid (∀ x ∈ elX p i, x < n) := Lib.hid fun x hx => by
    obtain ⟨k, hk, rfl⟩ := List.getElem_of_mem hx
    have := ((elX_ok hG.toPatOk hil hsk).step k _ (List.getElem?_eq_getElem hk)).1
    rw [hn] at this; exact this
  obtain ⟨m, hm⟩ : ∃ m, (elX p i).length = m := ⟨_, rfl⟩
  have HMl := Lib.hid hm
  have hmK : m + skp i = cnt (kidsX p) i := by
    rw [← hm]; unfold elX; rw [List.length_drop, kidsN_len]; omega
  have hKn : cnt (kidsX p) i ≤ n := by
    have h1 := hG.tr.pos_mono (by rw [kidsX_len]; exact hil) (d := cnt (kidsX p) i) (k := 0) (by omega)
    rw [Nat.zero_add, el_end hG.toPatOk hil] at h1
    have := (hG.toPatOk.end_bd hil).2
    rw [hn] at this; omega
  have hn2 : n ≤ 2000 := by rw [← hn]; exact hG.short
  have HEa : Hid (∀ k e, (elX p i)[k]? = some e → (kidsN (kidsX p) i)[skp i + k]? = some e) := Lib.hid fun k e he => by
    unfold elX at he; rw [List.getElem?_drop] at he; exact he
  rw [hn] at HX CE ⊢
  obtain ⟨A, hA⟩ : ∃ A, w.heap.size = A := ⟨_, rfl⟩
  obtain ⟨W1, hW1⟩ : ∃ W1, w.alloc (.cells #[.int .i64 0, .int .i64 0, .bool false] 78) = W1 := ⟨_, rfl⟩
  have hb1 : Below A w W1 := by rw [← hW1, ← hA]; exact below_b1 w _
  have hs1 : W1.heap.size = A + 1 := by rw [← hW1, ← hA]; simp
  have HA1 : Hid (W1.heap[A]? = some (.cells #[.int .i64 0, .int .i64 0, .bool false] 78 (0, 0))) := Lib.hid (by rw [← hW1, ← hA]; exact World.alloc_heap_new _ _)
  rw [hA] at HX CE ⊢
  have C1 := Lib.hid (CE.out W1 hb1)
  obtain ⟨K, hK⟩ : ∃ K, cnt (kidsX p) i = K := ⟨_, rfl⟩
  rw [hK] at C1 hmK hKn
  clear CE h hn hx0 hil hG hc hsk hm hK
  by_cases hi0 : i = 0
  · have hie : ((i : Int) == 0) = true := by rw [hi0]; rfl
    have hs : skp i = 1 := by unfold skp; rw [if_pos hi0]
    rw [hs] at hmK HEa
    have hK1 : 1 ≤ K := by omega
    have hK1i : (1 : Int) ≤ (K : Int) := by omega
    clear hi0 hs
    go_enter Tryz.func35, Tryz.ntmps35
    go_wp2_with fail
    refine C1.out.mono ?_
    rintro e w2 ⟨xa, xc, rfl, ho, hb2⟩
    have hw2 := hb1.trans (hb2.mono (by omega))
    have hw2s : A + 1 ≤ w2.heap.size := by rw [← hs1]; exact hb2.size
    have hw2 : Below A w w2 := hw2
    have HBx : Hid (w2.heap[A]? = some (.cells #[.int .i64 0, .int .i64 0, .bool false] 78 (0, 0))) := Lib.hid ((hb2.block A (by omega)).trans HA1.out)
    obtain ⟨gx, rfl, hgB, hgl, hEc⟩ := elc_own ho.out (by omega)
    rw [hs1] at hgB
    have hcap : K ≤ xc := (own_cap ho.out).1
    have hcapi : (K : Int) ≤ (xc : Int) := by omega
    have h1c : (1 : Int) ≤ (xc : Int) := by omega
    have h1cn : 1 ≤ xc := by omega
    have HCe : Hid (0 < m → ∃ g, (some ⟨gx, 1, none⟩ : Option Addr) = some ⟨g, 1, none⟩ ∧ ∀ W, Below w2.heap.size w2 W → ∀ k e : Nat, (elX p i)[k]? = some e → W.cell? ⟨g, 1 + k, none⟩ = some (.int .i64 (e : Int))) := Lib.hid fun _ => ⟨gx, rfl, fun W hW k e he => (hW.cell (p := ⟨gx, 1 + k, none⟩) hgl).trans (hEc _ _ (HEa.out k e he))⟩
    have q1x : True := trivial
    have HFin : Hid (∀ W y0 y1 y2 c, Below w2.heap.size w2 W → DvE p i (.slice (some ⟨gx, 1, none⟩) m c) (((W.setCell ⟨A, 0, none⟩ y0).setCell ⟨A, 1, none⟩ y1).setCell ⟨A, 2, none⟩ y2)) := Lib.hid fun W y0 y1 y2 c hW => by
      refine ⟨_, c, by rw [HMl.out], fun _ => ⟨gx, 1, rfl, by rw [World.size_setCell, World.size_setCell, World.size_setCell]; exact Nat.lt_of_lt_of_le hgl hW.size, fun k e he => ?_⟩⟩
      rw [World.cell?_setCell_far _ _ _ _ (by show A ≠ gx; omega), World.cell?_setCell_far _ _ _ _ (by show A ≠ gx; omega), World.cell?_setCell_far _ _ _ _ (by show A ≠ gx; omega)]
      exact (hW.cell (p := ⟨gx, 1 + k, none⟩) hgl).trans (hEc _ _ (HEa.out k e he))
    clear hW1 ho hb2 hEc
    by_cases hxc : xc = 1
    · obtain rfl : K = 1 := by omega
      obtain rfl : m = 0 := by omega
      subst hxc
      clear HFin
      have HFin : Hid (∀ (W' : World) (xa : Option Addr) (xc : Nat), DvE p i (.slice xa 0 xc) W') := Lib.hid fun W' xa xc => ⟨xa, xc, by rw [HMl.out], fun h => by rw [HMl.out] at h; omega⟩
      have hm0 : ∀ k, (elX p i)[k]? = none := fun k => List.getElem?_eq_none (by rw [HMl.out]; omega)
      go_wp2_with fail
      -- MARKZ
      clear q1x
      have HD2 : Hid (dvF (dsX p i) = (0, false, 0)) := Lib.hid (by
        have : dsX p i = [] := List.length_eq_zero_iff.1 (by unfold dsX; rw [List.length_map, HMl.out])
        rw [this]; rfl)
      clear hm0
      go_loopw [7] (fun x7 wr => x7 = .int .i64 0 ∧ Below w2.heap.size w2 wr) (fun _ _ => 0)
      case atStart => exact ⟨rfl, Below.refl _ _⟩
      case round =>
        obtain ⟨rfl, hb⟩ := hrel
        have hw2z : A ≤ w2.heap.size := by omega
        have hwr := hw2.trans (hb.mono hw2z)
        have hbx3 := (hb.block A (by omega)).trans HBx.out
        obtain ⟨_, _, _, f0, f1, f2⟩ := box3F hbx3
        have HB3 := Lib.hid hbx3
        have HW3 := Lib.hid hwr
        have HBf := Lib.hid hb
        clear hbx3
        go_wp2_with fail
        refine bodyPost_ret (results_boxDv rfl _ _ A _ _ _ _ _ rfl rfl (set3v _ _ _ HB3.out)) rfl ?_
        exact ⟨_, by rw [HD2.out]; rfl, HFin.out _ _ _, ((HW3.out.setCell (by show A ≤ A; omega) _).setCell (by show A ≤ A; omega) _).setCell (by show A ≤ A; omega) _⟩
    · obtain ⟨c2, hc2⟩ : ∃ c, xc - 1 = c := ⟨_, rfl⟩
      have hmk' : (K : Int) - 1 = (m : Int) := by omega
      have hmkn : K - 1 = m := by omega
      go_wp2_with fail
      -- MARKY
      clear q1x
      go_loopw [7] (fun x7 wr => ∃ k : Nat, x7 = .int .i64 (k : Int) ∧ k ≤ m ∧ Hid (dvF (dsX p i) = dvG k ((dsX p i).drop k)) ∧ Below w2.heap.size w2 wr) (fun x7 _ => m - (intOf x7).toNat)
      case atStart => exact ⟨0, rfl, Nat.zero_le _, Lib.hid rfl, Below.refl _ _⟩
      case round =>
        obtain ⟨k, rfl, hk, HD, hb⟩ := hrel
        have hk0 : (0 : Int) ≤ (k : Int) := Int.natCast_nonneg _
        have hw2z : A ≤ w2.heap.size := by omega
        have hwr := hw2.trans (hb.mono hw2z)
        by_cases hlt : k < m
        · have hd1 : decide ((k : Int) < (m : Int)) = true := decide_eq_true (by omega)
          have hk1 : (k : Int) < (m : Int) := by omega
          obtain ⟨gy, hgx, hcell⟩ := HCe.out (by omega)
          obtain rfl : gx = gy := by cases hgx; rfl
          clear hgx
          obtain ⟨e, he⟩ : ∃ e, (elX p i)[k]? = some e := ⟨_, List.getElem?_eq_getElem (by rw [HMl.out]; exact hlt)⟩
          have hxc := hcell wr hb k e he
          have hen : e < n := HEl.out e (List.mem_of_getElem? he)
          have he0 : (0 : Int) ≤ (e : Int) := Int.natCast_nonneg _
          have he1 : (e : Int) < (n : Int) := by omega
          obtain ⟨x, hx⟩ : ∃ x, p[e]? = some x := ⟨_, List.getElem?_eq_getElem (by rw [HN.out]; exact hen)⟩
          obtain ⟨g1, o1, e1, _, y0, y1, y2, y3, y4, y5, y6, y7⟩ := (HX.out wr hwr).node hx
          obtain ⟨rfl, rfl⟩ : g0 = g1 ∧ o0 = o1 := by cases e1; exact ⟨rfl, rfl⟩
          have HDn : Hid (dvF (dsX p i) = if dotsX x = true then ((k : Int) - 1, true, ((m - (k + 1) : Nat) : Int)) else dvG (k + 1) ((dsX p i).drop (k + 1))) := Lib.hid (by
            have h1 : (dsX p i)[k]? = some (dotsX x) := by unfold dsX; rw [List.getElem?_map, he]; exact congrArg some (dotAt_of hx)
            obtain ⟨h2, h3⟩ := List.getElem?_eq_some_iff.1 h1
            have h4 : (dsX p i).length = m := by unfold dsX; rw [List.length_map, HMl.out]
            rw [HD.out, List.drop_eq_getElem_cons h2, h3, dvG, List.length_drop, h4])
          have CD := Lib.hid (fun W => Dots_any x W)
          obtain ⟨x0, x1, x2, x3, x4, x5, x6, x7⟩ := x
          simp only [sxA_open] at CD y0 y1 y2 y3 y4 y5 y6 y7
          obtain ⟨bd, hbd⟩ : ∃ b, dotsX ⟨x0, x1, x2, x3, x4, x5, x6, x7⟩ = b := ⟨_, rfl⟩
          rw [hbd] at CD HDn
          obtain ⟨X, hX⟩ : ∃ S, str x3 = S := ⟨_, rfl⟩
          obtain ⟨Y, hY⟩ : ∃ S, str x4 = S := ⟨_, rfl⟩
          rw [hX] at CD y3
          rw [hY] at CD y4
          clear hx he hbd hX hY hcell e1
          go_wp2_with fail
          refine (CD.out wr).mono ?_
          rintro e w3 ⟨rfl, hb3⟩
          have hb23 := below_step hb hb3
          cases bd
          · have HD2 := Lib.hid (HDn.out.trans (if_neg (by simp)))
            go_wp2_with fail
            exact ⟨⟨k + 1, by go_num, by omega, HD2, hb23⟩, by simp [intOf]; omega⟩
          · have HD2 := Lib.hid (HDn.out.trans (if_pos rfl))
            have hbx3 := (hb23.block A (by omega)).trans HBx.out
            obtain ⟨_, _, _, f0, f1, f2⟩ := box3F hbx3
            have HB3 := Lib.hid hbx3
            have HBf := Lib.hid hb23
            have hmk : (m : Int) - (k : Int) - 1 = ((m - (k + 1) : Nat) : Int) := by omega
            have HW3 := Lib.hid (hw2.trans (hb23.mono hw2z))
            clear hbx3
            go_wp2_with fail
            -- MARKD
            refine bodyPost_ret (results_boxDv rfl _ _ A _ _ _ _ _ rfl rfl (set3v _ _ _ HB3.out)) rfl ?_
            exact ⟨_, by rw [HD2.out]; rfl, HFin.out _ _ _ _ _ HBf.out, ((HW3.out.setCell (by show A ≤ A; omega) _).setCell (by show A ≤ A; omega) _).setCell (by show A ≤ A; omega) _⟩
        · obtain rfl : k = m := by omega
          have hd1 : decide ((k : Int) < (k : Int)) = false := decide_eq_false (by omega)
          have HD2 : Hid (dvF (dsX p i) = ((k : Int), false, 0)) := Lib.hid (by
            rw [HD.out, List.drop_of_length_le (by unfold dsX; rw [List.length_map, HMl.out]; exact Nat.le_refl _)]; rfl)
          have hbx3 := (hb.block A (by omega)).trans HBx.out
          obtain ⟨_, _, _, f0, f1, f2⟩ := box3F hbx3
          have HB3 := Lib.hid hbx3
          have HW3 := Lib.hid hwr
          have HBf := Lib.hid hb
          clear hbx3
          go_wp2_with fail
          -- MARKE
          refine bodyPost_ret (results_boxDv rfl _ _ A _ _ _ _ _ rfl rfl (set3v _ _ _ HB3.out)) rfl ?_
          exact ⟨_, by rw [HD2.out]; rfl, HFin.out _ _ _ _ _ HBf.out, ((HW3.out.setCell (by show A ≤ A; omega) _).setCell (by show A ≤ A; omega) _).setCell (by show A ≤ A; omega) _⟩
  · have hie : ((i : Int) == 0) = false := beq_eq_false_iff_ne.2 (by omega)
    have hs : skp i = 0 := by unfold skp; rw [if_neg hi0]
    rw [hs] at hmK HEa
    obtain rfl : m = K := by omega
    clear hi0 hs
    go_enter Tryz.func35, Tryz.ntmps35
    go_wp2_with fail
    refine C1.out.mono ?_
    rintro e w2 ⟨xa, xc, rfl, ho, hb2⟩
    have hw2 : Below A w w2 := hb1.trans (hb2.mono (by omega))
    have hw2s : A + 1 ≤ w2.heap.size := by rw [← hs1]; exact hb2.size
    have HBx : Hid (w2.heap[A]? = some (.cells #[.int .i64 0, .int .i64 0, .bool false] 78 (0, 0))) := Lib.hid ((hb2.block A (by omega)).trans HA1.out)
    have HCe : Hid (0 < m → ∃ g, xa = some ⟨g, 0, none⟩ ∧ ∀ W, Below w2.heap.size w2 W → ∀ k e : Nat, (elX p i)[k]? = some e → W.cell? ⟨g, k, none⟩ = some (.int .i64 (e : Int))) := Lib.hid fun h0 => by
      obtain ⟨gx, rfl, _, hgl, hEc⟩ := elc_own ho.out h0
      refine ⟨gx, rfl, fun W hW k e he => (hW.cell (p := ⟨gx, k, none⟩) hgl).trans (hEc k e ?_)⟩
      have := HEa.out k e he
      rw [Nat.zero_add] at this; exact this
    have q1x : True := trivial
    have HFin : Hid (∀ W y0 y1 y2 c, Below w2.heap.size w2 W → DvE p i (.slice xa m c) (((W.setCell ⟨A, 0, none⟩ y0).setCell ⟨A, 1, none⟩ y1).setCell ⟨A, 2, none⟩ y2)) := Lib.hid fun W y0 y1 y2 c hW => by
      refine ⟨xa, c, by rw [HMl.out], fun h0 => ?_⟩
      rw [HMl.out] at h0
      obtain ⟨gx, rfl, hgB, hgl, hEc⟩ := elc_own ho.out h0
      rw [hs1] at hgB
      refine ⟨gx, 0, rfl, by rw [World.size_setCell, World.size_setCell, World.size_setCell]; exact Nat.lt_of_lt_of_le hgl hW.size, fun k e he => ?_⟩
      rw [World.cell?_setCell_far _ _ _ _ (by show A ≠ gx; omega), World.cell?_setCell_far _ _ _ _ (by show A ≠ gx; omega), World.cell?_setCell_far _ _ _ _ (by show A ≠ gx; omega)]
      have := HEa.out k e he
      rw [Nat.zero_add] at this ⊢
      exact (hW.cell (p := ⟨gx, k, none⟩) hgl).trans (hEc _ _ this)
    clear hW1 ho hb2
    go_wp2_with fail
    -- MARKX
    clear q1x
    go_loopw [7] (fun x7 wr => ∃ k : Nat, x7 = .int .i64 (k : Int) ∧ k ≤ m ∧ Hid (dvF (dsX p i) = dvG k ((dsX p i).drop k)) ∧ Below w2.heap.size w2 wr) (fun x7 _ => m - (intOf x7).toNat)
    case atStart => exact ⟨0, rfl, Nat.zero_le _, Lib.hid rfl, Below.refl _ _⟩
    case round =>
      obtain ⟨k, rfl, hk, HD, hb⟩ := hrel
      have hk0 : (0 : Int) ≤ (k : Int) := Int.natCast_nonneg _
      have hw2z : A ≤ w2.heap.size := by omega
      have hwr := hw2.trans (hb.mono hw2z)
      by_cases hlt : k < m
      · have hd1 : decide ((k : Int) < (m : Int)) = true := decide_eq_true (by omega)
        have hk1 : (k : Int) < (m : Int) := by omega
        obtain ⟨gx, hgx, hcell⟩ := HCe.out (by omega)
        subst hgx
        obtain ⟨e, he⟩ : ∃ e, (elX p i)[k]? = some e := ⟨_, List.getElem?_eq_getElem (by rw [HMl.out]; exact hlt)⟩
        have hxc := hcell wr hb k e he
        have hen : e < n := HEl.out e (List.mem_of_getElem? he)
        have he0 : (0 : Int) ≤ (e : Int) := Int.natCast_nonneg _
        have he1 : (e : Int) < (n : Int) := by omega
        obtain ⟨x, hx⟩ : ∃ x, p[e]? = some x := ⟨_, List.getElem?_eq_getElem (by rw [HN.out]; exact hen)⟩
        obtain ⟨g1, o1, e1, _, y0, y1, y2, y3, y4, y5, y6, y7⟩ := (HX.out wr hwr).node hx
        obtain ⟨rfl, rfl⟩ : g0 = g1 ∧ o0 = o1 := by cases e1; exact ⟨rfl, rfl⟩
        have HDn : Hid (dvF (dsX p i) = if dotsX x = true then ((k : Int) - 1, true, ((m - (k + 1) : Nat) : Int)) else dvG (k + 1) ((dsX p i).drop (k + 1))) := Lib.hid (by
          have h1 : (dsX p i)[k]? = some (dotsX x) := by unfold dsX; rw [List.getElem?_map, he]; exact congrArg some (dotAt_of hx)
          obtain ⟨h2, h3⟩ := List.getElem?_eq_some_iff.1 h1
          have h4 : (dsX p i).length = m := by unfold dsX; rw [List.length_map, HMl.out]
          rw [HD.out, List.drop_eq_getElem_cons h2, h3, dvG, List.length_drop, h4])
        have CD := Lib.hid (fun W => Dots_any x W)
        obtain ⟨x0, x1, x2, x3, x4, x5, x6, x7⟩ := x
        simp only [sxA_open] at CD y0 y1 y2 y3 y4 y5 y6 y7
        obtain ⟨bd, hbd⟩ : ∃ b, dotsX ⟨x0, x1, x2, x3, x4, x5, x6, x7⟩ = b := ⟨_, rfl⟩
        rw [hbd] at CD HDn
        obtain ⟨X, hX⟩ : ∃ S, str x3 = S := ⟨_, rfl⟩
        obtain ⟨Y, hY⟩ : ∃ S, str x4 = S := ⟨_, rfl⟩
        rw [hX] at CD y3
        rw [hY] at CD y4
        clear hx he hbd hX hY hcell e1
        go_wp2_with fail
        refine (CD.out wr).mono ?_
        rintro e w3 ⟨rfl, hb3⟩
        have hb23 := below_step hb hb3
        cases bd
        · have HD2 := Lib.hid (HDn.out.trans (if_neg (by simp)))
          go_wp2_with fail
          exact ⟨⟨k + 1, by go_num, by omega, HD2, hb23⟩, by simp [intOf]; omega⟩
        · have HD2 := Lib.hid (HDn.out.trans (if_pos rfl))
          have hbx3 := (hb23.block A (by omega)).trans HBx.out
          obtain ⟨_, _, _, f0, f1, f2⟩ := box3F hbx3
          have HB3 := Lib.hid hbx3
          have HBf := Lib.hid hb23
          have hmk : (m : Int) - (k : Int) - 1 = ((m - (k + 1) : Nat) : Int) := by omega
          have HW3 := Lib.hid (hw2.trans (hb23.mono hw2z))
          clear hbx3
          go_wp2_with fail
          -- MARKD
          refine bodyPost_ret (results_boxDv rfl _ _ A _ _ _ _ _ rfl rfl (set3v _ _ _ HB3.out)) rfl ?_
          exact ⟨_, by rw [HD2.out]; rfl, HFin.out _ _ _ _ _ HBf.out, ((HW3.out.setCell (by show A ≤ A; omega) _).setCell (by show A ≤ A; omega) _).setCell (by show A ≤ A; omega) _⟩
      · obtain rfl : k = m := by omega
        have hd1 : decide ((k : Int) < (k : Int)) = false := decide_eq_false (by omega)
        have HD2 : Hid (dvF (dsX p i) = ((k : Int), false, 0)) := Lib.hid (by
          rw [HD.out, List.drop_of_length_le (by unfold dsX; rw [List.length_map, HMl.out]; exact Nat.le_refl _)]; rfl)
        have hbx3 := (hb.block A (by omega)).trans HBx.out
        obtain ⟨_, _, _, f0, f1, f2⟩ := box3F hbx3
        have HB3 := Lib.hid hbx3
        have HW3 := Lib.hid hwr
        have HBf := Lib.hid hb
        clear hbx3
        go_wp2_with fail
        -- MARKE
        refine bodyPost_ret (results_boxDv rfl _ _ A _ _ _ _ _ rfl rfl (set3v _ _ _ HB3.out)) rfl ?_
        exact ⟨_, by rw [HD2.out]; rfl, HFin.out _ _ _ _ _ HBf.out, ((HW3.out.setCell (by show A ≤ A; omega) _).setCell (by show A ≤ A; omega) _).setCell (by show A ≤ A; omega) _⟩
-- MARK9
end Go.Proofs.YtdiinlmeoifgjaaGreatDoor

/- need: what the reference counts. -/
namespace Go.Proofs.YtdiinlmeoifgjaaGreatDoor
open Go.RowKit Go.PlainAid

theorem lstAt_k {p : List Sx} {i : Nat} {x : Sx} (hx : p[i]? = some x) : (x.k != 4) = !lstAt p i := by
  rw [lstAt_of hx]
  by_cases h : x.k = 4
  · rw [h]; rfl
  · rw [bne_iff_ne.2 h]; simp [h]
set_option maxRecDepth 100000 in
set_option maxHeartbeats 12800000 in
theorem need_list_any (p : List Sx) (hc : (chkX p).2 = 0) (hG : GoodP p) (v : Value) (i : Nat) (w : World) (h : XsAt w v p) (hil : i < p.length) (hl : lstAt p i = true)
    (IH : ∀ e, e < p.length → endX p e - e < endX p i - i → ∀ W, Below w.heap.size w W → Calls Tryz.prog 24 #[v, .int .i64 (e : Int)] W fun e' w' => e' = .returned (.int .i64 (needX p e : Int)) ∧ Below W.heap.size W w') :
    Calls Tryz.prog 24 #[v, .int .i64 (i : Int)] w fun e w' => e = .returned (.int .i64 (needX p i : Int)) ∧ Below w.heap.size w w' := by
  have CD := Lib.hid (Div2_any v p i w h hc hG hil)
  have HI := Lib.hid IH
  have HX := Lib.hid (fun W (hW : Below w.heap.size w W) => h.below hW (Nat.le_refl _))
  obtain ⟨va, vc, rfl, _⟩ := h.slice
  obtain ⟨n, hn⟩ : ∃ n, p.length = n := ⟨_, rfl⟩
  obtain ⟨x0, hx0⟩ : ∃ x, p[i]? = some x := ⟨_, List.getElem?_eq_getElem hil⟩
  obtain ⟨g0, o0, rfl, _, xk, _⟩ := h.node hx0
  have hk4 : (x0.k != 4) = false := by rw [lstAt_k hx0, hl]; rfl
  have hsk := qel_skp hG hil
  obtain ⟨m, hm⟩ : ∃ m, (elX p i).length = m := ⟨_, rfl⟩
  have HMl := Lib.hid hm
  have hmK : skp i + m = cnt (kidsX p) i := by rw [← hm, elX_len]; omega
  have HEl := Lib.hid (fun k (hk : k < m) => nd_el hG (k := k) hil hl (by omega))
  have HEa := Lib.hid (fun k (hk : k < m) => elX_at (p := p) (i := i) (k := k) (by omega))
  have HLt := Lib.hid (fun k (hk : k < m) => el_lt hG.toPatOk (j := skp i + k) hil (by omega))
  have HSm := Lib.hid (fun k (hk : k < m) => el_small hG.toPatOk (j := skp i + k) hil (by omega))
  have HNe : Hid (ndP p (posK (kidsX p) i (skp i + m)) (endX p i) = 0) := Lib.hid (by rw [hmK, el_end hG.toPatOk hil]; exact ndP_end p (Nat.le_refl _))
  have HN0 := Lib.hid (need_list (p := p) (i := i) hl)
  have hnb := need_bd hG hil (fun _ => hsk)
  have hdb := dvF_bd (dsX p i)
  have hds : (dsX p i).length = m := by unfold dsX; rw [List.length_map, hm]
  have hn2 : n ≤ 2000 := by rw [← hn]; exact hG.short
  have hm2 : m ≤ 2000 := by
    have h1 := hG.tr.pos_mono (by rw [kidsX_len]; exact hil) (d := cnt (kidsX p) i) (k := 0) (by omega)
    rw [Nat.zero_add, el_end hG.toPatOk hil] at h1
    have := (hG.toPatOk.end_bd hil).2
    rw [hn] at this; omega
  rw [hds] at hdb
  obtain ⟨NX, hNX⟩ : ∃ N, needX p i = N := ⟨_, rfl⟩
  rw [hNX] at HN0 hnb ⊢
  obtain ⟨⟨pb, pr, pa⟩, hdv⟩ : ∃ r, dvF (dsX p i) = r := ⟨_, rfl⟩
  unfold dvV at CD
  rw [hdv] at CD HEl hdb
  simp only at CD HEl hdb
  have hin : i < n := by rw [← hn]; exact hil
  have hi0 : (0 : Int) ≤ (i : Int) := Int.natCast_nonneg _
  have hi1 : (i : Int) < (n : Int) := by omega
  have HNn := Lib.hid hn
  rw [hn] at CD HI HX ⊢
  have wb : IntKind.i64.wrap (pb + 1) = pb + 1 := by rw [IntKind.wrap_i64] <;> omega
  obtain ⟨E, hE⟩ : ∃ E, endX p i = E := ⟨_, rfl⟩
  have HEE := Lib.hid hE
  have HSk : Hid ((skp i : Nat) = if i = 0 then 1 else 0) := Lib.hid rfl
  clear h hn hx0 hil hl hc hG hsk hm hds hdv hmK IH hE
  go_enter Tryz.func24, Tryz.ntmps24
  go_wp2_with fail
  -- MARK1
  refine CD.out.mono ?_
  rintro e w2 ⟨xv, rfl, ⟨xa, xc, rfl, hcell⟩, hb2⟩
  rw [HMl.out] at hcell ⊢
  have hb3 : Below w2.heap.size w2 (w2.alloc (.cells #[.int .i64 pb, .int .i64 pa, .bool pr] 78)) := below_b1 w2 _
  have hx3 := World.alloc_heap_new w2 (.cells #[.int .i64 pb, .int .i64 pa, .bool pr] 78)
  obtain ⟨w3, hw3⟩ : ∃ w3, w2.alloc (.cells #[.int .i64 pb, .int .i64 pa, .bool pr] 78) = w3 := ⟨_, rfl⟩
  have hs3 : w3.heap.size = w2.heap.size + 1 := by rw [← hw3, World.size_alloc]
  rw [hw3] at hb3 hx3
  have HBx : Hid (∀ W, Below w3.heap.size w3 W → W.heap[w2.heap.size]? = some (.cells #[.int .i64 pb, .int .i64 pa, .bool pr] 78 (0, 0))) := Lib.hid fun W hW => (hW.block w2.heap.size (by omega)).trans hx3
  have HC : Hid (0 < m → ∃ gx off, xa = some ⟨gx, off, none⟩ ∧ ∀ W, Below w3.heap.size w3 W → ∀ k e : Nat, (elX p i)[k]? = some e → W.cell? ⟨gx, off + k, none⟩ = some (.int .i64 (e : Int))) := Lib.hid fun h0 => by
    obtain ⟨gx, off, e1, e2, e3⟩ := hcell h0
    refine ⟨gx, off, e1, fun W hW k e he => ?_⟩
    have e4 := hb3.size
    exact (hW.cell (p := ⟨gx, off + k, none⟩) (by show gx < w3.heap.size; omega)).trans ((hb3.cell (p := ⟨gx, off + k, none⟩) (by show gx < w2.heap.size; omega)).trans (e3 k e he))
  have HB3 := Lib.hid (below_step hb2 hb3)
  clear hcell hb2 hb3 hx3
  by_cases hi0' : i = 0
  · have hie : ((i : Int) == 0) = true := by rw [hi0']; rfl
    have HA0 : Hid (2 + ndP p (posK (kidsX p) i (skp i + 0)) (endX p i) = NX) := Lib.hid (by have h1 := HN0.out; have h2 := HSk.out; rw [if_pos hi0'] at h2; omega)
    clear hi0'
    go_wp2_with fail
    -- MARKA
    clear hw3
    go_loopw [5, 8] (fun x5 x8 wr => ∃ k a : Nat, x5 = .int .i64 (a : Int) ∧ x8 = .int .i64 (k : Int) ∧ k ≤ m ∧ Hid (a + ndP p (posK (kidsX p) i (skp i + k)) (endX p i) = NX) ∧ Below w3.heap.size w3 wr) (fun _ x8 _ => m - (intOf x8).toNat)
    case atStart => exact ⟨0, 2, by first | rfl | go_num, rfl, Nat.zero_le _, HA0, Below.refl _ _⟩
    case round =>
      obtain ⟨k, a, rfl, rfl, hk, HA, hb⟩ := hrel
      have hk0 : (0 : Int) ≤ (k : Int) := Int.natCast_nonneg _
      have hbw := below_step HB3.out hb
      by_cases hlt : k < m
      · have hd1 : decide ((k : Int) < (m : Int)) = true := decide_eq_true (by omega)
        have hk1 : (k : Int) < (m : Int) := by omega
        obtain ⟨gx, off, rfl, hcell⟩ := HC.out (by omega)
        obtain ⟨e, hep⟩ : ∃ e, posK (kidsX p) i (skp i + k) = e := ⟨_, rfl⟩
        have hee := HEa.out k hlt
        have h1 := HEl.out k hlt
        have h2 := HLt.out k hlt
        have h3 := HSm.out k hlt
        rw [hep] at hee h1 h2 h3
        have hxc := hcell wr hb k e hee
        have hen : e < n := by rw [← HNn.out]; exact h2.2
        have CR := Lib.hid (HI.out e hen (by omega) wr hbw)
        have he0 : (0 : Int) ≤ (e : Int) := Int.natCast_nonneg _
        have hA := HA.out
        rw [hep, h1] at hA
        have hbx := HBx.out wr hb
        obtain ⟨f0, f1, f2, _⟩ := box3F hbx
        obtain ⟨b1, hb1⟩ : ∃ b, ((k : Int) == pb) = b := ⟨_, rfl⟩
        obtain ⟨b2, hb2⟩ : ∃ b, ((k : Int) == pb + 1) = b := ⟨_, rfl⟩
        have q1 : b1 = true ↔ (k : Int) = pb := by rw [← hb1]; exact beq_iff_eq
        have q2 : b2 = true ↔ (k : Int) = pb + 1 := by rw [← hb2]; exact beq_iff_eq
        have HAA : Hid ((pr = true ∧ (b1 = true ∨ b2 = true) → a + (0 + ndP p (posK (kidsX p) i (skp i + (k + 1))) (endX p i)) = NX) ∧ (¬ (pr = true ∧ (b1 = true ∨ b2 = true)) → a + (needX p e + ndP p (posK (kidsX p) i (skp i + (k + 1))) (endX p i)) = NX)) := Lib.hid ⟨fun hh => by rwa [if_pos ⟨hh.1, hh.2.imp q1.1 q2.1⟩] at hA, fun hh => by rwa [if_neg (fun h => hh ⟨h.1, h.2.imp q1.2 q2.2⟩)] at hA⟩
        clear hee h1 h2 h3 hbx hcell q1 q2 hA hep
        cases pr
        · have HA2 : Hid (a + (needX p e + ndP p (posK (kidsX p) i (skp i + (k + 1))) (endX p i)) = NX) := Lib.hid (HAA.out.2 (by simp))
          have hsum := HA2.out
          have wa : IntKind.i64.wrap ((a : Int) + (needX p e : Int)) = ((a + needX p e : Nat) : Int) := by rw [IntKind.wrap_i64] <;> omega
          have HA3 : Hid (a + needX p e + ndP p (posK (kidsX p) i (skp i + (k + 1))) (endX p i) = NX) := Lib.hid (by omega)
          clear hsum
          go_wp2_with fail
          -- MARKB
          refine CR.out.mono ?_
          rintro e' w5 ⟨rfl, hb5⟩
          have hb35 := below_step hb hb5
          go_wp2_with fail
          exact ⟨⟨k + 1, a + needX p e, by first | rfl | go_num, by go_num, by omega, HA3, hb35⟩, by simp [intOf]; omega⟩
        · cases b1
          · cases b2
            · have HA2 : Hid (a + (needX p e + ndP p (posK (kidsX p) i (skp i + (k + 1))) (endX p i)) = NX) := Lib.hid (HAA.out.2 (by simp))
              have hsum := HA2.out
              have wa : IntKind.i64.wrap ((a : Int) + (needX p e : Int)) = ((a + needX p e : Nat) : Int) := by rw [IntKind.wrap_i64] <;> omega
              have HA3 : Hid (a + needX p e + ndP p (posK (kidsX p) i (skp i + (k + 1))) (endX p i) = NX) := Lib.hid (by omega)
              clear hsum
              go_wp2_with fail
              refine CR.out.mono ?_
              rintro e' w5 ⟨rfl, hb5⟩
              have hb35 := below_step hb hb5
              go_wp2_with fail
              exact ⟨⟨k + 1, a + needX p e, by first | rfl | go_num, by go_num, by omega, HA3, hb35⟩, by simp [intOf]; omega⟩
            · have HA3 : Hid (a + ndP p (posK (kidsX p) i (skp i + (k + 1))) (endX p i) = NX) := Lib.hid (by have := HAA.out.1 (by simp); omega)
              go_wp2_with fail
              -- MARKC
              exact ⟨⟨k + 1, a, rfl, by go_num, by omega, HA3, hb⟩, by simp [intOf]; omega⟩
          · have HA3 : Hid (a + ndP p (posK (kidsX p) i (skp i + (k + 1))) (endX p i) = NX) := Lib.hid (by have := HAA.out.1 (by simp); omega)
            go_wp2_with fail
            exact ⟨⟨k + 1, a, rfl, by go_num, by omega, HA3, hb⟩, by simp [intOf]; omega⟩
      · obtain rfl : k = m := by omega
        have hd1 : decide ((k : Int) < (k : Int)) = false := decide_eq_false (by omega)
        have HF : Hid (a = NX) := Lib.hid (by have := HA.out; rw [HNe.out] at this; omega)
        go_wp2_with fail
        -- MARKE
        go_ret
        exact ⟨congrArg (fun z : Nat => Ending.returned (.int .i64 (z : Int))) HF.out, hbw⟩
  · have hie : ((i : Int) == 0) = false := beq_eq_false_iff_ne.2 (by omega)
    have HA0 : Hid (1 + ndP p (posK (kidsX p) i (skp i + 0)) (endX p i) = NX) := Lib.hid (by have h1 := HN0.out; have h2 := HSk.out; rw [if_neg hi0'] at h2; omega)
    clear hi0'
    go_wp2_with fail
    clear hw3
    go_loopw [5, 8] (fun x5 x8 wr => ∃ k a : Nat, x5 = .int .i64 (a : Int) ∧ x8 = .int .i64 (k : Int) ∧ k ≤ m ∧ Hid (a + ndP p (posK (kidsX p) i (skp i + k)) (endX p i) = NX) ∧ Below w3.heap.size w3 wr) (fun _ x8 _ => m - (intOf x8).toNat)
    case atStart => exact ⟨0, 1, by first | rfl | go_num, rfl, Nat.zero_le _, HA0, Below.refl _ _⟩
    case round =>
      obtain ⟨k, a, rfl, rfl, hk, HA, hb⟩ := hrel
      have hk0 : (0 : Int) ≤ (k : Int) := Int.natCast_nonneg _
      have hbw := below_step HB3.out hb
      by_cases hlt : k < m
      · have hd1 : decide ((k : Int) < (m : Int)) = true := decide_eq_true (by omega)
        have hk1 : (k : Int) < (m : Int) := by omega
        obtain ⟨gx, off, rfl, hcell⟩ := HC.out (by omega)
        obtain ⟨e, hep⟩ : ∃ e, posK (kidsX p) i (skp i + k) = e := ⟨_, rfl⟩
        have hee := HEa.out k hlt
        have h1 := HEl.out k hlt
        have h2 := HLt.out k hlt
        have h3 := HSm.out k hlt
        rw [hep] at hee h1 h2 h3
        have hxc := hcell wr hb k e hee
        have hen : e < n := by rw [← HNn.out]; exact h2.2
        have CR := Lib.hid (HI.out e hen (by omega) wr hbw)
        have he0 : (0 : Int) ≤ (e : Int) := Int.natCast_nonneg _
        have hA := HA.out
        rw [hep, h1] at hA
        have hbx := HBx.out wr hb
        obtain ⟨f0, f1, f2, _⟩ := box3F hbx
        obtain ⟨b1, hb1⟩ : ∃ b, ((k : Int) == pb) = b := ⟨_, rfl⟩
        obtain ⟨b2, hb2⟩ : ∃ b, ((k : Int) == pb + 1) = b := ⟨_, rfl⟩
        have q1 : b1 = true ↔ (k : Int) = pb := by rw [← hb1]; exact beq_iff_eq
        have q2 : b2 = true ↔ (k : Int) = pb + 1 := by rw [← hb2]; exact beq_iff_eq
        have HAA : Hid ((pr = true ∧ (b1 = true ∨ b2 = true) → a + (0 + ndP p (posK (kidsX p) i (skp i + (k + 1))) (endX p i)) = NX) ∧ (¬ (pr = true ∧ (b1 = true ∨ b2 = true)) → a + (needX p e + ndP p (posK (kidsX p) i (skp i + (k + 1))) (endX p i)) = NX)) := Lib.hid ⟨fun hh => by rwa [if_pos ⟨hh.1, hh.2.imp q1.1 q2.1⟩] at hA, fun hh => by rwa [if_neg (fun h => hh ⟨h.1, h.2.imp q1.2 q2.2⟩)] at hA⟩
        clear hee h1 h2 h3 hbx hcell q1 q2 hA hep
        cases pr
        · have HA2 : Hid (a + (needX p e + ndP p (posK (kidsX p) i (skp i + (k + 1))) (endX p i)) = NX) := Lib.hid (HAA.out.2 (by simp))
          have hsum := HA2.out
          have wa : IntKind.i64.wrap ((a : Int) + (needX p e : Int)) = ((a + needX p e : Nat) : Int) := by rw [IntKind.wrap_i64] <;> omega
          have HA3 : Hid (a + needX p e + ndP p (posK (kidsX p) i (skp i + (k + 1))) (endX p i) = NX) := Lib.hid (by omega)
          clear hsum
          go_wp2_with fail
          -- MARKB
          refine CR.out.mono ?_
          rintro e' w5 ⟨rfl, hb5⟩
          have hb35 := below_step hb hb5
          go_wp2_with fail
          exact ⟨⟨k + 1, a + needX p e, by first | rfl | go_num, by go_num, by omega, HA3, hb35⟩, by simp [intOf]; omega⟩
        · cases b1
          · cases b2
            · have HA2 : Hid (a + (needX p e + ndP p (posK (kidsX p) i (skp i + (k + 1))) (endX p i)) = NX) := Lib.hid (HAA.out.2 (by simp))
              have hsum := HA2.out
              have wa : IntKind.i64.wrap ((a : Int) + (needX p e : Int)) = ((a + needX p e : Nat) : Int) := by rw [IntKind.wrap_i64] <;> omega
              have HA3 : Hid (a + needX p e + ndP p (posK (kidsX p) i (skp i + (k + 1))) (endX p i) = NX) := Lib.hid (by omega)
              clear hsum
              go_wp2_with fail
              refine CR.out.mono ?_
              rintro e' w5 ⟨rfl, hb5⟩
              have hb35 := below_step hb hb5
              go_wp2_with fail
              exact ⟨⟨k + 1, a + needX p e, by first | rfl | go_num, by go_num, by omega, HA3, hb35⟩, by simp [intOf]; omega⟩
            · have HA3 : Hid (a + ndP p (posK (kidsX p) i (skp i + (k + 1))) (endX p i) = NX) := Lib.hid (by have := HAA.out.1 (by simp); omega)
              go_wp2_with fail
              -- MARKC
              exact ⟨⟨k + 1, a, rfl, by go_num, by omega, HA3, hb⟩, by simp [intOf]; omega⟩
          · have HA3 : Hid (a + ndP p (posK (kidsX p) i (skp i + (k + 1))) (endX p i) = NX) := Lib.hid (by have := HAA.out.1 (by simp); omega)
            go_wp2_with fail
            exact ⟨⟨k + 1, a, rfl, by go_num, by omega, HA3, hb⟩, by simp [intOf]; omega⟩
      · obtain rfl : k = m := by omega
        have hd1 : decide ((k : Int) < (k : Int)) = false := decide_eq_false (by omega)
        have HF : Hid (a = NX) := Lib.hid (by have := HA.out; rw [HNe.out] at this; omega)
        go_wp2_with fail
        -- MARKE
        go_ret
        exact ⟨congrArg (fun z : Nat => Ending.returned (.int .i64 (z : Int))) HF.out, hbw⟩
set_option maxRecDepth 100000 in
theorem need_leaf_any (p : List Sx) (v : Value) (i : Nat) (w : World) (h : XsAt w v p) (hil : i < p.length) (hl : lstAt p i = false) :
    Calls Tryz.prog 24 #[v, .int .i64 (i : Int)] w fun e w' => e = .returned (.int .i64 (needX p i : Int)) ∧ Below w.heap.size w w' := by
  obtain ⟨va, vc, rfl, _⟩ := h.slice
  obtain ⟨n, hn⟩ : ∃ n, p.length = n := ⟨_, rfl⟩
  obtain ⟨x0, hx0⟩ : ∃ x, p[i]? = some x := ⟨_, List.getElem?_eq_getElem hil⟩
  obtain ⟨g0, o0, rfl, _, xk, _⟩ := h.node hx0
  have hk4 : (x0.k != 4) = true := by rw [lstAt_k hx0, hl]; rfl
  have hi0 : (0 : Int) ≤ (i : Int) := Int.natCast_nonneg _
  have hin : i < n := by rw [← hn]; exact hil
  have hi1 : (i : Int) < (n : Int) := by omega
  rw [need_leaf hl, hn]
  clear h hn hx0 hil hl
  go_enter Tryz.func24, Tryz.ntmps24
  go_wp2_with fail
  go_ret
  exact ⟨rfl, Below.refl _ _⟩
theorem need_any (p : List Sx) (hc : (chkX p).2 = 0) (hG : GoodP p) (v : Value) : ∀ (k i : Nat) (w : World), XsAt w v p → i < p.length → endX p i - i ≤ k →
    Calls Tryz.prog 24 #[v, .int .i64 (i : Int)] w fun e w' => e = .returned (.int .i64 (needX p i : Int)) ∧ Below w.heap.size w w' := by
  intro k
  induction k with
  | zero =>
    intro i w _ hi hk
    have := (hG.toPatOk.end_bd hi).1
    omega
  | succ k ih =>
    intro i w h hi hk
    cases hl : lstAt p i with
    | false => exact need_leaf_any p v i w h hi hl
    | true => exact need_list_any p hc hG v i w h hi hl (fun e he hlt W hW => ih e W (h.below hW (Nat.le_refl _)) he (by omega))
-- MARK9
end Go.Proofs.YtdiinlmeoifgjaaGreatDoor

/- Fewest: the program. -/
namespace Go.Proofs.YtdiinlmeoifgjaaGreatDoor
open Go.RowKit Go.Shelf Go.PlainAid

attribute [local go_sem] Oper.semAt_some

/-- What Fewest gives. -/
def fwT (p : List Sx) (L : List Pid) : Int × Int := if (rdP p L).2.2 ≠ 0 then (0, (rdP p L).2.2) else ((fwP p : Int), 0)
theorem results_boxN {fn : Func} {p q : Tmp} (h : fn.results = #[.cell p 3, .tmp q]) (tmps : Array Value) (W : World) (n : Nat) (a e : Value) (hp : tmps.getD p undef = .pointer (some ⟨n, 0, none⟩)) (hq : tmps.getD q undef = e) (hb : W.cell? ⟨n, 0, none⟩ = some a) :
    (results fn tmps).run Tryz.prog W = .ok (.tuple #[a, e]) W := by
  have hp' : tmps[p]?.getD undef = .pointer (some ⟨n, 0, none⟩) := by simpa using hp
  have hq' : tmps[q]?.getD undef = e := by simpa using hq
  simp [results, h, hp', hq', go_sem, hb]
/-- In the loop: what was counted, of the spots so far. -/
structure NdS (A : Nat) (p : List Sx) (w4 : World) (pre : List Spt) (W : World) : Prop where
  box : W.heap[A + 1]? = some (.cells #[.int .i64 ((2 + cn0 p pre : Nat) : Int)] 3 (0, 0))
  bel : Below (A + 1) w4 W
def NdI (A : Nat) (p : List Sx) (w4 : World) (pre : List Spt) (C : Nat → Prop) (W : World) : Prop := C = (fun _ => False) ∧ NdS A p w4 pre W
theorem NdS.grown {A : Nat} {p : List Sx} {w4 : World} {pre : List Spt} {W W' : World} {row : Option Nat} {B : Nat} (h : NdS A p w4 pre W) (hg : W.grownBy W' row) (hB : A + 1 < B) (hr : ∀ r, row = some r → B ≤ r) : NdS A p w4 pre W' := by
  have hl := (Array.getElem?_eq_some_iff.1 h.box).1
  refine ⟨(hg.block (A + 1) hl (fun e => by have := hr (A + 1) e.symm; omega)).trans h.box, h.bel.grown hg (by omega) (fun k hk => by have := hr k hk; omega)⟩
theorem cn0_le (p : List Sx) (l : List Spt) : cn0 p l ≤ l.length := by unfold cn0; exact List.length_filter_le _ _
theorem cn0_snoc (p : List Sx) (l : List Spt) (z : Spt) : cn0 p (l ++ [z]) = cn0 p l + (if z.2.1 = 0 ∧ dotAt p z.1 = false then 1 else 0) := by rw [cn0_app, cn0_cons]; rfl
-- MARKM
set_option maxRecDepth 100000 in
set_option maxHeartbeats 12800000 in
theorem Fewest_any (v u : Value) (p : List Sx) (L : List Pid) (w : World) (h : XsAt w v p) (hs : SmX p) (hi : InX p) (T : STabs w) (hu : PsAt w u L) (hsl : SmL L) (hll : L.length ≤ 100000) :
    Calls Tryz.prog 12 #[v, u] w fun e w' => e = .returned (two64 (fwT p L)) ∧ Below w.heap.size w w' := by
  have HX := Lib.hid (fun W (hW : Below w.heap.size w W) => h.below hW (Nat.le_refl _))
  have CC := Lib.hid (fun W (hW : Below w.heap.size w W) => Check_any v u p L W (HX.out W hW) hs hi (T.below hW) (hu.below hW (Nat.le_refl _)) hsl hll)
  obtain ⟨va, vc, rfl, _⟩ := h.slice
  obtain ⟨ua, uc, rfl, _⟩ := hu.slice
  obtain ⟨n, hn⟩ : ∃ n, p.length = n := ⟨_, rfl⟩
  obtain ⟨um, hum⟩ : ∃ n, L.length = n := ⟨_, rfl⟩
  have HN := Lib.hid hn
  rw [hn] at HX CC ⊢
  rw [hum] at CC ⊢
  obtain ⟨A, hA⟩ : ∃ A, w.heap.size = A := ⟨_, rfl⟩
  obtain ⟨W1, hW1⟩ : ∃ W1, (w.alloc (.cells #[.slice va n vc] 22)).alloc (.cells #[.int .i64 0] 3) = W1 := ⟨_, rfl⟩
  have hb1 : Below A w W1 := by rw [← hW1, ← hA]; exact (below_b1 w _).alloc (by rw [World.size_alloc]; omega) _
  have hs1 : W1.heap.size = A + 2 := by rw [← hW1, ← hA]; simp
  have HA1 : Hid (W1.heap[A]? = some (.cells #[.slice va n vc] 22 (0, 0)) ∧ W1.heap[A + 1]? = some (.cells #[.int .i64 0] 3 (0, 0))) := Lib.hid (by
    rw [← hW1, ← hA]
    refine ⟨(Below.heap_alloc _ _ _ (by rw [World.size_alloc]; omega)).trans (World.alloc_heap_new _ _), ?_⟩
    have := World.alloc_heap_new (w.alloc (.cells #[.slice va n vc] 22)) (.cells #[.int .i64 0] 3)
    rw [World.size_alloc] at this; exact this)
  have HAo : Hid (∀ W, Below W1.heap.size W1 W → W.heap[A]? = some (.cells #[.slice va n vc] 22 (0, 0)) ∧ W.heap[A + 1]? = some (.cells #[.int .i64 0] 3 (0, 0))) := Lib.hid fun W hW => ⟨(hW.block A (by omega)).trans HA1.out.1, (hW.block (A + 1) (by omega)).trans HA1.out.2⟩
  obtain ⟨⟨vv, n1, e1⟩, hr⟩ : ∃ r, rdP p L = r := ⟨_, rfl⟩
  have HRd := Lib.hid hr
  unfold two64 at CC
  rw [hr] at CC
  simp only at CC
  have HGA : Hid (∀ g off, va = some ⟨g, off, none⟩ → 0 < n → g < A) := Lib.hid fun g off e h0 => by
    obtain ⟨x, hx⟩ : ∃ x, p[0]? = some x := ⟨_, List.getElem?_eq_getElem (by rw [hn]; exact h0)⟩
    obtain ⟨g', off', e', hg', _⟩ := h.node hx
    rw [e] at e'; cases e'; rw [← hA]; exact hg'
  rw [hA] at HX CC ⊢
  have CK := Lib.hid (CC.out W1 hb1)
  obtain ⟨RR, hRR⟩ : ∃ R, two64 (fwT p L) = R := ⟨_, rfl⟩
  have HR := Lib.hid hRR
  rw [hRR]
  clear h hs hi T hn hRR CC hr hu hum hsl hll
  have hs1' : A + 1 < W1.heap.size := by omega
  have HB0 := Lib.hid hb1
  by_cases he : e1 = 0
  case neg =>
    have HRe : Hid (RR = .tuple #[.int .i64 0, .int .i64 e1]) := Lib.hid (by rw [← HR.out]; unfold fwT two64; rw [HRd.out, if_pos he])
    have hne : (e1 != 0) = true := bne_iff_ne.2 he
    obtain ⟨k0, _⟩ := box1F HA1.out.1
    clear he
    go_enter Tryz.func12, Tryz.ntmps12
    go_wp2_with fail
    refine CK.out.mono ?_
    rintro e w2 ⟨rfl, hb2⟩
    obtain ⟨h2a, h2b⟩ := HAo.out w2 hb2
    obtain ⟨r0, f0⟩ := box1F h2b
    have HB2 := Lib.hid (HB0.out.trans (hb2.mono (by omega)))
    have H2b := Lib.hid h2b
    clear hW1 h2a h2b hb2
    go_wp2_with fail
    -- MARK1
    refine bodyPost_ret (results_boxN rfl _ _ (A + 1) _ _ rfl rfl (box1F (set1 (.int .i64 0) H2b.out)).1) rfl ?_
    exact ⟨congrArg Ending.returned HRe.out.symm, HB2.out.setCell (by show A ≤ A + 1; omega) _⟩
  subst he
  have hG := rdP_good (p := p) (L := L) (by rw [HRd.out])
  have HRe : Hid (RR = .tuple #[.int .i64 (fwP p : Int), .int .i64 0]) := Lib.hid (by rw [← HR.out]; unfold fwT two64; rw [HRd.out, if_neg (by simp)])
  have hHd : HdOk p := hG.toHdOk
  have HHd := Lib.hid hHd
  have hn2' : 2 ≤ n := by rw [← HN.out]; exact hHd.long
  have hn2 : n ≤ 2000 := by rw [← HN.out]; exact hG.short
  have HSpL : Hid ((spP p).length ≤ 2000) := Lib.hid (by
    rw [← spP_M hHd]
    exact Nat.le_trans (spM_len p _ _ _) (by have := hHd.short; omega))
  have HKid : Hid (∀ x ∈ p, 0 ≤ x.c) := Lib.hid (by
    have : (chkX p).2 = 0 := by
      have h1 := HRd.out
      unfold rdP at h1
      by_cases h2 : (hdP p).2 = 0
      · unfold hdP at h2
        by_cases h3 : (chkX p).2 = 0
        · exact h3
        · rw [if_pos h3] at h2; exact absurd h2 h3
      · rw [if_pos h2] at h1; exact absurd (congrArg (·.2.2) h1) h2
    exact chkX_kids this)
  obtain ⟨x0, hx0⟩ : ∃ x, p[0]? = some x := ⟨_, List.getElem?_eq_getElem (by rw [HN.out]; omega)⟩
  obtain ⟨g0, o0, rfl, _⟩ := (HX.out w (Below.refl _ _)).node hx0
  have hgA : g0 < A := HGA.out g0 o0 rfl (by omega)
  obtain ⟨k0, _⟩ := box1F HA1.out.1
  clear hG hx0 hHd
  refine (callsIn_wide (n := 5)).1 ?_
  refine callsIn_of_wp_marks Tryz.func12 rfl trivial ?_ rfl
  simp only [Tryz.ntmps12, List.size_toArray, List.length_cons, List.length_nil, Nat.reduceAdd, Nat.reduceSub, Array.replicate_succ, Array.replicate_zero, List.push_toArray, List.append_toArray, List.nil_append, List.cons_append]
  gi_wp2
  refine ⟨trivial, (callsIn_wide.2 CK.out).mono ?_⟩
  rintro e w2 ⟨rfl, hb2⟩
  obtain ⟨h2a, h2b⟩ := HAo.out w2 hb2
  have HB2 := Lib.hid (HB0.out.trans (hb2.mono (by omega)))
  have hs2 : A + 2 ≤ w2.heap.size := by rw [← hs1]; exact hb2.size
  obtain ⟨A8, hA8⟩ : ∃ A8, w2.heap.size = A8 := ⟨_, rfl⟩
  obtain ⟨q0, q1⟩ := box1F h2b
  obtain ⟨w3, hw3⟩ : ∃ w3, w2.setCell ⟨A + 1, 0, none⟩ (.int .i64 2) = w3 := ⟨_, rfl⟩
  have hs3 : w3.heap.size = A8 := by rw [← hw3, World.size_setCell, hA8]
  have h3a : w3.heap[A]? = some (.cells #[.slice (some ⟨g0, o0, none⟩) n vc] 22 (0, 0)) := by rw [← hw3]; exact set1o _ (by omega) h2a
  have h3b : w3.heap[A + 1]? = some (.cells #[.int .i64 2] 3 (0, 0)) := by rw [← hw3]; exact set1 _ h2b
  have HB3 : Hid (Below A w w3) := Lib.hid (by rw [← hw3]; exact HB2.out.setCell (by show A ≤ A + 1; omega) _)
  obtain ⟨k3, _⟩ := box1F h3a
  clear hW1 h2a h2b
  gi_wp2
  -- MARK2
  refine ⟨trivial, (callsIn_wide.2 (spots_mk _ _ _ _)).mono ?_⟩
  rintro e w4' ⟨rfl, rfl⟩
  obtain ⟨w4, hw4⟩ : ∃ w4, w3.alloc (.cells #[.slice (some ⟨g0, o0, none⟩) n vc] 22) = w4 := ⟨_, rfl⟩
  have hs4 : w4.heap.size = A8 + 1 := by rw [← hw4, World.size_alloc, hs3]
  have hb4 : Below A8 w3 w4 := by rw [← hw4, ← hs3]; exact below_b1 _ _
  have hBp : w4.heap[A8]? = some (.cells #[.slice (some ⟨g0, o0, none⟩) n vc] 22 (0, 0)) := by rw [← hw4, ← hs3]; exact World.alloc_heap_new _ _
  have HAw4 : Hid (Below A w w4) := Lib.hid (HB3.out.trans (hb4.mono (by omega)))
  have HO4 : Hid (w4.heap[A]? = some (.cells #[.slice (some ⟨g0, o0, none⟩) n vc] 22 (0, 0))) := Lib.hid ((hb4.block A (by omega)).trans h3a)
  have hx4 : w4.heap[A + 1]? = some (.cells #[.int .i64 2] 3 (0, 0)) := (hb4.block (A + 1) (by omega)).trans h3b
  rw [hw4]
  have hseq := spots_seq A8 g0 o0 n vc p (fun b => b = A8 ∨ b = g0) 4 (by omega) w4 ⟨.inl rfl, .inr rfl⟩ (fun b hb => by omega) hBp (HX.out w4 HAw4.out) HHd.out (fun x hx => HKid.out x hx)
  have HI0 : Hid (NdI A p w4 [] (fun _ => False) w4) := Lib.hid ⟨rfl, ⟨hx4, Below.refl _ _⟩⟩
  clear hw3 hw4 hx4 hb4 hBp k0 k3 hb2 h3a h3b q0 q1
  gi_wp2
  -- MARK3
  refine wpIn_rangeC (by omega) rfl (enters_of Tryz.func32 (by kernel_rfl) rfl) hseq (Below.refl _ _) (fun b hb => by omega) (fun _ => rfl)
    (NdI A p w4) (fun _ _ _ _ => False) (by
      rw [hs4]
      rintro s C W W' row ⟨rfl, h⟩ hg hr
      exact ⟨rfl, h.grown hg (B := A8 + 1) (by omega) (fun r e => (hr r e).1)⟩) (fun c => by intro s C W W' row h _ _; exact h.elim) (by
      rintro s C W ⟨rfl, _⟩ r hr; exact hr.elim) (fun c s C W h => h.elim) (fun _ => False) HI0.out
    (fun pre x C a W => C = (fun _ => False) ∧ NdS A p w4 pre W ∧ ∃ bx, W.heap[bx]? = some (.cells #[.int .i64 (x.2.1 : Int), .bool x.2.2] 59 (0, 0)) ∧ A8 + 3 ≤ bx ∧ ∃ u0 u1 u3 u5 u6 u7 u10 u11 u12 u13 u14 u15 u16 u17 u18 u19 u20 u21 u22 u23 u24 u25 u26 u27 u28 u29 u30 u31 u32 u33 u34 u35 u36 : Value, a = { tmps := #[u0, u1, .pointer (some ⟨A, 0, none⟩), u3, .pointer (some ⟨A + 1, 0, none⟩), u5, u6, u7, .int .i64 (x.1 : Int), .pointer (some ⟨bx, 0, none⟩), u10, u11, u12, u13, u14, u15, u16, u17, u18, u19, u20, u21, u22, u23, u24, u25, u26, u27, u28, u29, u30, u31, u32, u33, u34, u35, u36], defers := [] }) ?_ ?_ ?_ ?_ ?_
  · rw [hs4]
    rintro pre x C a W W' ⟨rfl, h, bx, h2, h3, hrest⟩ hg
    exact ⟨rfl, h.grown hg (B := A8 + 1) (by omega) (fun r e => by cases e; omega), bx, (hg.block bx (Array.getElem?_eq_some_iff.1 h2).1 (fun e => by have := Option.some.inj e; omega)).trans h2, h3, hrest⟩
  · rw [hs4]
    rintro l pre x C W K ⟨rfl, h1⟩ hW hK
    dsimp only [encS]
    gi_wp2
    -- MARK4
    exact hK _ _ (fun _ => False) (KeepsC.below (below_b1 W _) (fun b hb => by omega)) ⟨rfl, h1.grown (World.grownBy_alloc W _ none) (B := A8 + 1) (by omega) (fun r e => by cases e), W.heap.size, World.alloc_heap_new _ _, by omega, _, _, _, _, _, _, _, _, _, _, _, _, _, _, _, _, _, _, _, _, _, _, _, _, _, _, _, _, _, _, _, _, _, rfl⟩
  · rw [hs4]
    rintro l pre ⟨i, d, sg⟩ C a W ⟨rfl, hS, bx, hbx, hbxl, u0, u1, u3, u5, u6, u7, u10, u11, u12, u13, u14, u15, u16, u17, u18, u19, u20, u21, u22, u23, u24, u25, u26, u27, u28, u29, u30, u31, u32, u33, u34, u35, u36, rfl⟩ hW hGx
    dsimp only at hbx hbxl ⊢
    have hpl : pre.length ≤ 2000 := by
      have h1 := hGx.length_le
      have h2 := HSpL.out
      rw [List.length_append] at h1; omega
    have hin : i < n := by
      have h1 : SpIn p (spP p) := spE_in HHd.out.toPatOk _ _ _ _ _ _ HHd.out.inl rfl
      obtain ⟨rest, hrest⟩ := hGx
      have := h1 (i, d, sg) (by rw [← hrest]; simp)
      rw [← HN.out]; exact this
    obtain ⟨y, hy⟩ : ∃ y, p[i]? = some y := ⟨_, List.getElem?_eq_getElem (by rw [HN.out]; exact hin)⟩
    have hAW : Below A w W := HAw4.out.trans (hS.bel.mono (by omega))
    obtain ⟨g1, o1, e1, _, y0, y1, y2, y3, y4, y5, y6, y7⟩ := (HX.out W hAW).node hy
    obtain ⟨rfl, rfl⟩ : g0 = g1 ∧ o0 = o1 := by cases e1; exact ⟨rfl, rfl⟩
    obtain ⟨ka, _⟩ := box1F ((hS.bel.block A (by omega)).trans HO4.out)
    have CE := Lib.hid (fun W => isEll_any y W)
    have HDt : Hid (dotAt p i = dotsX y) := Lib.hid (dotAt_of hy)
    have HPn := Lib.hid (cn0_snoc p pre (i, d, sg))
    have hcl := cn0_le p pre
    obtain ⟨c, hc⟩ : ∃ c, 2 + cn0 p pre = c := ⟨_, rfl⟩
    have HBx : Hid (∀ W', Below W.heap.size W W' → W'.heap[A + 1]? = some (.cells #[.int .i64 (c : Int)] 3 (0, 0))) := Lib.hid fun W' hW' => (hW'.block (A + 1) (by have := hS.bel.size; omega)).trans (by rw [← hc]; exact hS.box)
    have HSb := Lib.hid hS.bel
    have hWs : A8 + 1 ≤ W.heap.size := by have := hS.bel.size; omega
    have HC1 : Hid ((d = 0 ∧ dotAt p i = false → 2 + cn0 p (pre ++ [(i, d, sg)]) = c + 1) ∧ (¬ (d = 0 ∧ dotAt p i = false) → 2 + cn0 p (pre ++ [(i, d, sg)]) = c)) := Lib.hid ⟨fun h => by rw [HPn.out, if_pos h]; omega, fun h => by rw [HPn.out, if_neg h]; omega⟩
    obtain ⟨z0, _⟩ := box2F hbx
    obtain ⟨y0', y1', y2', y3', y4', y5', y6', y7'⟩ := y
    simp only [sxA_open] at CE y0 y1 y2 y3 y4 y5 y6 y7
    obtain ⟨bd, hbd⟩ : ∃ b, dotsX ⟨y0', y1', y2', y3', y4', y5', y6', y7'⟩ = b := ⟨_, rfl⟩
    rw [hbd] at CE HDt
    obtain ⟨X, hX⟩ : ∃ S, str y3' = S := ⟨_, rfl⟩
    obtain ⟨Y, hY⟩ : ∃ S, str y4' = S := ⟨_, rfl⟩
    rw [hX] at CE y3
    rw [hY] at CE y4
    have hx0 : (0 : Int) ≤ (i : Int) := Int.natCast_nonneg _
    have hx1 : (i : Int) < (n : Int) := by omega
    have wb : IntKind.i64.wrap ((c : Int) + 1) = ((c + 1 : Nat) : Int) := by rw [IntKind.wrap_i64] <;> omega
    have HKp : Hid (∀ W' W'', Below W.heap.size W W' → W'.heap.size ≤ W''.heap.size → (∀ k, k ≠ A + 1 → W''.heap[k]? = W'.heap[k]?) → KeepsC (fun b => b = A8 ∨ b = g0) (A8 + 1) (fun _ => False) (fun _ => False) W W'') := Lib.hid fun W' W'' h1 h2 h3 => by
      refine ⟨Nat.le_trans h1.size h2, fun r hr => ?_, fun r _ h => h⟩
      have hr1 : r < W.heap.size ∧ r ≠ A + 1 := by
        rcases hr with (hr | hr) | ⟨a, b, _⟩
        · omega
        · omega
        · omega
      exact (h3 r hr1.2).trans (h1.block r hr1.1)
    have hcs := HBx.out W (Below.refl _ _)
    have HCS := Lib.hid hcs
    clear hc hy hbd hX hY hS hGx e1 hbx hcl hcs
    by_cases hd : d = 0
    case neg =>
      have hdb : ((d : Int) == 0) = false := beq_eq_false_iff_ne.2 (by omega)
      have HC2 : Hid (2 + cn0 p (pre ++ [(i, d, sg)]) = c) := Lib.hid (HC1.out.2 (fun h => hd h.1))
      clear hd
      gi_wp2
      refine ⟨trivial, ?_⟩
      gi_wp2
      -- MARK5
      refine ⟨fun _ => False, HKp.out W _ (Below.refl _ _) (Nat.le_refl _) (fun k _ => rfl), rfl, ⟨?_, HSb.out⟩⟩
      rw [HC2.out]
      exact HCS.out
    have hdb : ((d : Int) == 0) = true := by rw [hd]; rfl
    gi_wp2
    -- MARK6
    refine ⟨trivial, (CallsIn.inRound l (callsIn_wide.2 (CE.out _))).mono ?_⟩
    rintro e wq ⟨rfl, hbq⟩
    have HBq := Lib.hid hbq
    have hbx := HBx.out wq hbq
    have HBX := Lib.hid hbx
    have HBe := Lib.hid (HSb.out.trans (hbq.mono (by omega)))
    obtain ⟨q0, f0⟩ := box1F hbx
    cases bd
    case true =>
      have HC2 : Hid (2 + cn0 p (pre ++ [(i, d, sg)]) = c) := Lib.hid (HC1.out.2 (fun h => by rw [HDt.out] at h; cases h.2))
      clear hbx hbq y0 y1 y2 y3 y4 y5 y6 y7 ka
      gi_wp2
      -- MARK7
      refine ⟨fun _ => False, HKp.out wq _ HBq.out (Nat.le_refl _) (fun k _ => rfl), rfl, ⟨?_, HBe.out⟩⟩
      rw [HC2.out]
      exact HBX.out
    have HC2 : Hid (2 + cn0 p (pre ++ [(i, d, sg)]) = c + 1) := Lib.hid (HC1.out.1 ⟨hd, HDt.out⟩)
    clear hbx hbq y0 y1 y2 y3 y4 y5 y6 y7 ka
    gi_wp2
    -- MARK8
    refine ⟨fun _ => False, HKp.out wq _ HBq.out (KeepsWalks.setCell wq _ _).size (fun k hk => Below.heap_setCell _ _ _ k hk), rfl, ⟨?_, HBe.out.setCell (Nat.le_refl _) _⟩⟩
    rw [HC2.out]
    exact set1 _ HBX.out
  · rw [hs4]
    rintro xs C W rfl ⟨rfl, hS⟩ hD
    have HSb := Lib.hid hS.bel
    have hob : W.heap[A + 1]? = some (.cells #[.int .i64 (fwP p : Int)] 3 (0, 0)) := hS.box
    have HOb := Lib.hid hob
    obtain ⟨q0, q1⟩ := box1F hob
    have hWs : A8 + 1 < W.heap.size := (Array.getElem?_eq_some_iff.1 hD).1
    have HD := Lib.hid hD
    clear hS hob hD
    gi_wp2
    -- MARK9a
    refine ⟨by simp, .inl ⟨_, _, rfl, run_takeDeferred (set1o _ (by omega) HD.out), ?_⟩⟩
    refine ⟨_, results_boxN rfl _ _ (A + 1) _ _ rfl rfl (box1F ((World.putObj_heap_other (o := .deferred none) (by omega : A + 1 ≠ A8 + 1)).trans (set1 _ HOb.out))).1, ?_⟩
    refine ⟨congrArg Ending.returned HRe.out.symm, ?_⟩
    have hbe : Below A w (W.setCell ⟨A + 1, 0, none⟩ (.int .i64 (fwP p : Int))) := (HAw4.out.trans (HSb.out.mono (by omega))).setCell (by show A ≤ A + 1; omega) _
    exact hbe.grown (grownBy_putObj' _ (A8 + 1) (.deferred none)) (by rw [World.size_setCell]; omega) (fun r e => by have := Option.some.inj e; omega)
  · intro c pre C W _ h _; exact h.elim
-- MARK9
end Go.Proofs.YtdiinlmeoifgjaaGreatDoor

/- The reference's Vars and Fewest. -/
namespace Go.Proofs.YtdiinlmeoifgjaaGreatDoor
open Go.RowKit Go.PlainAid

theorem rdF_vs {p : List Sx} {L : List Pid} : ∀ (l : List Spt) (vs : List (Pid × Nat)), (rdF p L vs l).1.length ≤ vs.length + l.length := by
  intro l
  induction l with
  | nil => intro vs; exact Nat.le_refl _
  | cons z l ih =>
    intro vs
    rw [rdF]
    simp only [List.length_cons]
    cases hx : p[z.1]? with
    | none => simp only; omega
    | some x =>
      simp only
      split
      · simp only; omega
      · split
        · have := ih vs; omega
        · split
          · simp only; omega
          · split
            · simp only; omega
            · have := ih (vs ++ [(idX x, z.2.1)])
              rw [List.length_append] at this
              simp only [List.length_cons, List.length_nil] at this
              omega
theorem rdP_vs (p : List Sx) (L : List Pid) : (rdP p L).1.length ≤ 2000 := by
  unfold rdP
  by_cases h1 : (hdP p).2 = 0
  · rw [if_neg (by simpa using h1)]
    have hd := hdP_ok h1
    have h2 := rdF_vs (p := p) (L := L) (spP p) []
    have h3 : (spP p).length ≤ 2000 := by
      rw [← spP_M hd]
      exact Nat.le_trans (spM_len p _ _ _) (by have := hd.short; omega)
    split
    · exact Nat.zero_le _
    · simp only [List.length_nil] at h2 ⊢; omega
  · rw [if_pos h1]; exact Nat.zero_le _
theorem rdP_err {p : List Sx} {L : List Pid} (h : (rdP p L).2.2 ≠ 0) : (rdP p L).1 = [] := by
  unfold rdP at h ⊢
  by_cases h1 : (hdP p).2 = 0
  · rw [if_neg (by simpa using h1)] at h ⊢
    by_cases h2 : (rdF p L [] (spP p)).2.2 = 0
    · rw [if_neg (by simpa using h2)] at h; exact absurd rfl h
    · rw [if_pos h2]
  · rw [if_pos h1]
theorem rdP_chk' {p : List Sx} {L : List Pid} (h0 : (rdP p L).2.2 = 0) : (chkX p).2 = 0 := by
  unfold rdP at h0
  by_cases h2 : (hdP p).2 = 0
  · unfold hdP at h2
    by_cases h3 : (chkX p).2 = 0
    · exact h3
    · rw [if_pos h3] at h2; exact absurd h2 h3
  · rw [if_pos h2] at h0; exact absurd h0 h2
set_option maxRecDepth 50000 in
set_option maxHeartbeats 3200000 in
theorem rVars12_any (v u : Value) (p : List Sx) (L : List Pid) (w : World) (h : XsAt w v p) (hs : SmX p) (hi : InX p) (hu : PsAt w u L) (hll : L.length ≤ 100000) :
    Calls Tryz.prog 10 #[v, u] w (VarsV p L w) := by
  have C := Lib.hid (whole_any v u p L w h hs hi hu hll)
  have HE : Hid ((rdP p L).2.2 ≠ 0 → (rdP p L).1 = []) := Lib.hid rdP_err
  obtain ⟨va, vc, rfl, _⟩ := h.slice
  obtain ⟨ua, uc, rfl, _⟩ := hu.slice
  obtain ⟨⟨vv, n1, e1⟩, hr⟩ : ∃ r, rdP p L = r := ⟨_, rfl⟩
  unfold WhV VarsV at *
  rw [hr] at C HE ⊢
  simp only at C HE ⊢
  clear h hs hi hu hll hr
  by_cases h0 : e1 = 0
  · subst h0
    go_enter Tryz.func10, Tryz.ntmps10
    go_wp2_with fail
    refine C.out.mono ?_
    rintro e w1 ⟨g, pv, lv, b, m, c, vs, rfl, hS, hv⟩
    obtain rfl := hv (by simp)
    have HS := Lib.hid hS
    obtain ⟨k0, k1, k2, k3, k4, _⟩ := box5W hS.box
    clear hS
    go_wp2_with fail
    -- MARK1
    go_ret2
    exact ⟨_, rfl, ws_own HS.out.row HS.out.len, HS.out.bel⟩
  · have hne : (e1 != 0) = true := bne_iff_ne.2 h0
    have HE2 := Lib.hid (HE.out h0)
    clear h0
    go_enter Tryz.func10, Tryz.ntmps10
    go_wp2_with fail
    refine C.out.mono ?_
    rintro e w1 ⟨g, pv, lv, b, m, c, vs, rfl, hS, hv⟩
    have HS := Lib.hid hS
    obtain ⟨k0, k1, k2, k3, k4, _⟩ := box5W hS.box
    clear hS hv
    go_wp2_with fail
    go_quiet (fail)
    go_wp2_with fail
    -- MARK2
    go_ret2
    exact ⟨_, rfl, by rw [HE2.out]; exact ws_nil _ _ _, ⟨HS.out.bel.os, HS.out.bel.tape, HS.out.bel.output, HS.out.bel.size, HS.out.bel.block⟩⟩
set_option maxRecDepth 50000 in
set_option maxHeartbeats 3200000 in
theorem rFewest_any (v u : Value) (p : List Sx) (L : List Pid) (w : World) (h : XsAt w v p) (hs : SmX p) (hi : InX p) (hu : PsAt w u L) (hll : L.length ≤ 100000) :
    Calls Tryz.prog 13 #[v, u] w fun e w' => e = .returned (two64 (fwT p L)) ∧ Below w.heap.size w w' := by
  have CK := Lib.hid (rCheck12_any v u p L w h hs hi hu hll)
  have CN := Lib.hid (fun (h0 : (rdP p L).2.2 = 0) W (hW : Below w.heap.size w W) => need_any p (rdP_chk' h0) (rdP_good h0) v (endX p 0 - 0) 0 W (h.below hW (Nat.le_refl _)) (by have := (rdP_good h0).long; omega) (Nat.le_refl _))
  have HF : Hid ((rdP p L).2.2 = 0 → needX p 0 = fwP p) := Lib.hid fun h0 => need_fw (rdP_good h0) (rdP_good h0).root
  obtain ⟨va, vc, rfl, _⟩ := h.slice
  obtain ⟨ua, uc, rfl, _⟩ := hu.slice
  obtain ⟨RR, hRR⟩ : ∃ R, two64 (fwT p L) = R := ⟨_, rfl⟩
  have HR := Lib.hid hRR
  rw [hRR]
  obtain ⟨⟨vv, n1, e1⟩, hr⟩ : ∃ r, rdP p L = r := ⟨_, rfl⟩
  have HRd := Lib.hid hr
  unfold two64 at CK
  rw [hr] at CK CN HF
  simp only at CK CN HF
  clear h hs hi hu hll hr hRR
  by_cases h0 : e1 = 0
  · subst h0
    have HRe : Hid (RR = .tuple #[.int .i64 (needX p 0 : Int), .int .i64 0]) := Lib.hid (by rw [← HR.out, HF.out rfl]; unfold fwT two64; rw [HRd.out, if_neg (by simp)])
    have CM := Lib.hid (CN.out rfl)
    clear CN
    go_enter Tryz.func13, Tryz.ntmps13
    go_wp2_with fail
    refine CK.out.mono ?_
    rintro e w1 ⟨rfl, hb1⟩
    go_wp2_with fail
    -- MARK3
    refine (CM.out w1 hb1).mono ?_
    rintro e w2 ⟨rfl, hb2⟩
    go_wp2_with fail
    go_ret2
    exact ⟨congrArg Ending.returned HRe.out.symm, below_step hb1 hb2⟩
  · have HRe : Hid (RR = .tuple #[.int .i64 0, .int .i64 e1]) := Lib.hid (by rw [← HR.out]; unfold fwT two64; rw [HRd.out, if_pos h0])
    have hne : (e1 != 0) = true := bne_iff_ne.2 h0
    clear h0 CN
    go_enter Tryz.func13, Tryz.ntmps13
    go_wp2_with fail
    refine CK.out.mono ?_
    rintro e w1 ⟨rfl, hb1⟩
    go_wp2_with fail
    go_ret2
    exact ⟨congrArg Ending.returned HRe.out.symm, hb1⟩
-- MARK9
end Go.Proofs.YtdiinlmeoifgjaaGreatDoor

/- The law PatternChecks. -/
namespace Go.Proofs.YtdiinlmeoifgjaaGreatDoor
open Go.RowKit Go.PlainAid

set_option maxRecDepth 50000 in
set_option maxHeartbeats 3200000 in
theorem lawCh_any (v u : Value) (p : List Sx) (L : List Pid) (w : World) (h : XsAt w v p) (hu : PsAt w u L) (hi : InX p) (T : STabs w) :
    Calls Tryz.prog 3 #[v, u] w fun e w' => e = .returned (.bool true) ∧ Below w.heap.size w w' := by
  have CL := Lib.hid (Large_any v p w h)
  have CW := Lib.hid (fun W (hW : Below w.heap.size w W) => wide_any u L W (hu.below hW (Nat.le_refl _)))
  have CS := Lib.hid (fun W (hW : Below w.heap.size w W) => shown_any W (T.below hW))
  have C1 := Lib.hid (fun (hs : SmX p) (hsl : SmL L) (hll : L.length ≤ 100000) W (hW : Below w.heap.size w W) => Check_any v u p L W (h.below hW (Nat.le_refl _)) hs hi (T.below hW) (hu.below hW (Nat.le_refl _)) hsl hll)
  have C2 := Lib.hid (fun (hs : SmX p) (hll : L.length ≤ 100000) W (hW : Below w.heap.size w W) => rCheck12_any v u p L W (h.below hW (Nat.le_refl _)) hs hi (hu.below hW (Nat.le_refl _)) hll)
  have C3 := Lib.hid (fun (hs : SmX p) (hsl : SmL L) (hll : L.length ≤ 100000) W (hW : Below w.heap.size w W) => Vars_any v u p L W (h.below hW (Nat.le_refl _)) hs hi (T.below hW) (hu.below hW (Nat.le_refl _)) hsl hll)
  have C4 := Lib.hid (fun (hs : SmX p) (hll : L.length ≤ 100000) W (hW : Below w.heap.size w W) => rVars12_any v u p L W (h.below hW (Nat.le_refl _)) hs hi (hu.below hW (Nat.le_refl _)) hll)
  have C5 := Lib.hid (fun (hs : SmX p) (hsl : SmL L) (hll : L.length ≤ 100000) W (hW : Below w.heap.size w W) => Fewest_any v u p L W (h.below hW (Nat.le_refl _)) hs hi (T.below hW) (hu.below hW (Nat.le_refl _)) hsl hll)
  have C6 := Lib.hid (fun (hs : SmX p) (hll : L.length ≤ 100000) W (hW : Below w.heap.size w W) => rFewest_any v u p L W (h.below hW (Nat.le_refl _)) hs hi (hu.below hW (Nat.le_refl _)) hll)
  have HVl : Hid ((toW (rdP p L).1).length ≤ 100000) := Lib.hid (by have := rdP_vs p L; rw [toW_len]; omega)
  obtain ⟨va, vc, rfl, _⟩ := h.slice
  obtain ⟨ua, uc, rfl, _⟩ := hu.slice
  obtain ⟨n, hn⟩ : ∃ n, p.length = n := ⟨_, rfl⟩
  obtain ⟨um, hum⟩ : ∃ n, L.length = n := ⟨_, rfl⟩
  obtain ⟨⟨vs, n1, e1⟩, hr⟩ : ∃ r, rdP p L = r := ⟨_, rfl⟩
  obtain ⟨⟨m1, d1⟩, hf⟩ : ∃ r, fwT p L = r := ⟨_, rfl⟩
  unfold two64 at C1 C2 C5 C6
  unfold VarsV at C3 C4
  unfold BigR at CL CW
  rw [hr] at C1 C2 C3 C4 HVl
  rw [hf] at C5 C6
  simp only at C1 C2 C3 C4 C5 C6 HVl
  rw [hn] at CL C1 C2 C3 C4 C5 C6 ⊢
  have HUm := Lib.hid hum
  rw [hum] at CW C1 C2 C3 C4 C5 C6 ⊢
  have hq1 : (n1 != n1) = false := by simp
  have hq2 : (e1 != e1) = false := by simp
  have hq3 : (m1 == m1) = true := beq_self_eq_true _
  have hq4 : (d1 == d1) = true := beq_self_eq_true _
  clear h hu hn hum hr hf T hi
  go_enter Tryz.func3, Tryz.ntmps3
  go_wp2_with fail
  refine CL.out.mono ?_
  rintro e w1 ⟨b, rfl, HP, hb1⟩
  cases b
  case true =>
    go_wp2_with fail
    -- MARK0
    refine (CS.out w1 hb1).mono ?_
    rintro e w2 ⟨rfl, hb2⟩
    go_wp2_with fail
    go_ret
    exact ⟨rfl, below_step hb1 hb2⟩
  obtain ⟨hn120, hsm⟩ := HP rfl
  have HS : Hid (SmX p) := Lib.hid fun x hx => by have := hsm x hx; omega
  clear HP hsm hn120
  go_wp2_with fail
  refine (CW.out w1 hb1).mono ?_
  rintro e w1' ⟨b, rfl, HP, hb1'⟩
  have hw1 := below_step hb1 hb1'
  cases b
  case true =>
    go_wp2_with fail
    refine (CS.out w1' hw1).mono ?_
    rintro e w2 ⟨rfl, hb2⟩
    go_wp2_with fail
    go_ret
    exact ⟨rfl, below_step hw1 hb2⟩
  obtain ⟨hl30, hls⟩ := HP rfl
  have HSl : Hid (SmL L) := Lib.hid fun x hx => by have := hls x hx; omega
  have hll : um ≤ 100000 := by have := HUm.out; omega
  clear HP hls hl30
  go_wp2_with fail
  refine (C1.out HS.out HSl.out hll w1' hw1).mono ?_
  rintro e w2 ⟨rfl, hb2⟩
  have hw2 := below_step hw1 hb2
  go_wp2_with fail
  refine (C2.out HS.out hll w2 hw2).mono ?_
  rintro e w3 ⟨rfl, hb3⟩
  have hw3 := below_step hw2 hb3
  go_wp2_with fail
  refine (C3.out HS.out HSl.out hll w3 hw3).mono ?_
  rintro e w4 ⟨z1, rfl, hz1, hb4⟩
  have hw4 := below_step hw3 hb4
  have HZ1 := Lib.hid hz1
  clear hz1
  go_wp2_with fail
  refine (C4.out HS.out hll w4 hw4).mono ?_
  rintro e w5 ⟨z2, rfl, hz2, hb5⟩
  have hw5 := below_step hw4 hb5
  have CV := Lib.hid (SameVars_any z1 z2 (toW vs) (toW vs) w5 (HZ1.out.below hb5 (Nat.le_refl _)) hz2 HVl.out HVl.out)
  rw [decide_eq_true rfl] at CV
  obtain ⟨a1, c1, rfl, _⟩ := HZ1.out.slice
  obtain ⟨a2, c2, rfl, _⟩ := hz2.slice
  clear hz2
  go_wp2_with fail
  -- MARK1
  refine CV.out.mono ?_
  rintro e w6 ⟨rfl, hb6⟩
  have hw6 := below_step hw5 hb6
  go_wp2_with fail
  -- MARK2
  refine (C5.out HS.out HSl.out hll w6 hw6).mono ?_
  rintro e w7 ⟨rfl, hb7⟩
  have hw7 := below_step hw6 hb7
  go_wp2_with fail
  refine (C6.out HS.out hll w7 hw7).mono ?_
  rintro e w8 ⟨rfl, hb8⟩
  have hw8 := below_step hw7 hb8
  go_wp2_with fail
  -- MARK3
  refine (CS.out w8 hw8).mono ?_
  rintro e w9 ⟨rfl, hb9⟩
  go_wp2_with fail
  go_ret
  exact ⟨rfl, below_step hw8 hb9⟩
-- MARK9
end Go.Proofs.YtdiinlmeoifgjaaGreatDoor

/- PatternChecks: its row and its card. What is proved: called with any arguments, PatternChecks returns true, and the arguments read as before. Conditions: the row's own (the listed tables start as the program's text lays them; the card ties them). -/
namespace Go.Proofs.YtdiinlmeoifgjaaGreatDoor.patternChecks
open Go.ChangeShapes Go.WideShapes Go.ChangeAt Go.RowKit
open Go.ChangeMaps (open_string shut_string)

set_option maxRecDepth 100000 in
theorem contract (H : Type) (enc : TypeId × Value → H) (W : World) (base : Nat) (args : Array Value) (ds gs : List (DataW H)) (before : List MemPlace)
    (hval : ∀ (j : Nat) t v, Tryz.f3.params[j]? = some t → args[j]? = some v → Value.okWide Tryz.prog W .any base t v)
    (hW : DataW.Whole enc Tryz.prog Tryz.f3.params.toList Rows.patternChecksSpec.vars false W args.toList ds gs before) (hL : laidMetH Tryz.prog Rows.patternChecksRow.laid W) (_hsh : W.ShapedOpen Tryz.prog) :
    Calls Tryz.prog 3 args W fun e W' => ∃ v, e = .returned v ∧ Rows.patternChecksSpec.post enc Tryz.prog Tryz.f3 false true false false W args v W' := by
  have hW' := hW
  obtain ⟨p, q, hA0, hV, rfl, hfz, hnd⟩ := hW
  have hA : DataW.TrodAll enc Tryz.prog W 0 (fun _ => true) true Tryz.f3.params.toList args.toList ds p := hA0
  rw [Tryz.params3] at hA hval
  obtain ⟨v0, vs0, d0, ds0, p0, q0, hargs, rfl, rfl, h0, r0⟩ := trodAll_cons hA
  obtain ⟨v1, vs1, d1, ds1, p1, q1, rfl, rfl, rfl, h1, r1⟩ := trodAll_cons r0
  obtain ⟨rfl, rfl, rfl⟩ := trodAll_nil r1
  obtain rfl : args = #[v0, v1] := by cases args; simp_all
  obtain ⟨rfl, rfl⟩ := trodVars_none hV
  clear hA0
  simp only [List.append_nil] at hW'
  have k0 := h0
  have k1 := h1
  have hlt0 : ∀ x ∈ p0, x.block < W.heap.size := fun x hx => hW'.lt x (by simp [hx])
  have hlt1 : ∀ x ∈ p1, x.block < W.heap.size := fun x hx => hW'.lt x (by simp [hx])
  obtain ⟨a0, w0, m0, _⟩ := open_stx (hval 0 22 v0 rfl rfl) h0
  obtain ⟨a1, w1⟩ := open_ids (hval 1 23 v1 rfl rfl) h1
  refine (lawCh_any v0 v1 a0 a1 W w0 w1 m0 (tabs_of hL)).mono fun e W' ⟨he, bel⟩ => ?_
  subst he
  exact ⟨_, rfl, _, _, _, [], _, [], hW', trodAll_mk1 (shut_bool Tryz.underlying4 _), (trodAll_cons_mk (Below.trod laidOut (by kernel_rfl) (of_decide_eq_true (by kernel_rfl)) k0 bel hlt0) (trodAll_cons_mk (Below.trod laidOut (by kernel_rfl) (of_decide_eq_true (by kernel_rfl)) k1 bel hlt1) trodAll_mk0)), rfl, bel.frame _, fun h => by cases h⟩

theorem reads (os : Os) {H : Type} (enc : TypeId × Value → H) : ∃ places, DataW.whole enc Tryz.prog ((World.laidAll Tryz.prog os Rows.patternChecksRow.laid).forCall (fun _ _ => 0) ⟨#[], #[.slice none 0 0, .slice none 0 0], []⟩).memory Tryz.f3.params.toList Rows.patternChecksSpec.vars false #[Value.slice none 0 0, .slice none 0 0].toList 8 = some ([.nil, .nil], [], places) :=
  ⟨[], by kernel_rfl⟩

set_option maxRecDepth 100000 in
theorem lifted (os : Os) (started : os.Started) (H : Type) (enc : TypeId × Value → H) (F : Stop.Interp) :
    ReturnsInHanded {} Tryz.checked os 3 .any ((OpenSpec.ofChange Rows.patternChecksSpec).preRow enc Tryz.prog Tryz.f3 Rows.patternChecksRow.domain false Rows.patternChecksRow.laid) (((OpenSpec.ofChange Rows.patternChecksSpec).at F).post enc Tryz.prog Tryz.f3 false true false false) := by
  obtain ⟨places, hx⟩ := reads os enc
  refine returnsInHanded_of_row (C := Tryz.checked) (s := OpenSpec.ofChange Rows.patternChecksSpec) own started (by kernel_rfl) Tryz.func3
    ⟨(World.laidAll Tryz.prog os Rows.patternChecksRow.laid), fun _ _ => 0, ⟨#[], #[.slice none 0 0, .slice none 0 0], []⟩, World.laidAll_os _ _ _, World.shaped_of_ZipB (by kernel_rfl) (by kernel_rfl), rfl, (Input.okWide_of_okWideB (by kernel_rfl)).2,
      OpenSpec.preRow_of_cond 8 hx (by kernel_rfl) (fun k hk => by cases hk) (by kernel_rfl) (door_met os _), by
        simp only [Assume.holds]
        exact ⟨by simp, by simp, fun _ => Modest.zero, by simp, by simp⟩⟩ ?_
  intro W base args ds gs before hval hW _ _ _ hL hsh _
  exact contract H enc W base args ds gs before hval hW hL hsh

theorem said : Rows.PatternChecksSaid :=
  OpenClaim.holds_of_cond 3 Tryz.f3 rfl rfl rfl rfl rfl rfl rfl ⟨rfl, rfl, rfl, rfl, rfl⟩ rfl rfl rfl rfl rfl (by kernel_rfl) Tryz.func3 (by kernel_rfl)
    (of_decide_eq_true (by kernel_rfl)) (by unfold Func.isWrapper; first | (rw [if_pos (by decide +kernel)]; kernel_rfl) | (rw [if_neg (by decide +kernel)]; exact ⟨rfl, rfl⟩))
    (fun os started H enc _ F => by rw [OpenClaim.pre_eq_preRow]; exact lifted os started H enc F)

theorem plain (f : FuncId) (fn : Func) (hf : Tryz.pinned.checked.prog.funcNamed "mummer/mummerlaw12.PatternChecks" = some f) (hfn : Tryz.pinned.checked.prog.funcs[f]? = some fn) :
    false = Tryz.pinned.checked.prog.looks [] ∧ ∀ (j : Nat) t, fn.params[j]? = some t → Tryz.pinned.checked.prog.wantsStandIn t = false := by
  obtain rfl : f = 3 := Option.some.inj ((show Tryz.prog.funcNamed "mummer/mummerlaw12.PatternChecks" = some 3 by kernel_rfl).symm.trans hf) |>.symm
  obtain rfl : fn = Tryz.f3 := (Option.some.inj (Tryz.func3.symm.trans hfn)).symm
  refine ⟨by kernel_rfl, fun j t ht => ?_⟩
  rw [Tryz.params3] at ht
  have hm : t ∈ ([22, 23] : List TypeId) := by simpa using Array.mem_of_getElem? ht
  have hall : (([22, 23] : List TypeId).all fun u => !Tryz.prog.wantsStandIn u) = true := by kernel_rfl
  exact (show Tryz.prog.wantsStandIn t = false by simpa using List.all_eq_true.1 hall t hm)

/-- The card. -/
theorem card : Rows.PatternChecksCardSaid :=
  Claim7.holds_tied_plain_at .later [] _ _ _ _ said (fun _ h => by cases h) (by kernel_rfl) (fun _ h => by cases h) patternChecks_row_tie rfl ⟨rfl, rfl⟩ (by kernel_rfl) rfl plain (by kernel_rfl)
end Go.Proofs.YtdiinlmeoifgjaaGreatDoor.patternChecks
