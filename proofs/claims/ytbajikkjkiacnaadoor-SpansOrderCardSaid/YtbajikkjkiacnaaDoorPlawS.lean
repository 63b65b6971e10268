/- The law SpansShifts, walked. -/
import Derived.Test.YtbajikkjkiacnaaDoorPrnest
import Derived.Test.YtbajikkjkiacnaaDoorPrshift
import Derived.Deep.DeepCutAuto
import Derived.Deep.CutBlock
namespace Go.Proofs.YtbajikkjkiacnaaDoor
open Go.RowKit Go.PlainAid Go.ChangeShapes Go.WideShapes Go.ChangeAt

set_option maxRecDepth 100000 in
theorem open_edit {H : Type} {enc : TypeId × Value → H} {W : World} {base : Nat} {v : Value} {d : DataW H} {p : List MemPlace}
    (hval : Value.okWide Tryd.prog W .any base 36 v) (h : DataW.Trod enc Tryd.prog W 0 (fun _ => true) true 36 v d p) :
    ∃ s : Int × Int × Int, v = .agg #[.int .i64 s.1, .int .i64 s.2.1, .int .i64 s.2.2] := by
  obtain ⟨cs, rfl, hsz⟩ := okWide_struct Tryd.underlying36 hval
  obtain ⟨fuel, hf⟩ := h
  obtain ⟨xs, n, _, _, hl, hlen, hg⟩ := DataW.trod_struct Tryd.underlying36 hf
  have hc : Tryd.prog.cellsOf 36 = 3 := by kernel_rfl
  obtain ⟨l⟩ := cs
  have hl6 : l.length = 3 := by rw [hc] at hl; simpa [Value.cells] using hl
  match l, hl6, xs, hlen with
  | [c0, c1, c2], _, [x0, x1], _ =>
    have g0 := hg 0 _ rfl
    have g1 := hg 1 _ rfl
    simp only [Value.cells] at g0 g1
    obtain ⟨a0, a1, e0⟩ := sp_cells g0
    obtain ⟨b, e1, _, _⟩ := DataW.trod_int Tryd.underlying3 g1
    replace e0 : List.take (Tryd.prog.cellsOf 25) (List.drop 0 [c0, c1, c2]) = [.int .i64 a0, .int .i64 a1] := e0
    replace e1 : List.take (Tryd.prog.cellsOf 3) (List.drop 2 [c0, c1, c2]) = [.int .i64 b] := e1
    rw [cSp] at e0
    rw [cInt] at e1
    simp at e0 e1
    obtain ⟨rfl, rfl⟩ := e0
    subst e1
    exact ⟨(a0, a1, b), rfl⟩

theorem three_box {w W : World} {x y z : Value} {t : TypeId} (h : Below (w.alloc (.cells #[x, y, z] t)).heap.size (w.alloc (.cells #[x, y, z] t)) W) :
    W.cell? ⟨w.heap.size, 0, none⟩ = some x ∧ W.cell? ⟨w.heap.size, 1, none⟩ = some y ∧ W.cell? ⟨w.heap.size, 2, none⟩ = some z ∧ Below w.heap.size w W := by
  have h1 := h.block w.heap.size (by simp only [World.size_alloc]; omega)
  rw [World.alloc_heap_new] at h1
  refine ⟨?_, ?_, ?_, (below_a1 _ _).trans (h.mono (by simp only [World.size_alloc]; omega))⟩ <;> simp [World.cell?, h1]
theorem drew_below {B : Nat} {w W : World} (h : Below B w W) : Below B w W.drew := ⟨h.os, h.tape, h.output, h.size, h.block⟩

set_option maxRecDepth 100000 in
set_option maxHeartbeats 12800000 in
theorem lawSh_small (a : Option Addr) (n c : Nat) (l : List Sp) (ca cb d : Int) (w : World) (T : PTabs w) (h : SpsAt w (.slice a n c) l) (hn : n = l.length) (hb : n ≤ 60 ∨ (2000 < n ∧ n ≤ 2010)) :
    Calls Tryd.prog 4 #[.slice a n c, .agg #[.int .i64 ca, .int .i64 cb, .int .i64 d]] w fun e w' => e = .returned (.bool true) ∧ Below w.heap.size w w' := by
  have CA : Hid (∀ W, Below w.heap.size w W → Calls Tryd.prog 12 #[] W fun e w' => e = .returned (.bool true) ∧ Below W.heap.size W w') := Lib.hid fun W hb => awake_any W (T.below hb)
  obtain ⟨L, hL⟩ : ∃ L, (nestS l).1 = L := ⟨_, rfl⟩
  obtain ⟨q, hq⟩ : ∃ q, (nestS l).2.1 = q := ⟨_, rfl⟩
  obtain ⟨r, hr⟩ : ∃ r, (nestS l).2.2 = r := ⟨_, rfl⟩
  have hLl : L.length ≤ 2010 := by
    rw [← hL]; unfold nestS
    split
    · simp
    · split
      · simp
      · split
        · simp
        · rw [parsS_len]; omega
  have KN : Hid (∀ F, (∀ W, Below w.heap.size w W → Calls Tryd.prog F #[.slice a n c] W (NeV l W)) → ∀ W, Below w.heap.size w W → Calls Tryd.prog F #[.slice a n c] W fun e w1 => ∃ x m cx, e = .returned (.tuple #[.slice x m cx, .int .i64 q, .int .i64 r]) ∧ RowAt w1 (.slice x m cx) (L.map (Value.int .i64)) ∧ Below W.heap.size W w1) := Lib.hid fun F hF W hb => by
    refine (hF W hb).mono ?_
    rintro e w1 ⟨v, h1, h2, h3⟩
    rw [hq, hr] at h1
    rw [hL] at h2
    have h4 := RowAt.own h2
    obtain ⟨x, cx, rfl⟩ := h4.slice
    exact ⟨_, _, _, h1, h4, h3⟩
  have C1 := Lib.hid (KN.out 25 fun W hb => nest_any _ l W (h.below hb (Nat.le_refl _)) (by omega))
  have C2 := Lib.hid (KN.out 26 fun W hb => rNest_any _ l W (h.below hb (Nat.le_refl _)) (by omega))
  have C3 : Hid (∀ W v v', RowAt W v (L.map (Value.int .i64)) → RowAt W v' (L.map (Value.int .i64)) → Calls Tryd.prog 27 #[v, v'] W fun e w1 => e = .returned (.bool true) ∧ Below W.heap.size W w1) := Lib.hid fun W v v' h1 h2 => by
    have := sameints_any v v' L L W h1 h2 (by omega)
    refine this.mono ?_
    rintro e w1 ⟨h3, h4⟩
    exact ⟨by rw [h3]; simp, h4⟩
  have H := Lib.hid h
  have HN := Lib.hid hn
  obtain ⟨W0, hW0⟩ : ∃ W0, W0 = w.alloc (.cells #[.int .i64 ca, .int .i64 cb, .int .i64 d] 36) := ⟨_, rfl⟩
  have HB := Lib.hid fun (W : World) (hW : Below W0.heap.size W0 W) => three_box (w := w) (W := W) (x := .int .i64 ca) (y := .int .i64 cb) (z := .int .i64 d) (t := 36) (by subst hW0; exact hW)
  have hd1 : (decide ((60 : Int) < (n : Int)) && decide ((n : Int) ≤ 2000)) = false := by rcases hb with hb | hb <;> simp <;> omega
  have hd3 : decide ((2010 : Int) < (n : Int)) = false := decide_eq_false (by omega)
  clear h hn T hL hq hr KN
  have hdd : (decide ((60 : Int) < (n : Int)) = false) ∨ (decide ((60 : Int) < (n : Int)) = true ∧ decide ((n : Int) ≤ (2000 : Int)) = false) := by
    rcases hb with hb | hb
    · exact .inl (decide_eq_false (by omega))
    · exact .inr ⟨decide_eq_true (by omega), decide_eq_false (by omega)⟩
  have hnb : n ≤ 2010 := by omega
  clear hb
  rcases hdd with hd2 | ⟨hd2, hd4⟩ <;> (
    go_enter Tryd.func4, Tryd.ntmps4
    go_wp2_with fail
    rw [← hW0]
    go_loopw [5] (fun x5 wr => ∃ k : Nat, x5 = .int .i64 k ∧ k ≤ n ∧ k ≤ 60 ∧ Below W0.heap.size W0 wr) (fun x5 _ => 60 - (intOf x5).toNat)
    case atStart => exact ⟨0, rfl, Nat.zero_le _, Nat.zero_le _, Below.refl _ _⟩
    case round =>
      obtain ⟨k, rfl, hk, hk6, hB⟩ := hrel
      obtain ⟨_, _, _, hBw⟩ := HB.out _ hB
      by_cases hlt : k < n ∧ k < 60
      · obtain ⟨hlt, hl6⟩ := hlt
        obtain ⟨s, hs⟩ : ∃ s, l[k]? = some s := ⟨_, List.getElem?_eq_getElem (by rw [← HN.out]; exact hlt)⟩
        obtain ⟨la, lb⟩ := s
        obtain ⟨ra, rb, re, hsh⟩ : ∃ ra rb re, shiftS (la, lb) (ca, cb) d = ((ra, rb), re) := ⟨_, _, _, rfl⟩
        have CS : Hid (∀ W, Calls Tryd.prog 23 #[.agg #[.int .i64 la, .int .i64 lb], .agg #[.int .i64 ca, .int .i64 cb], .int .i64 d] W fun e w' => e = .returned (.tuple #[.agg #[.int .i64 ra, .int .i64 rb], .int .i64 re]) ∧ Below W.heap.size W w') := Lib.hid fun W => by
          have := Shift_any la lb ca cb d W; rw [hsh] at this; exact this
        have CR : Hid (∀ W, Calls Tryd.prog 24 #[.agg #[.int .i64 la, .int .i64 lb], .agg #[.int .i64 ca, .int .i64 cb], .int .i64 d] W fun e w' => e = .returned (.tuple #[.agg #[.int .i64 ra, .int .i64 rb], .int .i64 re]) ∧ Below W.heap.size W w') := Lib.hid fun W => by
          have := rShift_any la lb ca cb d W; rw [hsh] at this; exact this
        rcases H.out with ⟨_, _, _, hnil⟩ | ⟨g, off, cc, hv, hg, hcl⟩
        · rw [hnil] at hs; simp at hs
        · obtain ⟨rfl, hv2, rfl⟩ := Value.slice.inj hv
          have hg0 : g < W0.heap.size := by subst hW0; simp only [World.size_alloc]; omega
          have HX : Hid (∀ W, Below W0.heap.size W0 W → W.cell? ⟨g, off + k * 2, none⟩ = some (.int .i64 la) ∧ W.cell? ⟨g, off + k * 2 + 1, none⟩ = some (.int .i64 lb) ∧ W.cell? ⟨w.heap.size, 0, none⟩ = some (.int .i64 ca) ∧ W.cell? ⟨w.heap.size, 1, none⟩ = some (.int .i64 cb) ∧ W.cell? ⟨w.heap.size, 2, none⟩ = some (.int .i64 d)) := Lib.hid fun W hW => by
            obtain ⟨b0, b1, b2, b3⟩ := HB.out _ hW
            exact ⟨(b3.cell (p := ⟨g, off + k * 2, none⟩) hg).trans (hcl _ _ (scs_at l hs).1), (b3.cell (p := ⟨g, off + k * 2 + 1, none⟩) hg).trans (hcl _ _ (scs_at l hs).2), b0, b1, b2⟩
          obtain ⟨x0, x1, x2, x3, x4⟩ := HX.out _ hB
          have hk0 : (0 : Int) ≤ (k : Int) := Int.natCast_nonneg _
          have hk1 : (k : Int) < (n : Int) := by omega
          have hk2 : (k : Int) < 60 := by omega
          have hw0 : w.heap.size < W0.heap.size := by subst hW0; simp
          clear hcl hv hv2 hs hsh
          go_upto_region 6 with (fail)
          go_cut [6, 7] (fun s6 s7 wx => ∃ pa, s6 = .pointer (some ⟨pa, 0, none⟩) ∧ s7 = .int .i64 re ∧ W0.heap.size ≤ pa ∧ wx.heap[pa]? = some (.cells #[.int .i64 ra, .int .i64 rb] 25 (0, 0)) ∧ Below W0.heap.size W0 wx)
          case first =>
            have hsz := hB.size
            have hq1 : wr.heap.size ≠ g := by omega
            have hq2 : wr.heap.size ≠ w.heap.size := by omega
            have HW1 := Lib.hid (drew_below hB)
            have HW2 := Lib.hid (drew_below (hB.alloc hB.size (.cells #[.int .i64 0, .int .i64 0] 25)))
            have HW3 : Hid (∀ W, Below (wr.alloc (.cells #[.int .i64 0, .int .i64 0] 25)).drew.heap.size (wr.alloc (.cells #[.int .i64 0, .int .i64 0] 25)).drew W → W.heap[wr.heap.size]? = some (.cells #[.int .i64 0, .int .i64 0] 25 (0, 0))) := Lib.hid fun W hW => (hW.block _ (by show wr.heap.size < (wr.alloc _).heap.size; simp)).trans (World.alloc_heap_new _ _)
            go_region_held3 (fun w' => w'.cell? ⟨g, off + k * 2, none⟩ = some (.int .i64 la) ∧ w'.cell? ⟨g, off + k * 2 + 1, none⟩ = some (.int .i64 lb) ∧ w'.cell? ⟨w.heap.size, 0, none⟩ = some (.int .i64 ca) ∧ w'.cell? ⟨w.heap.size, 1, none⟩ = some (.int .i64 cb) ∧ w'.cell? ⟨w.heap.size, 2, none⟩ = some (.int .i64 d)) (go_keep) (first
              | (go_at_call 23; refine (CS.out _).mono ?_; rintro e w2 ⟨rfl, hb2⟩; first
                | (have hb2B := HW1.out.trans (hb2.mono HW1.out.size); obtain ⟨y0, y1, y2, y3, y4⟩ := HX.out _ hb2B; have hq3 : w2.heap.size ≠ g := World.new_ne _ _ y0; have hq4 : w2.heap.size ≠ w.heap.size := World.new_ne _ _ y2)
                | (have hb2B := HW2.out.trans (hb2.mono HW2.out.size); obtain ⟨y0, y1, y2, y3, y4⟩ := HX.out _ hb2B; have hz2 := HW3.out _ hb2; obtain ⟨r0, r1, r2, r3⟩ := box_facts hz2)))
            all_goals go_wp2
            all_goals go_meet
            all_goals first
              | exact ⟨wr.heap.size, rfl, rfl, hsz, set_both _ _ hz2, set_two hb2B hsz⟩
              | exact ⟨w2.heap.size, rfl, rfl, hb2B.size, World.alloc_heap_new _ _, hb2B.alloc hb2B.size _⟩
          case rest =>
            obtain ⟨pa, rfl, rfl, hpa1, hpa2, hpa3⟩ := hcut
            obtain ⟨x0, x1, x2, x3, x4⟩ := HX.out _ hpa3
            have hpl : pa < wc.heap.size := (Array.getElem?_eq_some_iff.1 hpa2).1
            obtain ⟨wd, hwd⟩ : ∃ x, x = wc := ⟨_, rfl⟩
            subst hwd
            clear hB hBw
            go_upto_region 7 with (fail)
            go_cut [8, 9] (fun s8 s9 wx => ∃ pb, s8 = .pointer (some ⟨pb, 0, none⟩) ∧ s9 = .int .i64 re ∧ wx.heap[pb]? = some (.cells #[.int .i64 ra, .int .i64 rb] 25 (0, 0)) ∧ wx.heap[pa]? = some (.cells #[.int .i64 ra, .int .i64 rb] 25 (0, 0)) ∧ Below W0.heap.size W0 wx)
            case first =>
              have hsz := hpa3.size
              have hq1 : wd.heap.size ≠ g := by omega
              have hq2 : wd.heap.size ≠ w.heap.size := by omega
              have HW1 := Lib.hid (drew_below hpa3)
              have HW2 := Lib.hid (drew_below (hpa3.alloc hpa3.size (.cells #[.int .i64 0, .int .i64 0] 25)))
              have HP1 : Hid (∀ W, Below wd.drew.heap.size wd.drew W → W.heap[pa]? = some (.cells #[.int .i64 ra, .int .i64 rb] 25 (0, 0))) := Lib.hid fun W hW => (hW.block _ hpl).trans hpa2
              have HP2 : Hid (∀ W, Below (wd.alloc (.cells #[.int .i64 0, .int .i64 0] 25)).drew.heap.size (wd.alloc (.cells #[.int .i64 0, .int .i64 0] 25)).drew W → W.heap[pa]? = some (.cells #[.int .i64 ra, .int .i64 rb] 25 (0, 0))) := Lib.hid fun W hW => (hW.block _ (by show pa < (wd.alloc _).heap.size; simp; omega)).trans ((Below.heap_alloc _ _ _ hpl).trans hpa2)
              have HW3 : Hid (∀ W, Below (wd.alloc (.cells #[.int .i64 0, .int .i64 0] 25)).drew.heap.size (wd.alloc (.cells #[.int .i64 0, .int .i64 0] 25)).drew W → W.heap[wd.heap.size]? = some (.cells #[.int .i64 0, .int .i64 0] 25 (0, 0))) := Lib.hid fun W hW => (hW.block _ (by show wd.heap.size < (wd.alloc _).heap.size; simp)).trans (World.alloc_heap_new _ _)
              go_region_held3 (fun w' => w'.cell? ⟨g, off + k * 2, none⟩ = some (.int .i64 la) ∧ w'.cell? ⟨g, off + k * 2 + 1, none⟩ = some (.int .i64 lb) ∧ w'.cell? ⟨w.heap.size, 0, none⟩ = some (.int .i64 ca) ∧ w'.cell? ⟨w.heap.size, 1, none⟩ = some (.int .i64 cb) ∧ w'.cell? ⟨w.heap.size, 2, none⟩ = some (.int .i64 d)) (go_keep) (first
                | (go_at_call 24; refine (CR.out _).mono ?_; rintro e w2 ⟨rfl, hb2⟩; first
                  | (have hb2B := HW1.out.trans (hb2.mono HW1.out.size); obtain ⟨y0, y1, y2, y3, y4⟩ := HX.out _ hb2B; have hpz := HP1.out _ hb2; have hq3 : w2.heap.size ≠ g := World.new_ne _ _ y0; have hq4 : w2.heap.size ≠ w.heap.size := World.new_ne _ _ y2)
                  | (have hb2B := HW2.out.trans (hb2.mono HW2.out.size); obtain ⟨y0, y1, y2, y3, y4⟩ := HX.out _ hb2B; have hpz := HP2.out _ hb2; have hz2 := HW3.out _ hb2; obtain ⟨r0, r1, r2, r3⟩ := box_facts hz2)))
              all_goals go_wp2
              all_goals go_meet
              all_goals first
                | exact ⟨wd.heap.size, rfl, rfl, set_both _ _ hz2, (set_other _ (by omega)).trans ((set_other _ (by omega)).trans hpz), set_two hb2B hsz⟩
                | exact ⟨w2.heap.size, rfl, rfl, World.alloc_heap_new _ _, (Below.heap_alloc _ _ _ (Array.getElem?_eq_some_iff.1 hpz).1).trans hpz, hb2B.alloc hb2B.size _⟩
            case rest =>
              obtain ⟨pb, rfl, rfl, hpb1, hpb2, hpb3⟩ := hcut
              obtain ⟨a0, a1, _, _⟩ := box_facts hpb2
              obtain ⟨b0, b1, _, _⟩ := box_facts hpb1
              go_wp2
              exact ⟨⟨k + 1, by go_num, by omega, by omega, hpb3⟩, by simp [intOf]; omega⟩
      · have hBk : (k : Int) < (n : Int) → (k : Int) < 60 → False := fun h1 h2 => hlt ⟨by omega, by omega⟩
        have hdk : (decide ((k : Int) < (n : Int)) = false ∧ ¬ k < n) ∨ (decide ((k : Int) < (n : Int)) = true ∧ decide ((k : Int) < (60 : Int)) = false ∧ k = 60) := by
          by_cases h1 : k < n
          · exact .inr ⟨decide_eq_true (by omega), decide_eq_false (by omega), by omega⟩
          · exact .inl ⟨decide_eq_false (by omega), h1⟩
        clear hBk hlt
        rcases hdk with ⟨hk1, hk3⟩ | ⟨hk1, hk2, rfl⟩ <;> (
          go_wp2_with fail
          refine (C1.out _ hBw).mono ?_
          rintro e w2 ⟨xa, xm, xc, rfl, hr2, hb2⟩
          have hB2 := hBw.trans (hb2.mono hBw.size)
          have HR2 := Lib.hid hr2
          clear hr2
          go_wp2_with fail
          refine (C2.out _ hB2).mono ?_
          rintro e w3 ⟨ya, ym, yc, rfl, hr3, hb3⟩
          have hB3 := hB2.trans (hb3.mono hB2.size)
          have HR3 := Lib.hid hr3
          clear hr3
          go_wp2_with fail
          refine (C3.out _ _ _ (RowAt.below HR2.out hb3 (Nat.le_refl _)) HR3.out).mono ?_
          rintro e w4 ⟨rfl, hb4⟩
          have hB4 := hB3.trans (hb4.mono hB3.size)
          go_wp2_with fail
          refine (CA.out _ hB4).mono ?_
          rintro e w5 ⟨rfl, hb5⟩
          go_wp2_with fail
          go_ret
          exact ⟨rfl, hB4.trans (hb5.mono hB4.size)⟩))

theorem lawSh_any (v : Value) (l : List Sp) (x : Int × Int × Int) (w : World) (T : PTabs w) (h : SpArg w v l) :
    Calls Tryd.prog 4 #[v, .agg #[.int .i64 x.1, .int .i64 x.2.1, .int .i64 x.2.2]] w fun e w' => e = .returned (.bool true) ∧ Below w.heap.size w w' := by
  obtain ⟨a, n, c, rfl, hn, hc, h⟩ := h
  obtain ⟨ca, cb, d⟩ := x
  by_cases hb : n ≤ 60 ∨ (2000 < n ∧ n ≤ 2010)
  · exact lawSh_small a n c l ca cb d w T h hn hb
  · obtain ⟨W0, hW0⟩ : ∃ W0, W0 = w.alloc (.cells #[.int .i64 ca, .int .i64 cb, .int .i64 d] 36) := ⟨_, rfl⟩
    have hw0 : Below w.heap.size w W0 := by subst hW0; exact below_a1 _ _
    have CA := Lib.hid (awake_any W0 (T.below hw0))
    have hd1 : decide ((60 : Int) < (n : Int)) = true := decide_eq_true (by omega)
    clear T h hn
    by_cases h2 : n ≤ 2000
    · have hd2 : decide ((n : Int) ≤ 2000) = true := decide_eq_true (by omega)
      go_enter Tryd.func4, Tryd.ntmps4
      go_wp2_with (go_at_call 12; rw [← hW0]; refine CA.out.mono ?_; rintro e w1 ⟨rfl, hb1⟩)
      all_goals go_ret
      all_goals exact ⟨rfl, hw0.trans (hb1.mono hw0.size)⟩
    · have hd2 : decide ((n : Int) ≤ 2000) = false := decide_eq_false (by omega)
      have hd3 : decide ((2010 : Int) < (n : Int)) = true := decide_eq_true (by omega)
      go_enter Tryd.func4, Tryd.ntmps4
      go_wp2_with (go_at_call 12; rw [← hW0]; refine CA.out.mono ?_; rintro e w1 ⟨rfl, hb1⟩)
      all_goals go_ret
      all_goals exact ⟨rfl, hw0.trans (hb1.mono hw0.size)⟩
end Go.Proofs.YtbajikkjkiacnaaDoor
