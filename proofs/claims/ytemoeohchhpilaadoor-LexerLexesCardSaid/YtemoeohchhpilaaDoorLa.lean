/- The law's awake, large. -/
import Derived.Test.YtemoeohchhpilaaDoorLo
import Derived.Lib.SlBytesConst
namespace Go.Proofs.YtemoeohchhpilaaDoor
open Go.RowKit Go.PlainAid

/-- A constant string as bytes: the row's mark. -/
def litW (w : World) (C : Array Value) : World := w.alloc (.cells C 5 (C.size, C.size + 1))
theorem lit_run (w : World) (C : Array Value) (n : Nat) : (convert 22 22 (.slice (some ⟨w.heap.size, 0, none⟩) n n)).run Tryd.prog (w.alloc (.cells C 5)) = .ok (.slice (some ⟨w.heap.size, 0, none⟩) n n) (litW w C) :=
  Lib.run_convert_bytes_const w 22 5 C n n Tryd.underlying22 Tryd.underlying5
theorem lit_below (w : World) (C : Array Value) : Below w.heap.size w (litW w C) := below_b1 _ _
theorem lit_size (w : World) (C : Array Value) : (litW w C).heap.size = w.heap.size + 1 := World.size_alloc _ _
theorem lit_at (w : World) (l : List UInt8) (C : Array Value) (hcs : C = (l.map bc).toArray) : BytesAt (litW w C) (.slice (some ⟨w.heap.size, 0, none⟩) l.length l.length) l := by
  subst hcs
  refine .inr ⟨w.heap.size, 0, l.length, l.length, rfl, by rw [List.length_map], by rw [lit_size]; omega, fun j u hj => ?_⟩
  have h : (litW w (l.map bc).toArray).heap[w.heap.size]? = some (.cells (l.map bc).toArray 5 ((l.map bc).toArray.size, (l.map bc).toArray.size + 1)) := World.alloc_heap_new _ _
  rw [Nat.zero_add]
  simp only [World.cell?, h, Option.isSome_none]
  simpa using hj
theorem Lex_at {l : List UInt8} {r : List Tok × (Int × Int) × Int} (hr : lexS l = r) (k : Nat) (hk : r.1.length = k) (a : Option Addr) (n c : Nat) (w : World) (hv : BytesAt w (.slice a n c) l) (hcap : n ≤ c) (hl : n ≤ 1000000) (hn : l.length = n) (T : LTabs w) :
    Calls Tryd.prog 6 #[.slice a n c] w fun e w' => ∃ v cv, e = .returned (.tuple #[.slice v k cv, .agg #[.int .i64 r.2.1.1, .int .i64 r.2.1.2], .int .i64 r.2.2]) ∧ Hid (w'.ownsRow w.heap.size 33 5 (.slice v k cv) k (tcs r.1)) ∧ Below w.heap.size w w' := by
  refine (Lex_any a n c l w hv hcap hl hn T).mono ?_
  rintro e w' ⟨v, rfl, ho, hb⟩
  rw [hr, hk] at ho
  rw [hr]
  obtain ⟨v, cv, rfl⟩ := own_len ho
  exact ⟨v, cv, rfl, Lib.hid ho, hb⟩
def awC1 : Array Value := #[.int .u8 40, .int .u8 100, .int .u8 101, .int .u8 102, .int .u8 105, .int .u8 110, .int .u8 101, .int .u8 32, .int .u8 120, .int .u8 32, .int .u8 39, .int .u8 91, .int .u8 97, .int .u8 32, .int .u8 45, .int .u8 49, .int .u8 50, .int .u8 93, .int .u8 41, .int .u8 32, .int .u8 59, .int .u8 32, .int .u8 97, .int .u8 108, .int .u8 108]
def awC2 : Array Value := #[.int .u8 35, .int .u8 116, .int .u8 114, .int .u8 117, .int .u8 101]
def aw1 : List UInt8 := [40, 100, 101, 102, 105, 110, 101, 32, 120, 32, 39, 91, 97, 32, 45, 49, 50, 93, 41, 32, 59, 32, 97, 108, 108]
def aw2 : List UInt8 := [35, 116, 114, 117, 101]
def awT : List Tok := [(1, 0, 1, 1, []), (7, 1, 7, 0, [100, 101, 102, 105, 110, 101]), (7, 8, 9, 0, [120]), (3, 10, 11, 0, []), (1, 11, 12, 2, []), (7, 12, 13, 0, [97]), (5, 14, 17, -12, []), (2, 17, 18, 2, []), (2, 18, 19, 1, [])]
def awP : List UInt8 := [40, 100, 101, 102, 105, 110, 101, 32, 120, 32, 39, 91, 97, 32, 45, 49, 50, 93, 41]
theorem aw_lex : lexS aw1 = (awT, (0, 0), 0) := by kernel_rfl
theorem aw_bad : lexS aw2 = ([], (0, 5), 6) := by kernel_rfl
theorem aw_print : prS awT = (awP, 0, 0) := by decide +kernel
theorem aw_int : intE [48, 48, 55] = (7, 0) := by decide +kernel
theorem aw_sym : symL [43, 45, 53] = true ∧ symL [45, 53] = false := by decide +kernel
theorem aw_tkb : TkB awT := by
  have : ∀ t ∈ awT, decide (fits t.2.2.2.1 ∧ t.2.2.2.2.length ≤ 1000000) = true := by decide +kernel
  exact fun t ht => of_decide_eq_true (this t ht)

set_option maxRecDepth 100000 in
set_option maxHeartbeats 6400000 in
theorem awake_any (w : World) (T : PTabs w) : Calls Tryd.prog 5 #[] w fun e w' => e = .returned (.bool true) ∧ Below w.heap.size w w' := by
  have CL1 := Lib.hid (fun W (hW : Below w.heap.size w W) => Lex_at aw_lex 9 rfl (some ⟨W.heap.size, 0, none⟩) 25 25 (litW W awC1) (lit_at W aw1 awC1 rfl) (by omega) (by omega) rfl (T.below (hW.trans ((lit_below W _).mono hW.size))).lt)
  have CL2 := Lib.hid (fun W (hW : Below w.heap.size w W) => Lex_at aw_bad 0 rfl (some ⟨W.heap.size, 0, none⟩) 5 5 (litW W awC2) (lit_at W aw2 awC2 rfl) (by omega) (by omega) rfl (T.below (hW.trans ((lit_below W _).mono hW.size))).lt)
  have CP : Hid (∀ v W, Below w.heap.size w W → TksAt W v awT → Calls Tryd.prog 14 #[v] W fun e w' => e = .returned (.tuple #[.string ⟨#[40, 100, 101, 102, 105, 110, 101, 32, 120, 32, 39, 91, 97, 32, 45, 49, 50, 93, 41]⟩, .int .i64 0, .int .i64 0]) ∧ Below W.heap.size W w') := Lib.hid fun v W hW hv => by
    have := Print_any v awT W hv (by decide) aw_tkb (T.below hW)
    unfold prV at this
    rw [aw_print] at this; exact this
  have CI : Hid (∀ W, Below w.heap.size w W → Calls Tryd.prog 15 #[.string (str [48, 48, 55])] W fun e w' => e = .returned (.tuple #[.int .i64 7, .int .i64 0]) ∧ Below W.heap.size W w') := Lib.hid fun W hW => by
    have := Integer_any [48, 48, 55] W (by decide) (T.below hW).lt.rg (T.below hW).lt.gr
    unfold intV at this
    rw [aw_int] at this; exact this
  have CS1 : Hid (∀ W, Below w.heap.size w W → Calls Tryd.prog 16 #[.string (str [43, 45, 53])] W fun e w' => e = .returned (.bool true) ∧ Below W.heap.size W w') := Lib.hid fun W hW => by
    have := Symbol_any [43, 45, 53] W (by decide) (T.below hW).lt.st
    rw [aw_sym.1] at this; exact this
  have CS2 : Hid (∀ W, Below w.heap.size w W → Calls Tryd.prog 16 #[.string (str [45, 53])] W fun e w' => e = .returned (.bool false) ∧ Below W.heap.size W w') := Lib.hid fun W hW => by
    have := Symbol_any [45, 53] W (by decide) (T.below hW).lt.st
    rw [aw_sym.2] at this; exact this
  have hcv1 : ∀ W : World, (convert 22 22 (.slice (some ⟨W.heap.size, 0, none⟩) 25 25)).run Tryd.prog (W.alloc (.cells #[.int .u8 40, .int .u8 100, .int .u8 101, .int .u8 102, .int .u8 105, .int .u8 110, .int .u8 101, .int .u8 32, .int .u8 120, .int .u8 32, .int .u8 39, .int .u8 91, .int .u8 97, .int .u8 32, .int .u8 45, .int .u8 49, .int .u8 50, .int .u8 93, .int .u8 41, .int .u8 32, .int .u8 59, .int .u8 32, .int .u8 97, .int .u8 108, .int .u8 108] 5)) = .ok (.slice (some ⟨W.heap.size, 0, none⟩) 25 25) (litW W awC1) := fun W => lit_run W awC1 25
  clear T
  go_enter Tryd.func5, Tryd.ntmps5
  go_wp2_with fail
  refine (CL1.out w (Below.refl _ _)).mono ?_
  rintro e w1 ⟨v1, cv1, rfl, HO1, hb1⟩
  have hB1 : Below w.heap.size w w1 := (lit_below _ _).trans (hb1.mono (lit_below w awC1).size)
  have hcv2 : (convert 22 22 (.slice (some ⟨w1.heap.size + 1, 0, none⟩) 5 5)).run Tryd.prog ((w1.alloc (.cells #[.int .i64 0, .int .i64 0] 27)).alloc (.cells #[.int .u8 35, .int .u8 116, .int .u8 114, .int .u8 117, .int .u8 101] 5)) = .ok (.slice (some ⟨w1.heap.size + 1, 0, none⟩) 5 5) (litW (w1.alloc (.cells #[.int .i64 0, .int .i64 0] 27)) awC2) := by
    have h := lit_run (w1.alloc (.cells #[.int .i64 0, .int .i64 0] 27)) awC2 5
    rwa [World.size_alloc] at h
  have C2 := CL2.out (w1.alloc (.cells #[.int .i64 0, .int .i64 0] 27)) (hB1.alloc hB1.size _)
  rw [World.size_alloc] at C2
  have HC2 := Lib.hid C2
  clear C2
  obtain ⟨W2, hW2⟩ : ∃ W2, W2 = litW (w1.alloc (.cells #[.int .i64 0, .int .i64 0] 27)) awC2 := ⟨_, rfl⟩
  rw [← hW2] at hcv2 HC2
  have hB2 : Below w.heap.size w W2 := by rw [hW2]; exact (hB1.alloc hB1.size _).trans ((lit_below _ _).mono (hB1.alloc hB1.size _).size)
  have hb12 : Below w1.heap.size w1 W2 := by rw [hW2]; exact (below_b1 w1 _).trans ((lit_below _ _).mono (below_b1 w1 _).size)
  clear hW2
  go_wp2_with fail
  -- MARK1
  refine HC2.out.mono ?_
  rintro e w3 ⟨v2, cv2, rfl, _, hb3⟩
  have hB3 := hB2.trans (hb3.mono hB2.size)
  have hb13 := hb12.trans (hb3.mono hb12.size)
  have HO3 := Lib.hid (own_below HO1.out hb13)
  clear hcv2 hcv1
  go_wp2_with fail
  -- MARK2
  obtain ⟨W4, hW4⟩ : ∃ W4, W4 = w3.alloc (.cells #[.int .i64 0, .int .i64 5] 27) := ⟨_, rfl⟩
  have hB4 : Below w.heap.size w W4 := by rw [hW4]; exact hB3.alloc hB3.size _
  have hx4 : W4.heap[w3.heap.size]? = some (.cells #[.int .i64 0, .int .i64 5] 27 (0, 0)) := by rw [hW4]; exact World.alloc_heap_new _ _
  have HX4 := Lib.hid hx4
  have HO4 : Hid (W4.ownsRow _ 33 5 (.slice v1 9 cv1) 9 (tcs awT)) := Lib.hid (by rw [hW4]; exact HO3.out.alloc _)
  rw [← hW4]
  clear hx4 hW4
  refine (CP.out _ _ hB4 (tks_own HO4.out rfl)).mono ?_
  rintro e w5 ⟨rfl, hb5⟩
  have hB5 := hB4.trans (hb5.mono hB4.size)
  go_wp2_with fail
  -- MARK3
  refine (CI.out _ hB5).mono ?_
  rintro e w6 ⟨rfl, hb6⟩
  have hB6 := hB5.trans (hb6.mono hB5.size)
  have hb46 := hb5.trans (hb6.mono hb5.size)
  obtain ⟨x0, x1⟩ := box2_facts ((hb46.block _ (Array.getElem?_eq_some_iff.1 HX4.out).1).trans HX4.out)
  obtain ⟨g, off, cap, e1, hg, hc⟩ := (TksAt.below (tks_own HO4.out rfl) hb46 (Nat.le_refl _)).some (by decide)
  obtain ⟨rfl, h9, rfl⟩ := Value.slice.inj e1
  clear h9
  have c1 := hc 33 (.int .i64 (-12)) rfl
  have c2 := hc 9 (.string ⟨#[100, 101, 102, 105, 110, 101]⟩) rfl
  clear hc e1
  go_wp2_with fail
  -- MARK4
  refine (CS1.out _ hB6).mono ?_
  rintro e w7 ⟨rfl, hb7⟩
  go_wp2_with fail
  refine (CS2.out _ (hB6.trans (hb7.mono hB6.size))).mono ?_
  rintro e w8 ⟨rfl, hb8⟩
  go_wp2_with fail
  -- MARK5
  go_ret
  exact ⟨rfl, (hB6.trans (hb7.mono hB6.size)).trans (hb8.mono (hB6.trans (hb7.mono hB6.size)).size)⟩
  -- MARK9
end Go.Proofs.YtemoeohchhpilaaDoor
