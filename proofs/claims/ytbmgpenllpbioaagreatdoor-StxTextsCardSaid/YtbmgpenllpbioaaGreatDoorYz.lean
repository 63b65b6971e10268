/- The reference's SameTree, Ints; the law's Example, awake. (Written by tools/gen_yz.py.) -/
import Derived.Test.YtbmgpenllpbioaaGreatDoorYu
import Derived.BigQuiet
import Derived.ChangeAlike
namespace Go.Proofs.YtbmgpenllpbioaaGreatDoor
open Go.RowKit Go.PlainAid

set_option maxRecDepth 50000 in
set_option maxHeartbeats 3200000 in
theorem sameTree_any (v u : Value) (l : List Sx) (w : World) (h : XsAt w v l) (h2 : XsAt w u l) (hl : l.length ≤ 1000000) :
    Calls Tryz.prog 23 #[v, u] w fun e w' => e = .returned (.bool true) ∧ Below w.heap.size w w' := by
  obtain ⟨a, c, rfl, hc⟩ := h.slice
  obtain ⟨a', c', rfl, hc'⟩ := h2.slice
  obtain ⟨n, hn⟩ : ∃ n, l.length = n := ⟨_, rfl⟩
  rw [hn] at h h2 hc hc' hl ⊢
  have H := Lib.hid h
  have H' := Lib.hid h2
  have HN := Lib.hid hn
  have hne : (((n : Int)) != (n : Int)) = false := by simp
  clear h h2 hn
  go_enter Tryz.func23, Tryz.ntmps23
  go_wp2_with fail
  -- MARKS1
  go_loopw [5] (fun x5 wr => ∃ k : Nat, k ≤ n ∧ x5 = .int .i64 k ∧ Below w.heap.size w wr) (fun x5 _ => n - (intOf x5).toNat)
  case atStart => exact ⟨0, Nat.zero_le _, rfl, Below.refl _ _⟩
  case round =>
    obtain ⟨k, hk, rfl, hB⟩ := hrel
    by_cases hlt : k < n
    · obtain ⟨x, hx⟩ : ∃ x, l[k]? = some x := ⟨_, List.getElem?_eq_getElem (by rw [HN.out]; exact hlt)⟩
      obtain ⟨g, off, rfl, _, c0, c1, c2, c3, c4, c5, c6, c7⟩ := (H.out.below hB (Nat.le_refl _)).node hx
      obtain ⟨g', off', rfl, _, d0, d1, d2, d3, d4, d5, d6, d7⟩ := (H'.out.below hB (Nat.le_refl _)).node hx
      obtain ⟨y0, y1, y2, y3, y4, y5, y6, y7⟩ := x
      simp only at c0 c1 c2 c3 c4 c5 c6 c7 d0 d1 d2 d3 d4 d5 d6 d7
      obtain ⟨S, hS⟩ : ∃ S, str y3 = S := ⟨_, rfl⟩
      obtain ⟨P, hP⟩ : ∃ S, str y4 = S := ⟨_, rfl⟩
      rw [hS] at c3 d3
      rw [hP] at c4 d4
      have hkm : (k : Int) < (n : Int) := by omega
      have hk0 : (0 : Int) ≤ (k : Int) := Int.natCast_nonneg _
      clear hx hS hP
      go_wp2_with fail
      go_quiet (fail)
      go_wp2_with fail
      -- MARKS2
      exact ⟨⟨k + 1, by omega, by go_num, ⟨hB.os, hB.tape, hB.output, hB.size, hB.block⟩⟩, by simp [intOf]; omega⟩
    · obtain rfl : k = n := by omega
      go_wp2_with fail
      go_ret
      exact ⟨rfl, hB⟩
theorem NatAt.num {w : World} {v : Value} {l : List Nat} (h : NatAt w v l) {k x : Nat} (hk : l[k]? = some x) : ∃ g off c, v = .slice (some ⟨g, off, none⟩) l.length c ∧ w.cell? ⟨g, off + k, none⟩ = some (.int .i64 (x : Int)) := by
  obtain ⟨a, n, c, rfl, hn, _, h⟩ := h
  rcases h with rfl | ⟨g, off, rfl, _, hc⟩
  · simp at hk
  · subst hn; exact ⟨g, off, c, rfl, hc k x hk⟩
theorem NatAt.slice {w : World} {v : Value} {l : List Nat} (h : NatAt w v l) : ∃ a c, v = .slice a l.length c := by
  obtain ⟨a, n, c, rfl, hn, _⟩ := h
  subst hn; exact ⟨a, c, rfl⟩
theorem nat_row {w : World} {B n : Nat} {v : Value} {l : List Nat} (h : w.ownsRow B 3 1 v n (natC l)) (hn : l.length = n) : NatAt w v l := by
  rcases own_form h with ⟨rfl, h0⟩ | ⟨g, c, rfl, h1, h2⟩
  · exact ⟨none, 0, 0, rfl, by omega, Nat.le_refl _, .inl (List.length_eq_zero_iff.1 (by omega))⟩
  · have hc := (own_cap h).1
    refine ⟨_, n, c, rfl, hn.symm, hc, .inr ⟨g, 0, rfl, h2, fun j x hj => ?_⟩⟩
    have := h.cells (g := g) rfl j (.int .i64 x) (by unfold natC; rw [List.getElem?_map, hj]; rfl)
    rw [Go.WideShapes.add_plain] at this; exact this
set_option maxRecDepth 50000 in
set_option maxHeartbeats 3200000 in
theorem ints_same (v u : Value) (l : List Nat) (w : World) (h : NatAt w v l) (h2 : NatAt w u l) (hl : l.length ≤ 1000000) :
    Calls Tryz.prog 18 #[v, u] w fun e w' => e = .returned (.bool true) ∧ Below w.heap.size w w' := by
  have H := Lib.hid (fun W (hW : Below w.heap.size w W) => h.below hW (Nat.le_refl _))
  have H' := Lib.hid (fun W (hW : Below w.heap.size w W) => h2.below hW (Nat.le_refl _))
  obtain ⟨a, c, rfl⟩ := h.slice
  obtain ⟨a', c', rfl⟩ := h2.slice
  obtain ⟨n, hn⟩ : ∃ n, l.length = n := ⟨_, rfl⟩
  rw [hn] at H H' hl ⊢
  have HN := Lib.hid hn
  have hne : (((n : Int)) != (n : Int)) = false := by simp
  clear h h2 hn
  go_enter Tryz.func18, Tryz.ntmps18
  go_wp2_with fail
  go_loopw [5] (fun x5 wr => ∃ k : Nat, k ≤ n ∧ x5 = .int .i64 k ∧ Below w.heap.size w wr) (fun x5 _ => n - (intOf x5).toNat)
  case atStart => exact ⟨0, Nat.zero_le _, rfl, Below.refl _ _⟩
  case round =>
    obtain ⟨k, hk, rfl, hB⟩ := hrel
    by_cases hlt : k < n
    · obtain ⟨x, hx⟩ : ∃ x, l[k]? = some x := ⟨_, List.getElem?_eq_getElem (by rw [HN.out]; exact hlt)⟩
      obtain ⟨g, off, cc, e1, c0⟩ := (H.out wr hB).num hx
      obtain ⟨g', off', cc', e2, d0⟩ := (H'.out wr hB).num hx
      obtain ⟨rfl, _, rfl⟩ := Value.slice.inj e1
      obtain ⟨rfl, _, rfl⟩ := Value.slice.inj e2
      have hkm : (k : Int) < (n : Int) := by omega
      have hk0 : (0 : Int) ≤ (k : Int) := Int.natCast_nonneg _
      clear hx e1 e2
      go_wp2_with fail
      go_quiet (fail)
      go_wp2_with fail
      exact ⟨⟨k + 1, by omega, by go_num, ⟨hB.os, hB.tape, hB.output, hB.size, hB.block⟩⟩, by simp [intOf]; omega⟩
    · obtain rfl : k = n := by omega
      go_wp2_with fail
      go_ret
      exact ⟨rfl, hB⟩
def exL : List Sx := [⟨4, 3, 0, [], [], 0, 0, 0⟩, ⟨3, 0, 0, [102], [0, 1], 0, 0, 0⟩, ⟨3, 0, 0, [120], [0, 1, 0, 2], 0, 0, 0⟩, ⟨1, 0, 1, [], [], 0, 0, 0⟩]
def exA : List Sx := [⟨4, 3, 0, [], [0, 2], 0, 0, 0⟩, ⟨3, 0, 0, [102], [0, 1, 0, 2], 0, 0, 0⟩, ⟨3, 0, 0, [120], [0, 1, 0, 2], 0, 0, 0⟩, ⟨1, 0, 1, [], [0, 2], 0, 0, 0⟩]
def exF : List Sx := [⟨4, 3, 0, [], [0, 2], 0, 0, 0⟩, ⟨3, 0, 0, [102], [0, 1, 0, 2], 0, 0, 0⟩, ⟨3, 0, 0, [120], [0, 1], 0, 0, 0⟩, ⟨1, 0, 1, [], [0, 2], 0, 0, 0⟩]
def ex7 : List Sx := [⟨1, 0, 7, [], [], 0, 0, 0⟩]
def exP : List Sx := [⟨4, 3, 0, [], [], 0, 0, 0⟩, ⟨3, 0, 0, [102], [0, 1], 0, 0, 0⟩, ⟨1, 0, 7, [], [], 0, 0, 0⟩, ⟨1, 0, 1, [], [], 0, 0, 0⟩]
theorem ex_chk : chkX exL = (0, 0) := by kernel_rfl
theorem exA_chk : chkX exA = (0, 0) := by kernel_rfl
theorem exF_chk : chkX exF = (0, 0) := by kernel_rfl
theorem ex7_chk : chkX ex7 = (0, 0) := by kernel_rfl
theorem exP_chk : chkX exP = (0, 0) := by kernel_rfl
theorem ex3_chk : chkX (exL.take 3) = (3, 6) := by kernel_rfl
def okB (l : List Sx) : Bool := l.all fun x => decide (x.s.length ≤ 100000 ∧ x.p.length ≤ 100000 ∧ x.c ≤ 9223372036854775807 ∧ -9223372036854775808 ≤ x.n ∧ x.n ≤ 9223372036854775807)
theorem okB_of {l : List Sx} (h : okB l = true) : SmX l ∧ InX l ∧ IrX l := by
  have : ∀ x ∈ l, x.s.length ≤ 100000 ∧ x.p.length ≤ 100000 ∧ x.c ≤ 9223372036854775807 ∧ -9223372036854775808 ≤ x.n ∧ x.n ≤ 9223372036854775807 := fun x hx => of_decide_eq_true (List.all_eq_true.1 h x hx)
  exact ⟨fun x hx => ⟨(this x hx).1, (this x hx).2.1⟩, fun x hx => (this x hx).2.2.1, fun x hx => ⟨(this x hx).2.2.2.1, (this x hx).2.2.2.2⟩⟩
theorem ex_ok : SmX exL ∧ InX exL ∧ IrX exL := okB_of (by decide +kernel)
theorem exA_ok : SmX exA ∧ InX exA ∧ IrX exA := okB_of (by decide +kernel)
theorem exF_ok : SmX exF ∧ InX exF ∧ IrX exF := okB_of (by decide +kernel)
theorem ex7_ok : SmX ex7 ∧ InX ex7 ∧ IrX ex7 := okB_of (by decide +kernel)
theorem exP_ok : SmX exP ∧ InX exP ∧ IrX exP := okB_of (by decide +kernel)
theorem ex3_ok : SmX (exL.take 3) ∧ InX (exL.take 3) ∧ IrX (exL.take 3) := okB_of (by decide +kernel)
theorem ex_kid : kidR exL 0 = ([1, 2, 3], 0) := by kernel_rfl
theorem ex_size : sizeX exL 0 = (4, 0) := by kernel_rfl
theorem ex_put : putX exL 2 ex7 = (exP, 0) := by kernel_rfl
theorem one_res {f b s : Bool} {l r : List Nat} {n : Nat} (hl : SetOf l) (hn : n < 65536) (h : mg f b s l [n] = r) (hr : r.length ≤ 10000) : oneS f b s (setL l) (n : Int) = (setL r, 0) := by
  rw [one_set hl hn, h, out_ok hr]
theorem s1 : SetOf [1] := SetOf.one (by omega)
theorem s12 : SetOf [1, 2] := ⟨by decide, by decide, by decide⟩
theorem add_0 : oneS true true true [] 2 = ([0, 2], 0) := one_res (r := [2]) SetOf.nil (n := 2) (by omega) (by rw [mg_nil]; rfl) (by decide)
theorem add_1 : oneS true true true [0, 1] 2 = ([0, 1, 0, 2], 0) := one_res (r := [1, 2]) s1 (n := 2) (by omega) (by rw [mg_lt (by omega), mg_nil]; rfl) (by decide)
theorem add_12 : oneS true true true [0, 1, 0, 2] 2 = ([0, 1, 0, 2], 0) := one_res (r := [1, 2]) s12 (n := 2) (by omega) (by rw [mg_lt (by omega), mg_eq rfl, mg_nil]; rfl) (by decide)
theorem flip_0 : oneS true false true [] 2 = ([0, 2], 0) := one_res (r := [2]) SetOf.nil (n := 2) (by omega) (by rw [mg_nil]; rfl) (by decide)
theorem flip_1 : oneS true false true [0, 1] 2 = ([0, 1, 0, 2], 0) := one_res (r := [1, 2]) s1 (n := 2) (by omega) (by rw [mg_lt (by omega), mg_nil]; rfl) (by decide)
theorem flip_12 : oneS true false true [0, 1, 0, 2] 2 = ([0, 1], 0) := one_res (r := [1]) s12 (n := 2) (by omega) (by rw [mg_lt (by omega), mg_eq rfl, mg_nil]; rfl) (by decide)
theorem ex_add : chgS (fun p => oneS true true true p 2) exL = (exA, 0) := by
  have hE : firstE (fun p => oneS true true true p 2) exL = 0 := by
    refine firstE_none fun x hx => ?_
    simp only [exL, List.mem_cons, List.not_mem_nil, or_false] at hx
    rcases hx with rfl | rfl | rfl | rfl
    · show (oneS true true true [] 2).2 = 0; rw [add_0]
    · show (oneS true true true [0, 1] 2).2 = 0; rw [add_1]
    · show (oneS true true true [0, 1, 0, 2] 2).2 = 0; rw [add_12]
    · show (oneS true true true [] 2).2 = 0; rw [add_0]
  rw [chgS_ok (by rw [ex_chk]) hE]
  simp only [exL, exA, List.map_cons, List.map_nil, setP, add_0, add_1, add_12]
theorem ex_flip : chgS (fun p => oneS true false true p 2) exL = (exF, 0) := by
  have hE : firstE (fun p => oneS true false true p 2) exL = 0 := by
    refine firstE_none fun x hx => ?_
    simp only [exL, List.mem_cons, List.not_mem_nil, or_false] at hx
    rcases hx with rfl | rfl | rfl | rfl
    · show (oneS true false true [] 2).2 = 0; rw [flip_0]
    · show (oneS true false true [0, 1] 2).2 = 0; rw [flip_1]
    · show (oneS true false true [0, 1, 0, 2] 2).2 = 0; rw [flip_12]
    · show (oneS true false true [] 2).2 = 0; rw [flip_0]
  rw [chgS_ok (by rw [ex_chk]) hE]
  simp only [exL, exF, List.map_cons, List.map_nil, setP, flip_0, flip_1, flip_12]
theorem exA_print : prtX exA = ([40, 102, 123, 49, 45, 50, 125, 32, 120, 123, 49, 45, 50, 125, 32, 49, 41], 0) := by kernel_rfl
theorem exF_print : prtX exF = ([40, 102, 123, 49, 45, 50, 125, 32, 120, 123, 49, 125, 32, 49, 41], 0) := by kernel_rfl
theorem exP_print : prtX exP = ([40, 102, 123, 49, 125, 32, 55, 32, 49, 41], 0) := by kernel_rfl
theorem ex_same : sameX (exL.getD 1 ⟨0, 0, 0, [], [], 0, 0, 0⟩) (exL.getD 2 ⟨0, 0, 0, [], [], 0, 0, 0⟩) = false := by decide +kernel
theorem xs_lit {w : World} {l : List Sx} {C : Array Value} (hC : C = (xcs l).toArray) (n : Nat) (hn : l.length = n) : XsAt (w.alloc (.cells C 28)) (.slice (some ⟨w.heap.size, 0, none⟩) n n) l := by
  subst hC
  refine ⟨_, n, n, rfl, hn.symm, Nat.le_refl _, .inr ⟨w.heap.size, 0, rfl, by simp, fun j u hj => ?_⟩⟩
  have h := World.alloc_heap_new w (.cells (xcs l).toArray 28)
  rw [Nat.zero_add]
  simp only [World.cell?, h, Option.isSome_none]
  simpa using hj
def exC : Array Value := #[.int .i64 4, .int .i64 3, .int .i64 0, .string ⟨#[]⟩, .string ⟨#[]⟩, .int .i64 0, .int .i64 0, .int .i64 0, .int .i64 3, .int .i64 0, .int .i64 0, .string ⟨#[102]⟩, .string ⟨#[0, 1]⟩, .int .i64 0, .int .i64 0, .int .i64 0, .int .i64 3, .int .i64 0, .int .i64 0, .string ⟨#[120]⟩, .string ⟨#[0, 1, 0, 2]⟩, .int .i64 0, .int .i64 0, .int .i64 0, .int .i64 1, .int .i64 0, .int .i64 1, .string ⟨#[]⟩, .string ⟨#[]⟩, .int .i64 0, .int .i64 0, .int .i64 0]
theorem exC_eq : exC = (xcs exL).toArray := rfl
def ex7C : Array Value := #[.int .i64 1, .int .i64 0, .int .i64 7, .string ⟨#[]⟩, .string ⟨#[]⟩, .int .i64 0, .int .i64 0, .int .i64 0]
theorem ex7C_eq : ex7C = (xcs ex7).toArray := rfl
set_option maxRecDepth 50000 in
set_option maxHeartbeats 3200000 in
theorem Example_any (w : World) : Calls Tryz.prog 46 #[] w fun e w' => ∃ g, e = .returned (.slice (some ⟨g, 0, none⟩) 4 4) ∧ XsAt w' (.slice (some ⟨g, 0, none⟩) 4 4) exL ∧ Below w.heap.size w w' := by
  have HX := Lib.hid (xs_lit (w := w) exC_eq 4 rfl)
  unfold exC at HX
  go_enter Tryz.func46, Tryz.ntmps46
  go_wp2_with fail
  -- MARKE
  go_ret
  exact ⟨_, rfl, HX.out, below_b1 _ _⟩
theorem chgV_at {r : List Sx} {er : Int} {n : Nat} {rr : List Sx × Int} (h : rr = (r, er)) (hn : r.length = n) {w : World} {e : Ending} {w' : World} (hc : ChgV rr w e w') :
    ∃ a c, e = .returned (.tuple #[.slice a n c, .int .i64 er]) ∧ XsAt w' (.slice a n c) r ∧ Below w.heap.size w w' := by
  subst h hn
  obtain ⟨a, c, rfl, ho, hb⟩ := hc
  exact ⟨a, c, rfl, xs_own ho.out rfl, hb⟩
end Go.Proofs.YtbmgpenllpbioaaGreatDoor
