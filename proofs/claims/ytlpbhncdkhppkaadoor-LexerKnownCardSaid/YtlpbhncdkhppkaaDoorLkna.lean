/- Gaps, slices of spans, the law LexerKnown: Lgap, Lsg and Lkn in one text. -/
import Derived.Test.YtlpbhncdkhppkaaDoorLbm
import Derived.Test.YtlpbhncdkhppkaaDoorLa
import Derived.Test.YtlpbhncdkhppkaaDoorLlp
namespace Go.Proofs.YtlpbhncdkhppkaaDoor
open Go.RowKit Go.PlainAid

def gcs (l : List (Int × Int)) : List Value := l.flatMap fun s => [.int .i64 s.1, .int .i64 s.2]
theorem gcs_app (a b : List (Int × Int)) : gcs (a ++ b) = gcs a ++ gcs b := List.flatMap_append
theorem gcs_one (x y : Int) : gcs [(x, y)] = [.int .i64 x, .int .i64 y] := rfl
/-- Where the gap before the token at k begins. -/
def fromK (l : List Tok) : Nat → Int
  | 0 => 0
  | k + 1 => ((l[k]?).map (·.2.2.1)).getD 0
def headK (l : List Tok) (k : Nat) : Int := ((l[k]?).map (·.2.1)).getD 0
/-- The gaps before the first k tokens. -/
def gU (l : List Tok) : Nat → List (Int × Int)
  | 0 => []
  | k + 1 => gU l k ++ [(fromK l k, headK l k)]
theorem gU_len (l : List Tok) : ∀ k, (gU l k).length = k := by
  intro k
  induction k with
  | zero => rfl
  | succ k ih => rw [gU, List.length_append, ih]; rfl
def gapsS (b : List UInt8) : List (Int × Int) := if (lexS b).2.2 ≠ 0 then [] else gU (lexS b).1 (lexS b).1.length ++ [(fromK (lexS b).1 (lexS b).1.length, (b.length : Int))]
theorem lex_len (b : List UInt8) : (lexS b).1.length ≤ b.length := by
  unfold lexS; split
  · exact Nat.zero_le _
  · exact (lex_good _ 0 b (Nat.le_refl _)).1
def zeroSpL : Value := .agg #[.int .i64 0, .int .i64 0]
theorem infoSpL : (Tryd.prog.info? 27).map (fun i => (i.zero, i.size, i.bytes)) = some (some zeroSpL, 2, 16) := by kernel_rfl
theorem one_two (x y : Int) : ∀ u ∈ ([.int .i64 x, .int .i64 y] : List Value), u.oneCell' = true := by
  intro u hu; simp at hu; rcases hu with rfl | rfl <;> rfl
set_option maxRecDepth 50000 in
set_option maxHeartbeats 6400000 in
theorem Gaps_any (a : Option Addr) (n c : Nat) (b : List UInt8) (w : World) (hv : BytesAt w (.slice a n c) b) (hcap : n ≤ c) (hl : n ≤ 1000000) (hn : b.length = n) (T : LTabs w) :
    Calls Tryd.prog 19 #[.slice a n c] w fun e w' => ∃ vg, e = .returned (.tuple #[vg, .int .i64 (lexS b).2.2]) ∧ Hid (w'.ownsRow w.heap.size 27 2 vg (gapsS b).length (gcs (gapsS b))) ∧ Below w.heap.size w w' := by
  obtain ⟨r, hr⟩ : ∃ r, lexS b = r := ⟨_, rfl⟩
  have hlen := lex_len b
  rw [hr] at hlen
  have HG0 : Hid (gapsS b = if r.2.2 ≠ 0 then [] else gU r.1 r.1.length ++ [(fromK r.1 r.1.length, (n : Int))]) := Lib.hid (by unfold gapsS; rw [hr, hn])
  obtain ⟨m, ⟨f1, f2⟩, fe⟩ := r
  have CL := Lib.hid (Lex_at hr m.length rfl a n c w hv hcap hl hn T)
  rw [hr]
  simp only at HG0 CL hlen ⊢
  obtain ⟨k1, hk1⟩ : ∃ k1, m.length = k1 := ⟨_, rfl⟩
  have HK := Lib.hid hk1
  rw [hk1] at HG0 CL hlen
  clear hv T hr hk1
  by_cases hfe : fe = 0
  · subst hfe
    have HG : Hid (gapsS b = gU m k1 ++ [(fromK m k1, (n : Int))]) := Lib.hid (by rw [HG0.out, if_neg (by simp)])
    clear HG0
    go_enter Tryd.func19, Tryd.ntmps19
    go_wp2_with fail
    refine CL.out.mono ?_
    rintro e w2 ⟨v1, cv1, rfl, ho, hb2⟩
    have HT1 := Lib.hid (tks_own ho.out HK.out)
    clear ho CL
    obtain ⟨Wb, hWb⟩ : ∃ Wb, Wb = w2.alloc (.cells #[.int .i64 f1, .int .i64 f2] 27) := ⟨_, rfl⟩
    have hBb : Below w.heap.size w Wb := by rw [hWb]; exact hb2.alloc hb2.size _
    have HTb : Hid (TksAt Wb (.slice v1 k1 cv1) m) := Lib.hid (by rw [hWb]; exact HT1.out.below (below_b1 _ _) (Nat.le_refl _))
    clear HT1
    go_wp2_with fail
    -- MARK1
    rw [← hWb]
    clear hWb
    go_loopw [7, 8, 22] (fun x7 x8 x22 wr => ∃ (k : Nat) (p : Int) (g : Option Addr) (cg : Nat), x7 = .slice g k cg ∧ x8 = .int .i64 p ∧ x22 = .int .i64 (k : Int) ∧ k ≤ k1 ∧ Hid (p = fromK m k) ∧ Hid (wr.ownsRow Wb.heap.size 27 2 (.slice g k cg) k (gcs (gU m k))) ∧ Below Wb.heap.size Wb wr) (fun _ _ x22 _ => k1 - (intOf x22).toNat)
    case atStart => exact ⟨0, 0, none, 0, rfl, rfl, rfl, Nat.zero_le _, Lib.hid rfl, Lib.hid (own_nil _ _ _ _), Below.refl _ _⟩
    case round =>
      obtain ⟨k, p, g, cg, rfl, rfl, rfl, hk, HP, HO, hb⟩ := hrel
      have hbw := hBb.trans (hb.mono hBb.size)
      have hk0 : (0 : Int) ≤ (k : Int) := Int.natCast_nonneg _
      obtain ⟨i0, hi, hz0, hz1, hz2⟩ := info_parts2 infoSpL
      by_cases hlt : k < k1
      · obtain ⟨t, ht⟩ : ∃ t, m[k]? = some t := ⟨_, List.getElem?_eq_getElem (by rw [HK.out]; exact hlt)⟩
        obtain ⟨gt, off, cc, hv, hg, hcl⟩ := (HTb.out.below hb (Nat.le_refl _)).some (by intro e; rw [e] at ht; cases ht)
        obtain ⟨rfl, hv2, rfl⟩ := Value.slice.inj hv
        obtain ⟨a0, a1, a2, a3, a4⟩ := tcs_at m ht
        have F : ∀ j u, (tcs m)[j]? = some u → wr.cell? ⟨gt, off + j, none⟩ = some u := hcl
        have c0 : wr.cell? ⟨gt, off + k * 5, none⟩ = _ := F _ _ a0
        have c1 : wr.cell? ⟨gt, off + k * 5 + 1, none⟩ = _ := F _ _ a1
        have c2 : wr.cell? ⟨gt, off + k * 5 + 2, none⟩ = _ := F _ _ a2
        have c3 : wr.cell? ⟨gt, off + k * 5 + 3, none⟩ = _ := F _ _ a3
        have c4 : wr.cell? ⟨gt, off + k * 5 + 4, none⟩ = _ := F _ _ a4
        obtain ⟨tk, tf, tt, tn, tx⟩ := t
        simp only at c0 c1 c2 c3 c4
        have HU : Hid (gU m (k + 1) = gU m k ++ [(p, tf)] ∧ fromK m (k + 1) = tt) := Lib.hid ⟨by rw [gU, HP.out, headK, ht]; rfl, by rw [fromK, ht]; rfl⟩
        obtain ⟨X, hX⟩ : ∃ X, str tx = X := ⟨_, rfl⟩
        rw [hX] at c4
        have d3 := World.alloc_heap_new wr (.cells #[.int .i64 tk, .int .i64 tf, .int .i64 tt, .int .i64 tn, .string X] 33)
        obtain ⟨⟨f0, f1', f2', f3, f4⟩, _⟩ := box5_facts d3
        have hk1 : (k : Int) < (k1 : Int) := by omega
        have hgs : gt < wr.heap.size := hg
        have HG2 : Hid (∀ o w3, ((wr.alloc (.cells #[.int .i64 tk, .int .i64 tf, .int .i64 tt, .int .i64 tn, .string X] 33)).alloc o).grownBy w3 (Value.slice g k cg).ownBlock → Below Wb.heap.size Wb w3 ∧ w3.cell? ⟨wr.heap.size, 2, none⟩ = some (.int .i64 tt)) := Lib.hid (by
          intro o w3 hg3
          have hne : some wr.heap.size ≠ (Value.slice g k cg).ownBlock := fun e => by have := (HO.out.lt _ e.symm).2; omega
          refine ⟨((hb.alloc hb.size _).alloc (by simp only [World.size_alloc]; have := hb.size; omega) o).grown hg3 (by simp only [World.size_alloc]; have := hb.size; omega) (fun q hq => (HO.out.lt _ hq).1), ?_⟩
          refine (hg3.cell_far ⟨wr.heap.size, 2, none⟩ (by simp only [World.size_alloc]; omega) hne).trans ?_
          exact (cell_old _ _ _ (by simp only [World.size_alloc]; omega)).trans f2')
        have HSz : Hid (∀ o o', Wb.heap.size ≤ ((wr.alloc o).alloc o').heap.size) := Lib.hid (fun o o' => by simp only [World.size_alloc]; have := hb.size; omega)
        clear hv hv2 hcl F a0 a1 a2 a3 a4 ht hX d3
        go_wp2_with (at_builtin; refine wpList_append_own _ rfl _ _ 36 rfl Wb.heap.size 27 i0 zeroSpL 2 16 Tryd.underlying36 hi hz0 hz1 hz2 rfl (by decide) _ _ _ rfl ((HO.out.alloc _).alloc _) ⟨wr.heap.size + 1, 0, none⟩ 1 1 [.int .i64 p, .int .i64 tf] rfl rfl (new_cellsT _ _ _ _ (by simp)) (one_two _ _) (by unfold maxLen; omega) (by omega) (HSz.out _ _) ?_; intro v3 w3 hown3 hgrow3 _; obtain ⟨b3, cb3, rfl⟩ := own_len hown3; obtain ⟨hVb, x2⟩ := HG2.out _ _ hgrow3)
        -- MARK2
        have HO3 : Hid (w3.ownsRow Wb.heap.size 27 2 (.slice b3 (k + 1) cb3) (k + 1) (gcs (gU m (k + 1)))) := Lib.hid (by rw [HU.out.1, gcs_app, gcs_one]; exact hown3)
        exact ⟨⟨k + 1, tt, b3, cb3, rfl, rfl, by go_num, by omega, Lib.hid HU.out.2.symm, HO3, hVb⟩, by simp [intOf]; omega⟩
      · obtain rfl : k = k1 := by omega
        have hd0 : decide ((k : Int) < (k : Int)) = false := decide_eq_false (Int.lt_irrefl _)
        have HSz : Hid (∀ o, Wb.heap.size ≤ (wr.alloc o).heap.size) := Lib.hid (fun o => by simp only [World.size_alloc]; have := hb.size; omega)
        have hbbs := hBb.size
        have HG2 : Hid (∀ o w3, (wr.alloc o).grownBy w3 (Value.slice g k cg).ownBlock → Below w.heap.size w w3) := Lib.hid (by
          intro o w3 hg3
          exact (hbw.alloc hbw.size o).grown hg3 (by simp only [World.size_alloc]; have := hbw.size; omega) (fun q hq => by have := (HO.out.lt _ hq).1; omega))
        go_wp2_with (at_builtin; refine wpList_append_own _ rfl _ _ 36 rfl Wb.heap.size 27 i0 zeroSpL 2 16 Tryd.underlying36 hi hz0 hz1 hz2 rfl (by decide) _ _ _ rfl (HO.out.alloc _) ⟨wr.heap.size, 0, none⟩ 1 1 [.int .i64 p, .int .i64 (n : Int)] rfl rfl (new_cellsT _ _ _ _ rfl) (one_two _ _) (by unfold maxLen; omega) (by omega) (HSz.out _) ?_; intro v3 w3 hown3 hgrow3 _; obtain ⟨b3, cb3, rfl⟩ := own_len hown3; have hVw := HG2.out _ _ hgrow3)
        -- MARK3
        have HO3 : Hid (w3.ownsRow w.heap.size 27 2 (.slice b3 (k + 1) cb3) (gapsS b).length (gcs (gapsS b))) := Lib.hid (by
          rw [HG.out, List.length_append, gU_len, gcs_app, ← HP.out, gcs_one]
          exact own_lower hown3 hbbs)
        go_ret2
        exact ⟨_, rfl, HO3, hVw⟩
  · have hne : (fe != 0) = true := bne_iff_ne.2 hfe
    have HG : Hid (gapsS b = []) := Lib.hid (by rw [HG0.out, if_pos hfe])
    clear HG0 hfe
    go_enter Tryd.func19, Tryd.ntmps19
    go_wp2_with fail
    refine CL.out.mono ?_
    rintro e w2 ⟨v1, cv1, rfl, ho, hb2⟩
    go_wp2_with fail
    -- MARK4
    go_ret2
    exact ⟨_, rfl, by rw [HG.out]; exact Lib.hid (own_nil _ _ _ _), hb2.alloc hb2.size _⟩

theorem gcs_cons (x : Int × Int) (l : List (Int × Int)) : gcs (x :: l) = .int .i64 x.1 :: .int .i64 x.2 :: gcs l := rfl
theorem gcs_at (l : List (Int × Int)) : ∀ {k : Nat} {x : Int × Int}, l[k]? = some x → (gcs l)[k * 2]? = some (.int .i64 x.1) ∧ (gcs l)[k * 2 + 1]? = some (.int .i64 x.2) := by
  induction l with
  | nil => intro k x h; simp at h
  | cons y l ih =>
    intro k x h
    rw [gcs_cons]
    cases k with
    | zero => simp at h; subst h; simp
    | succ k =>
      have := ih (k := k) (x := x) (by simpa using h)
      rw [show (k + 1) * 2 = k * 2 + 1 + 1 by omega]
      simpa using this
/-- The slice value v holds the spans l. -/
def GcsAt (w : World) (v : Value) (l : List (Int × Int)) : Prop :=
  (∃ a c, v = .slice a 0 c ∧ l = []) ∨ ∃ g off cap, v = .slice (some ⟨g, off, none⟩) l.length cap ∧ g < w.heap.size ∧ ∀ j u, (gcs l)[j]? = some u → w.cell? ⟨g, off + j, none⟩ = some u
theorem GcsAt.below {B : Nat} {w w' : World} {v : Value} {l : List (Int × Int)} (h : GcsAt w v l) (hb : Below B w w') (hB : w.heap.size ≤ B) : GcsAt w' v l := by
  rcases h with h | ⟨g, off, cap, e, hg, hc⟩
  · exact .inl h
  · exact .inr ⟨g, off, cap, e, Nat.lt_of_lt_of_le hg hb.size, fun j u hj => (hb.cell (p := ⟨g, off + j, none⟩) (by show g < B; omega)).trans (hc j u hj)⟩
theorem GcsAt.slice {w : World} {v : Value} {l : List (Int × Int)} (h : GcsAt w v l) : ∃ a c, v = .slice a l.length c := by
  rcases h with ⟨a, c, e, rfl⟩ | ⟨g, off, c, e, _⟩
  · exact ⟨_, _, e⟩
  · exact ⟨_, _, e⟩
theorem GcsAt.some {w : World} {v : Value} {l : List (Int × Int)} (h : GcsAt w v l) (hl : l ≠ []) : ∃ g off cap, v = .slice (some ⟨g, off, none⟩) l.length cap ∧ g < w.heap.size ∧ ∀ j u, (gcs l)[j]? = some u → w.cell? ⟨g, off + j, none⟩ = some u := by
  rcases h with ⟨a, c, e, rfl⟩ | h
  · exact absurd rfl hl
  · exact h
theorem gcs_own {w : World} {B n : Nat} {v : Value} {l : List (Int × Int)} (h : w.ownsRow B 27 2 v n (gcs l)) (hn : l.length = n) : GcsAt w v l := by
  rcases own_form h with ⟨rfl, h0⟩ | ⟨g, c, rfl, h1, h2⟩
  · exact .inl ⟨_, _, rfl, List.length_eq_zero_iff.1 (by omega)⟩
  · refine .inr ⟨g, 0, c, by rw [hn], h2, fun j u hj => ?_⟩
    have := h.cells (g := g) rfl j u hj
    rw [Go.WideShapes.add_plain] at this; exact this
theorem gcs_lit {w : World} {l : List (Int × Int)} {C : Array Value} (hC : C = (gcs l).toArray) (n : Nat) (hn : l.length = n) : GcsAt (w.alloc (.cells C 27)) (.slice (some ⟨w.heap.size, 0, none⟩) n n) l := by
  subst hC
  refine .inr ⟨w.heap.size, 0, n, by rw [hn], by simp, fun j u hj => ?_⟩
  have h := World.alloc_heap_new w (.cells (gcs l).toArray 27)
  rw [Nat.zero_add]
  simp only [World.cell?, h, Option.isSome_none]
  simpa using hj
theorem tks_lit {w : World} {l : List Tok} {C : Array Value} (hC : C = (tcs l).toArray) (n : Nat) (hn : l.length = n) : TksAt (w.alloc (.cells C 33)) (.slice (some ⟨w.heap.size, 0, none⟩) n n) l := by
  subst hC
  refine .inr ⟨w.heap.size, 0, n, by rw [hn], by simp, fun j u hj => ?_⟩
  have h := World.alloc_heap_new w (.cells (tcs l).toArray 33)
  rw [Nat.zero_add]
  simp only [World.cell?, h, Option.isSome_none]
  simpa using hj
set_option maxRecDepth 50000 in
set_option maxHeartbeats 1600000 in
theorem g3same_any (v v' : Value) (l : List (Int × Int)) (w : World) (h : GcsAt w v l) (h' : GcsAt w v' l) (hl : l.length ≤ 1000000) :
    Calls Tryd.prog 21 #[v, v'] w fun e w' => e = .returned (.bool true) ∧ Below w.heap.size w w' := by
  obtain ⟨a, c, hv⟩ := h.slice
  obtain ⟨a', c', hv'⟩ := h'.slice
  obtain ⟨n, hn⟩ : ∃ n, l.length = n := ⟨_, rfl⟩
  rw [hn] at hv hv'
  subst hv hv'
  have H := Lib.hid h
  have H' := Lib.hid h'
  have HN := Lib.hid hn
  have hnb : n ≤ 1000000 := by omega
  have hne : (((n : Int)) != (n : Int)) = false := by simp
  clear h h' hn hl
  go_enter Tryd.func21, Tryd.ntmps21
  go_wp2
  go_loopw [5] (fun i wr => ∃ k : Nat, k ≤ n ∧ i = .int .i64 k ∧ Below w.heap.size w wr) (fun i _ => n - (intOf i).toNat)
  case atStart => exact ⟨0, Nat.zero_le _, rfl, Below.refl _ _⟩
  case round =>
    obtain ⟨k, hk, rfl, hB⟩ := hrel
    by_cases hlt : k < n
    · obtain ⟨s, hs⟩ : ∃ s, l[k]? = some s := ⟨_, List.getElem?_eq_getElem (by rw [HN.out]; exact hlt)⟩
      obtain ⟨sa, sb⟩ := s
      obtain ⟨g, off, cc, hv, hg, hcl⟩ := (H.out.below hB (Nat.le_refl _)).some (by intro e; rw [e] at hs; cases hs)
      obtain ⟨g', off', cc', hv', hg', hcl'⟩ := (H'.out.below hB (Nat.le_refl _)).some (by intro e; rw [e] at hs; cases hs)
      obtain ⟨rfl, hv2, rfl⟩ := Value.slice.inj hv
      obtain ⟨rfl, hv3, rfl⟩ := Value.slice.inj hv'
      have d0 : wr.cell? ⟨g, off + k * 2, none⟩ = some (.int .i64 sa) := hcl _ _ (gcs_at l hs).1
      have d1 : wr.cell? ⟨g, off + k * 2 + 1, none⟩ = some (.int .i64 sb) := hcl _ _ (gcs_at l hs).2
      have d2 : wr.cell? ⟨g', off' + k * 2, none⟩ = some (.int .i64 sa) := hcl' _ _ (gcs_at l hs).1
      have d3 : wr.cell? ⟨g', off' + k * 2 + 1, none⟩ = some (.int .i64 sb) := hcl' _ _ (gcs_at l hs).2
      have hkm : (k : Int) < (n : Int) := by omega
      have hk0 : (0 : Int) ≤ (k : Int) := Int.natCast_nonneg _
      clear hcl hcl' hv hv' hv2 hv3 hs
      go_wp2
      go_quiet (fail)
      go_wp2
      exact ⟨⟨k + 1, by omega, by go_num, ⟨hB.os, hB.tape, hB.output, hB.size, hB.block⟩⟩, by simp [intOf]; omega⟩
    · obtain rfl : k = n := by omega
      go_wp2
      go_ret
      exact ⟨rfl, hB⟩

def kb1 : List UInt8 := [35, 116, 35, 102, 32, 35, 59, 49, 43, 32, 48, 48, 55, 32, 43, 45, 53]
def kC1 : Array Value := #[.int .u8 35, .int .u8 116, .int .u8 35, .int .u8 102, .int .u8 32, .int .u8 35, .int .u8 59, .int .u8 49, .int .u8 43, .int .u8 32, .int .u8 48, .int .u8 48, .int .u8 55, .int .u8 32, .int .u8 43, .int .u8 45, .int .u8 53]
def kb2 : List UInt8 := [97, 32, 59, 98]
def kC2 : Array Value := #[.int .u8 97, .int .u8 32, .int .u8 59, .int .u8 98]
def kb3 : List UInt8 := [97, 34]
def kC3 : Array Value := #[.int .u8 97, .int .u8 34]
def kb4 : List UInt8 := [57, 50, 50, 51, 51, 55, 50, 48, 51, 54, 56, 53, 52, 55, 55, 53, 56, 48, 56]
def kC4 : Array Value := #[.int .u8 57, .int .u8 50, .int .u8 50, .int .u8 51, .int .u8 51, .int .u8 55, .int .u8 50, .int .u8 48, .int .u8 51, .int .u8 54, .int .u8 56, .int .u8 53, .int .u8 52, .int .u8 55, .int .u8 55, .int .u8 53, .int .u8 56, .int .u8 48, .int .u8 56]
def kb5 : List UInt8 := [97, 255]
def kC5 : Array Value := #[.int .u8 97, .int .u8 255]
def kb6 : List UInt8 := [40, 32, 97, 32, 39, 40, 32, 98, 32, 41, 32, 45, 48, 32, 41]
def kC6 : Array Value := #[.int .u8 40, .int .u8 32, .int .u8 97, .int .u8 32, .int .u8 39, .int .u8 40, .int .u8 32, .int .u8 98, .int .u8 32, .int .u8 41, .int .u8 32, .int .u8 45, .int .u8 48, .int .u8 32, .int .u8 41]
def kt1 : List Tok := [(6, 0, 2, 1, []), (6, 2, 4, 0, []), (4, 5, 7, 0, []), (7, 7, 9, 0, [49, 43]), (5, 10, 13, 7, []), (7, 14, 17, 0, [43, 45, 53])]
def kw1 : List Tok := [(6, 0, 0, 1, []), (6, 0, 0, 0, []), (4, 0, 0, 0, []), (7, 0, 0, 0, [49, 43]), (5, 0, 0, 7, []), (7, 0, 0, 0, [43, 45, 53])]
def kt6 : List Tok := [(1, 0, 1, 1, []), (7, 2, 3, 0, [97]), (3, 4, 5, 0, []), (1, 5, 6, 1, []), (7, 7, 8, 0, [98]), (2, 9, 10, 1, []), (5, 11, 13, 0, []), (2, 14, 15, 1, [])]
def kp6 : List UInt8 := [40, 97, 32, 39, 40, 98, 41, 32, 48, 41]
theorem kx1 : lexS kb1 = (kt1, (0, 0), 0) := by kernel_rfl
theorem kx3 : lexS kb3 = ([], (1, 2), 6) := by kernel_rfl
theorem kx4 : lexS kb4 = ([], (0, 19), 7) := by kernel_rfl
theorem kx5 : lexS kb5 = ([], (1, 2), 6) := by kernel_rfl
theorem kx6 : lexS kb6 = (kt6, (0, 0), 0) := by kernel_rfl
theorem kx2 : (lexS kb2).2.2 = 0 := by kernel_rfl
theorem kg2 : gapsS kb2 = [(0, 0), (1, 4)] := by decide +kernel
theorem kpr : prS kt6 = (kp6, 0, 0) := by decide +kernel
theorem kbare : kt1.map bareT = kw1.map bareT := by decide +kernel
theorem kfit : TkB kt6 := by
  have : ∀ t ∈ kt6, decide (fits t.2.2.2.1 ∧ t.2.2.2.2.length ≤ 1000000) = true := by decide +kernel
  exact fun t ht => of_decide_eq_true (this t ht)
theorem litstep {w W W' : World} {C : Array Value} (h : Below w.heap.size w W) (hb : Below (litW W C).heap.size (litW W C) W') : Below w.heap.size w W' :=
  below_step (below_step h (lit_below W C)) hb
/-- A constant text that is taken apart where it lies. -/
theorem alloc_at (w : World) (l : List UInt8) (C : Array Value) (hcs : C = (l.map bc).toArray) : BytesAt (w.alloc (.cells C 5)) (.slice (some ⟨w.heap.size, 0, none⟩) l.length l.length) l := by
  subst hcs
  refine .inr ⟨w.heap.size, 0, l.length, l.length, rfl, by rw [List.length_map], by simp, fun j u hj => ?_⟩
  have h := World.alloc_heap_new w (.cells (l.map bc).toArray 5)
  rw [Nat.zero_add]
  simp only [World.cell?, h, Option.isSome_none]
  simpa using hj
set_option maxRecDepth 100000 in
set_option maxHeartbeats 6400000 in
theorem lawKn_any (w : World) (T : PTabs w) : Calls Tryd.prog 11 #[] w fun e w' => e = .returned (.bool true) ∧ Below w.heap.size w w' := by
  have CAw := Lib.hid (fun W (hW : Below w.heap.size w W) => awake_any W (T.below hW))
  have K1 := Lib.hid (fun W (hW : Below w.heap.size w W) => Lex_at kx1 6 rfl (some ⟨W.heap.size, 0, none⟩) 17 17 (litW W kC1) (lit_at W kb1 kC1 rfl) (by omega) (by omega) rfl (T.below (hW.trans ((lit_below W _).mono hW.size))).lt)
  have K3 := Lib.hid (fun W (hW : Below w.heap.size w W) => Lex_at kx3 0 rfl (some ⟨W.heap.size, 0, none⟩) 2 2 (litW W kC3) (lit_at W kb3 kC3 rfl) (by omega) (by omega) rfl (T.below (hW.trans ((lit_below W _).mono hW.size))).lt)
  have K4 := Lib.hid (fun W (hW : Below w.heap.size w W) => Lex_at kx4 0 rfl (some ⟨W.heap.size, 0, none⟩) 19 19 (litW W kC4) (lit_at W kb4 kC4 rfl) (by omega) (by omega) rfl (T.below (hW.trans ((lit_below W _).mono hW.size))).lt)
  have K5 := Lib.hid (fun W (hW : Below w.heap.size w W) => Lex_at kx5 0 rfl (some ⟨W.heap.size, 0, none⟩) 2 2 (W.alloc (.cells kC5 5)) (alloc_at W kb5 kC5 rfl) (by omega) (by omega) rfl (T.below (hW.alloc hW.size _)).lt)
  have K6 := Lib.hid (fun W (hW : Below w.heap.size w W) => Lex_at kx6 8 rfl (some ⟨W.heap.size, 0, none⟩) 15 15 (litW W kC6) (lit_at W kb6 kC6 rfl) (by omega) (by omega) rfl (T.below (hW.trans ((lit_below W _).mono hW.size))).lt)
  have K2 : Hid (∀ W, Below w.heap.size w W → Calls Tryd.prog 19 #[.slice (some ⟨W.heap.size, 0, none⟩) 4 4] (litW W kC2) fun e w' => ∃ g cg, e = .returned (.tuple #[.slice g 2 cg, .int .i64 0]) ∧ Hid (GcsAt w' (.slice g 2 cg) [(0, 0), (1, 4)]) ∧ Below (litW W kC2).heap.size (litW W kC2) w') := Lib.hid fun W hW => by
    refine (Gaps_any (some ⟨W.heap.size, 0, none⟩) 4 4 kb2 (litW W kC2) (lit_at W kb2 kC2 rfl) (by omega) (by omega) rfl (T.below (hW.trans ((lit_below W _).mono hW.size))).lt).mono ?_
    rintro e w' ⟨vg, rfl, ho, hb⟩
    have ho := ho.out
    rw [kg2] at ho
    obtain ⟨g, cg, rfl⟩ := own_len ho
    rw [kx2]
    exact ⟨g, cg, rfl, Lib.hid (gcs_own ho rfl), hb⟩
  have KP : Hid (∀ v W, Below w.heap.size w W → TksAt W v kt6 → Calls Tryd.prog 29 #[v] W fun e w' => e = .returned (.tuple #[.string ⟨#[40, 97, 32, 39, 40, 98, 41, 32, 48, 41]⟩, .int .i64 0, .int .i64 0]) ∧ Below W.heap.size W w') := Lib.hid fun v W hW hv => by
    have := Print_any v kt6 W hv (by decide) kfit (T.below hW)
    unfold prV at this
    rw [kpr] at this; exact this
  have V1 : ∀ W : World, (convert 22 22 (.slice (some ⟨W.heap.size, 0, none⟩) 17 17)).run Tryd.prog (W.alloc (.cells #[.int .u8 35, .int .u8 116, .int .u8 35, .int .u8 102, .int .u8 32, .int .u8 35, .int .u8 59, .int .u8 49, .int .u8 43, .int .u8 32, .int .u8 48, .int .u8 48, .int .u8 55, .int .u8 32, .int .u8 43, .int .u8 45, .int .u8 53] 5)) = .ok (.slice (some ⟨W.heap.size, 0, none⟩) 17 17) (litW W kC1) := fun W => lit_run W kC1 17
  have V2 : ∀ W : World, (convert 22 22 (.slice (some ⟨W.heap.size, 0, none⟩) 4 4)).run Tryd.prog (W.alloc (.cells #[.int .u8 97, .int .u8 32, .int .u8 59, .int .u8 98] 5)) = .ok (.slice (some ⟨W.heap.size, 0, none⟩) 4 4) (litW W kC2) := fun W => lit_run W kC2 4
  have V3 : ∀ W : World, (convert 22 22 (.slice (some ⟨W.heap.size, 0, none⟩) 2 2)).run Tryd.prog (W.alloc (.cells #[.int .u8 97, .int .u8 34] 5)) = .ok (.slice (some ⟨W.heap.size, 0, none⟩) 2 2) (litW W kC3) := fun W => lit_run W kC3 2
  have V4 : ∀ W : World, (convert 22 22 (.slice (some ⟨W.heap.size, 0, none⟩) 19 19)).run Tryd.prog (W.alloc (.cells #[.int .u8 57, .int .u8 50, .int .u8 50, .int .u8 51, .int .u8 51, .int .u8 55, .int .u8 50, .int .u8 48, .int .u8 51, .int .u8 54, .int .u8 56, .int .u8 53, .int .u8 52, .int .u8 55, .int .u8 55, .int .u8 53, .int .u8 56, .int .u8 48, .int .u8 56] 5)) = .ok (.slice (some ⟨W.heap.size, 0, none⟩) 19 19) (litW W kC4) := fun W => lit_run W kC4 19
  have V6 : ∀ W : World, (convert 22 22 (.slice (some ⟨W.heap.size, 0, none⟩) 15 15)).run Tryd.prog (W.alloc (.cells #[.int .u8 40, .int .u8 32, .int .u8 97, .int .u8 32, .int .u8 39, .int .u8 40, .int .u8 32, .int .u8 98, .int .u8 32, .int .u8 41, .int .u8 32, .int .u8 45, .int .u8 48, .int .u8 32, .int .u8 41] 5)) = .ok (.slice (some ⟨W.heap.size, 0, none⟩) 15 15) (litW W kC6) := fun W => lit_run W kC6 15
  clear T
  go_enter Tryd.func11, Tryd.ntmps11
  have hB0 := Below.refl w.heap.size w
  have v1' := V1 w
  go_wp2_with fail
  -- MARK1
  refine (K1.out w hB0).mono ?_
  rintro e u1 ⟨v1, cv1, rfl, HO1, hb1⟩
  have hBu1 : Below w.heap.size w u1 := litstep hB0 hb1
  have HL1 := Lib.hid (tks_own HO1.out (l := kt1) rfl)
  go_upto_region 2 with (fail)
  obtain ⟨W1, hW1⟩ : ∃ W1, W1 = u1.alloc (.cells #[.int .i64 0, .int .i64 0] 27) := ⟨_, rfl⟩
  have hs1 : Below u1.heap.size u1 W1 := by rw [hW1]; exact below_b1 _ _
  have hB1 := below_step hBu1 hs1
  have HT1 : Hid (∀ W, Below W1.heap.size W1 W → TksAt W (.slice v1 6 cv1) kt1) := Lib.hid fun W hW => (HL1.out.below hs1 (Nat.le_refl _)).below hW (Nat.le_refl _)
  rw [← hW1]
  clear hW1 v1'
  have v2' := V2 W1
  go_wp2_with fail
  -- MARK2
  refine (K2.out W1 hB1).mono ?_
  rintro e u2 ⟨g2, cg2, rfl, HG2, hb2⟩
  have hs2 : Below W1.heap.size W1 u2 := litstep (Below.refl _ _) hb2
  have hB2 := below_step hB1 hs2
  go_upto_region 3 with (fail)
  clear v2'
  have v3' := V3 u2
  go_wp2_with fail
  -- MARK3
  refine (K3.out u2 hB2).mono ?_
  rintro e u3 ⟨v3, cv3, rfl, _, hb3⟩
  have hs3 : Below u2.heap.size u2 u3 := litstep (Below.refl _ _) hb3
  go_upto_region 4 with (fail)
  obtain ⟨W3, hW3⟩ : ∃ W3, W3 = u3.alloc (.cells #[.int .i64 1, .int .i64 2] 27) := ⟨_, rfl⟩
  have hs3' : Below u2.heap.size u2 W3 := by rw [hW3]; exact hs3.alloc hs3.size _
  have hB3 := below_step hB2 hs3'
  have hx3 : W3.heap[u3.heap.size]? = some (.cells #[.int .i64 1, .int .i64 2] 27 (0, 0)) := by rw [hW3]; exact World.alloc_heap_new _ _
  have hl3 := (Array.getElem?_eq_some_iff.1 hx3).1
  have HX3 : Hid (∀ W, Below W3.heap.size W3 W → W.heap[u3.heap.size]? = some (.cells #[.int .i64 1, .int .i64 2] 27 (0, 0))) := Lib.hid fun W hW => (hW.block _ hl3).trans hx3
  rw [← hW3]
  clear hW3 v3' hx3 hl3
  have v4' := V4 W3
  go_wp2_with fail
  -- MARK4
  refine (K4.out W3 hB3).mono ?_
  rintro e u4 ⟨v4, cv4, rfl, _, hb4⟩
  have hs4 : Below W3.heap.size W3 u4 := litstep (Below.refl _ _) hb4
  go_upto_region 5 with (fail)
  obtain ⟨W4, hW4⟩ : ∃ W4, W4 = u4.alloc (.cells #[.int .i64 0, .int .i64 19] 27) := ⟨_, rfl⟩
  have hs4' : Below W3.heap.size W3 W4 := by rw [hW4]; exact hs4.alloc hs4.size _
  have hB4 := below_step hB3 hs4'
  have hx4 : W4.heap[u4.heap.size]? = some (.cells #[.int .i64 0, .int .i64 19] 27 (0, 0)) := by rw [hW4]; exact World.alloc_heap_new _ _
  have hl4 := (Array.getElem?_eq_some_iff.1 hx4).1
  have HX4 : Hid (∀ W, Below W4.heap.size W4 W → W.heap[u4.heap.size]? = some (.cells #[.int .i64 0, .int .i64 19] 27 (0, 0))) := Lib.hid fun W hW => (hW.block _ hl4).trans hx4
  rw [← hW4]
  clear hW4 v4' hx4 hl4
  go_wp2_with fail
  -- MARK5
  refine (K5.out W4 hB4).mono ?_
  rintro e u5 ⟨v5, cv5, rfl, _, hb5⟩
  have hs5 : Below W4.heap.size W4 u5 := below_step (below_b1 W4 _) hb5
  go_upto_region 6 with (fail)
  obtain ⟨W5, hW5⟩ : ∃ W5, W5 = u5.alloc (.cells #[.int .i64 1, .int .i64 2] 27) := ⟨_, rfl⟩
  have hs5' : Below W4.heap.size W4 W5 := by rw [hW5]; exact hs5.alloc hs5.size _
  have hB5 := below_step hB4 hs5'
  have hx5 : W5.heap[u5.heap.size]? = some (.cells #[.int .i64 1, .int .i64 2] 27 (0, 0)) := by rw [hW5]; exact World.alloc_heap_new _ _
  rw [← hW5]
  clear hW5
  obtain ⟨z0, z1⟩ := box2_facts hx5
  obtain ⟨y0, y1⟩ := box2_facts (HX4.out W5 hs5')
  obtain ⟨x0, x1⟩ := box2_facts (HX3.out W5 (below_step hs4' hs5'))
  have hs25 : Below u2.heap.size u2 W5 := below_step (below_step hs3' hs4') hs5'
  have hs15 : Below W1.heap.size W1 W5 := below_step hs2 hs25
  have KS3 := Lib.hid (fun W (hW : Below W5.heap.size W5 W) v' (h' : GcsAt W v' [(0, 0), (1, 4)]) => g3same_any (.slice g2 2 cg2) v' [(0, 0), (1, 4)] W ((HG2.out.below hs25 (Nat.le_refl _)).below hW (Nat.le_refl _)) h' (by decide))
  go_wp2_with fail
  -- MARK6
  obtain ⟨W6, hW6⟩ : ∃ W6, W6 = W5.alloc (.cells #[.int .i64 0, .int .i64 0, .int .i64 1, .int .i64 4] 27) := ⟨_, rfl⟩
  have hs6 : Below W5.heap.size W5 W6 := by rw [hW6]; exact below_b1 _ _
  have HG6 : Hid (GcsAt W6 (.slice (some ⟨W5.heap.size, 0, none⟩) 2 2) [(0, 0), (1, 4)]) := Lib.hid (by rw [hW6]; exact gcs_lit (by rfl) 2 rfl)
  rw [← hW6]
  clear hW6
  refine (KS3.out W6 hs6 _ HG6.out).mono ?_
  rintro e u7 ⟨rfl, hb7⟩
  have hs7 := below_step hs6 hb7
  have hB7 := below_step hB5 hs7
  go_upto_region 9 with (fail)
  -- MARK7
  obtain ⟨W8, hW8⟩ : ∃ W8, W8 = u7.alloc (.cells #[.int .i64 6, .int .i64 0, .int .i64 0, .int .i64 1, .string ⟨#[]⟩, .int .i64 6, .int .i64 0, .int .i64 0, .int .i64 0, .string ⟨#[]⟩, .int .i64 4, .int .i64 0, .int .i64 0, .int .i64 0, .string ⟨#[]⟩, .int .i64 7, .int .i64 0, .int .i64 0, .int .i64 0, .string ⟨#[49, 43]⟩, .int .i64 5, .int .i64 0, .int .i64 0, .int .i64 7, .string ⟨#[]⟩, .int .i64 7, .int .i64 0, .int .i64 0, .int .i64 0, .string ⟨#[43, 45, 53]⟩] 33) := ⟨_, rfl⟩
  have hs8 : Below u7.heap.size u7 W8 := by rw [hW8]; exact below_b1 _ _
  have HW8 : Hid (∀ W, Below W8.heap.size W8 W → TksAt W (.slice (some ⟨u7.heap.size, 0, none⟩) 6 6) kw1) := Lib.hid fun W hW => TksAt.below (by rw [hW8]; exact tks_lit (by rfl) 6 rfl) hW (Nat.le_refl _)
  have hB8 := below_step hB7 hs8
  have hs18 : Below W1.heap.size W1 W8 := below_step hs15 (below_step hs7 hs8)
  rw [← hW8]
  clear hW8 z0 z1 y0 y1 x0 x1
  have v6' := V6 W8
  go_wp2_with fail
  -- MARK8
  refine (K6.out W8 hB8).mono ?_
  rintro e u9 ⟨v9, cv9, rfl, HO9, hb9⟩
  have hs9 : Below W8.heap.size W8 u9 := litstep (Below.refl _ _) hb9
  have HL9 := Lib.hid (tks_own HO9.out (l := kt6) rfl)
  go_upto_region 10 with (fail)
  obtain ⟨W9, hW9⟩ : ∃ W9, W9 = u9.alloc (.cells #[.int .i64 0, .int .i64 0] 27) := ⟨_, rfl⟩
  have hs9' : Below u9.heap.size u9 W9 := by rw [hW9]; exact below_b1 _ _
  have hs89 := below_step hs9 hs9'
  have hB9 := below_step hB8 hs89
  have HT9 := Lib.hid (HL9.out.below hs9' (Nat.le_refl _))
  rw [← hW9]
  clear hW9
  go_wp2_with fail
  -- MARK9a
  refine (KP.out _ W9 hB9 HT9.out).mono ?_
  rintro e w10 ⟨rfl, hb10⟩
  have hB10 := below_step hB9 hb10
  have hs8x := below_step hs89 hb10
  have hs1x := below_step hs18 hs8x
  go_wp2_with fail
  -- MARK10
  refine (Same_any _ _ kt1 kw1 w10 (HT1.out w10 hs1x) (HW8.out w10 hs8x) (by decide) kbare).mono ?_
  rintro e w11 ⟨rfl, hb11⟩
  go_wp2_with fail
  -- MARK11
  refine (CAw.out w11 (below_step hB10 hb11)).mono ?_
  rintro e w12 ⟨rfl, hb12⟩
  go_wp2_with fail
  go_ret
  exact ⟨rfl, below_step (below_step hB10 hb11) hb12⟩
end Go.Proofs.YtlpbhncdkhppkaaDoor
