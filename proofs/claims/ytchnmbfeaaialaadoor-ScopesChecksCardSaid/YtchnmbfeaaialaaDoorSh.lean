/- scopes.has, scopes.Ids. -/
import Derived.Test.YtchnmbfeaaialaaDoorSc
import Derived.Maps.AppendAt
namespace Go.Proofs.YtchnmbfeaaialaaDoor
open Go.RowKit Go.Shelf Go.PlainAid

attribute [local go_sem] Oper.semAt_some

theorem own_mono {w : World} {B B' e z n : Nat} {v : Value} {xs : List Value} (h : w.ownsRow B e z v n xs) (hb : B' ≤ B) : w.ownsRow B' e z v n xs :=
  ⟨h.1, h.2.imp id fun ⟨g, cap, cur, h1, h2, h3⟩ => ⟨g, cap, cur, h1, Nat.le_trans hb h2, h3⟩⟩
theorem own_slice {w : World} {B e z n : Nat} {v : Value} {xs : List Value} (h : w.ownsRow B e z v n xs) : ∃ a m c, v = .slice a m c := by
  rcases h.2 with ⟨rfl, _⟩ | ⟨g, cap, cur, rfl, _⟩
  · exact ⟨_, _, _, rfl⟩
  · exact ⟨_, _, _, rfl⟩
theorem own_len {w : World} {B e z n : Nat} {v : Value} {xs : List Value} (h : w.ownsRow B e z v n xs) : ∃ a c, v = .slice a n c := by
  rcases h.2 with ⟨rfl, h0⟩ | ⟨g, cap, cur, rfl, _⟩
  · exact ⟨_, _, by rw [h0]⟩
  · exact ⟨_, _, rfl⟩
theorem info_parts2 {P : Program} {t : TypeId} {z : Value} {n b : Nat} (h : (P.info? t).map (fun i => (i.zero, i.size, i.bytes)) = some (some z, n, b)) :
    ∃ i, P.info? t = some i ∧ i.zero = some z ∧ i.size = n ∧ i.bytes = b := by
  cases hi : P.info? t with
  | none => rw [hi] at h; cases h
  | some i =>
    rw [hi] at h
    simp only [Option.map_some, Option.some.injEq, Prod.mk.injEq] at h
    exact ⟨i, rfl, h.1, h.2.1, h.2.2⟩
theorem infoInt : (Tryd.prog.info? 3).map (fun i => (i.zero, i.size, i.bytes)) = some (some (.int .i64 0), 1, 8) := by kernel_rfl
theorem infoU8 : (Tryd.prog.info? 5).map (fun i => (i.zero, i.size, i.bytes)) = some (some (.int .u8 0), 1, 1) := by kernel_rfl
theorem grown_set (W : World) (b i : Nat) (v : Value) : W.grownBy (W.setCell ⟨b, i, none⟩ v) (some b) :=
  ⟨rfl, rfl, rfl, (KeepsWalks.setCell W _ v).size, fun k _ hk => Below.heap_setCell _ _ _ k (fun e => hk (by rw [e]))⟩

/-- has: in the loop. -/
def HsI (A n : Nat) (w : World) (pre : List Nat) (W : World) : Prop :=
  (∀ y ∈ pre, y < n) ∧ W.heap[A]? = some (.cells #[.int .i64 (n : Int)] 3 (0, 0)) ∧ W.heap[A + 1]? = some (.cells #[.bool false] 4 (0, 0)) ∧ Below A w W
def HsX (A n : Nat) (w : World) (c : Code) (pre : List Nat) (W : World) : Prop :=
  c = .ret ∧ (∃ p x, pre = p ++ [x] ∧ (∀ y ∈ p, y < n) ∧ n ≤ x ∧ W.heap[A + 1]? = some (.cells #[.bool (decide (x = n))] 4 (0, 0))) ∧ Below A w W
theorem hsI_bears (A n : Nat) (w : World) : Bears (A + 3) (A + 3 + 2 + 0) (HsI A n w) := by
  intro pre W W' row h hg hr
  obtain ⟨h0, h1, h2, h3⟩ := h
  exact ⟨h0, (hg.block A (Array.getElem?_eq_some_iff.1 h1).1 fun e => by have := hr _ e.symm; omega).trans h1, (hg.block (A + 1) (Array.getElem?_eq_some_iff.1 h2).1 fun e => by have := hr _ e.symm; omega).trans h2,
    h3.grown hg (Nat.le_of_lt (Array.getElem?_eq_some_iff.1 h1).1) (fun k e => by have := hr _ e; omega)⟩
theorem hsX_bears (A n : Nat) (w : World) (c : Code) : Bears (A + 3) (A + 3 + 2 + 0) (HsX A n w c) := by
  intro pre W W' row h hg hr
  obtain ⟨h0, ⟨p, x, h1, h2, h3, h4⟩, h5⟩ := h
  exact ⟨h0, ⟨p, x, h1, h2, h3, (hg.block (A + 1) (Array.getElem?_eq_some_iff.1 h4).1 fun e => by have := hr _ e.symm; omega).trans h4⟩,
    h5.grown hg (Nat.le_trans (Nat.le_succ A) (Nat.le_of_lt (Array.getElem?_eq_some_iff.1 h4).1)) (fun k e => by have := hr _ e; omega)⟩
def HsA (A n : Nat) (w : World) (pre : List Nat) (x : Nat) (a : Act) (W : World) : Prop :=
  HsI A n w pre W ∧ ∃ u0 u1 u2 u6 u7 u8 u9 u10 u11 u12 u13 u14 : Value,
    a = { tmps := #[u0, u1, u2, .pointer (some ⟨A, 0, none⟩), .pointer (some ⟨A + 1, 0, none⟩), .int .i64 (x : Int), u6, u7, u8, u9, u10, u11, u12, u13, u14], defers := [] }
theorem hsA_bears (A n : Nat) (w : World) (pre : List Nat) (x : Nat) : Bears (A + 3) (A + 3 + 2 + 0) (HsA A n w pre x) := by
  intro a W W' row h hg hr
  exact ⟨hsI_bears A n w pre W W' row h.1 hg hr, h.2⟩
theorem has_stop {l p : List Nat} {x n : Nat} (h : asc l) (hp : p ++ [x] <+: l) (h1 : ∀ y ∈ p, y < n) (h2 : n ≤ x) : decide (n ∈ l) = decide (x = n) := by
  obtain ⟨r, rfl⟩ := hp
  obtain ⟨a, b, c⟩ := List.pairwise_append.1 h
  rw [Bool.eq_iff_iff, decide_eq_true_iff, decide_eq_true_iff]
  constructor
  · intro hm
    rcases List.mem_append.1 hm with hm | hm
    · rcases List.mem_append.1 hm with hm | hm
      · have := h1 n hm; omega
      · exact (List.mem_singleton.1 hm).symm
    · have := c x (by simp) n hm; omega
  · rintro rfl; simp

set_option maxRecDepth 50000 in
set_option maxHeartbeats 1600000 in
theorem has_in (l : List Nat) (n : Nat) (w : World) (ha : asc l) (hx : ∀ x ∈ l, x < 65536) (hL : l.length ≤ 1000000) :
    CallsIn Fence.wide 5 Tryd.prog 48 #[.string (str (setL l)), .int .i64 (n : Int)] w fun e w' => e = .returned (.bool (decide (n ∈ l))) ∧ Below w.heap.size w w' := by
  have hseqA := Lib.hid (fun (W0 : World) (A : Nat) (hsz : W0.heap.size = A + 3) (hv : W0.heap[A + 2]? = some (.cells #[.string (str (setL l))] 9 (0, 0))) =>
    each_seq (5 - 1) (A + 2) (fun k => k = A + 2) l W0 (by omega) hx hL (fun k hk => by omega) rfl hv)
  obtain ⟨S, hS⟩ : ∃ S, str (setL l) = S := ⟨_, rfl⟩
  rw [hS] at hseqA
  have HA := Lib.hid ha
  rw [hS]
  clear hx hS ha
  refine callsIn_of_wp_marks Tryd.func48 rfl trivial ?_ rfl
  simp only [Tryd.ntmps48, List.size_toArray, List.length_cons, List.length_nil, Nat.reduceAdd, Nat.reduceSub, Array.replicate_succ, Array.replicate_zero, List.push_toArray, List.append_toArray, List.nil_append, List.cons_append]
  gi_wp2
  refine ⟨trivial, (callsIn_wide.2 (each_any S _)).mono ?_⟩
  rintro e w1 ⟨rfl, rfl⟩
  gi_wp2
  -- MARK1
  obtain ⟨W0, hW0⟩ : ∃ W0, W0 = ((w.alloc (.cells #[.int .i64 (n : Int)] 3)).alloc (.cells #[.bool false] 4)).alloc (.cells #[.string S] 9) := ⟨_, rfl⟩
  rw [← hW0]
  obtain ⟨A, hA⟩ : ∃ A, w.heap.size = A := ⟨_, rfl⟩
  have hsz : W0.heap.size = A + 3 := by rw [hW0, ← hA]; simp
  have hbel : Below A w W0 := by
    rw [hW0, ← hA]
    exact (((Below.refl _ w).alloc (Nat.le_refl _) _).alloc (by simp only [World.size_alloc]; omega) _).alloc (by simp only [World.size_alloc]; omega) _
  have ha0 : W0.heap[A]? = some (.cells #[.int .i64 (n : Int)] 3 (0, 0)) := by
    rw [hW0, ← hA]; exact (Below.heap_alloc _ _ _ (by simp only [World.size_alloc]; omega)).trans ((Below.heap_alloc _ _ _ (by simp only [World.size_alloc]; omega)).trans (World.alloc_heap_new _ _))
  have ha1 : W0.heap[A + 1]? = some (.cells #[.bool false] 4 (0, 0)) := by
    rw [hW0, ← hA]
    refine (Below.heap_alloc _ _ _ (by simp only [World.size_alloc]; omega)).trans ?_
    have := World.alloc_heap_new (w.alloc (.cells #[.int .i64 (n : Int)] 3)) (.cells #[.bool false] 4); rwa [World.size_alloc] at this
  have ha2 : W0.heap[A + 2]? = some (.cells #[.string S] 9 (0, 0)) := by
    rw [hW0, ← hA]
    have := World.alloc_heap_new ((w.alloc (.cells #[.int .i64 (n : Int)] 3)).alloc (.cells #[.bool false] 4)) (.cells #[.string S] 9); rwa [World.size_alloc, World.size_alloc] at this
  clear hW0
  rw [hA]
  have hseq := hseqA.out W0 A hsz ha2
  refine wpIn_rangeB (by omega) rfl (enters_of Tryd.func61 (by kernel_rfl) rfl) hseq (Below.refl _ _) (fun k hk => by omega) (fun _ => rfl) (HsI A n w) (HsX A n w) (by rw [hsz]; exact hsI_bears A n w) (fun c => by rw [hsz]; exact hsX_bears A n w c) ?_ (HsA A n w) (fun pre x => by rw [hsz]; exact hsA_bears A n w pre x) ?_ ?_ ?_ ?_
  · exact ⟨fun y hy => (by cases hy), ha0, ha1, hbel⟩
  · intro l pre x W K hI hW hK
    rw [hsz] at hW hK
    simp only [encN]
    gi_wp2
    exact hK _ _ (KeepsB.refl _ _ _ _) ⟨hI, _, _, _, _, _, _, _, _, _, _, _, _, rfl⟩
  · intro l' pre x a' W hAx hW hlen
    rw [hsz] at hW
    obtain ⟨⟨r0, r1, r2, r3⟩, u0, u1, u2, u6, u7, u8, u9, u10, u11, u12, u13, u14, rfl⟩ := hAx
    have hc0 : W.cell? ⟨A, 0, none⟩ = some (.int .i64 (n : Int)) := by simp [World.cell?, r1]
    have hc1 : W.cell? ⟨A + 1, 0, none⟩ = some (.bool false) := by simp [World.cell?, r2]
    have hz1 : W.frozen? ⟨A + 1, 0, none⟩ = false := by simp [World.frozen?, r2]
    rw [hsz]
    have HR0 := Lib.hid r0
    clear r0
    by_cases hle : n ≤ x
    · have hd : decide ((n : Int) ≤ (x : Int)) = true := decide_eq_true (by omega)
      gi_wp2
      -- MARK2
      refine ⟨⟨(KeepsWalks.setCell W _ _).size, fun k hk => set_other _ (by rcases hk with hk | hk <;> omega)⟩, rfl, ⟨pre, x, rfl, HR0.out, hle, ?_⟩, r3.setCell (Nat.le_succ A) _⟩
      have := set_block (i := 0) (.bool ((x : Int) == (n : Int))) r2
      rw [this]
      have e : ((x : Int) == (n : Int)) = decide (x = n) := by rw [Bool.eq_iff_iff, beq_iff_eq, decide_eq_true_iff]; omega
      rw [e]; rfl
    · have hd : decide ((n : Int) ≤ (x : Int)) = false := decide_eq_false (by omega)
      gi_wp2
      -- MARK3
      refine ⟨KeepsB.refl _ _ _ _, fun y hy => ?_, r1, r2, r3⟩
      rcases List.mem_append.1 hy with hy | hy
      · exact HR0.out y hy
      · obtain rfl : y = x := by simpa using hy
        omega
  · intro xs W hSS hI hD
    rw [hsz] at hD
    subst hSS
    obtain ⟨r0, r1, r2, r3⟩ := hI
    have HV : Hid (decide (n ∈ xs) = false) := Lib.hid (decide_eq_false fun h => Nat.lt_irrefl _ (r0 n h))
    have hc1 : W.cell? ⟨A + 1, 0, none⟩ = some (.bool false) := by simp [World.cell?, r2]
    have hz1 : W.frozen? ⟨A + 1, 0, none⟩ = false := by simp [World.frozen?, r2]
    rw [hsz]
    gi_wp2
    -- MARK4
    have g0 : (W.setCell ⟨A + 1, 0, none⟩ (.bool false)).heap[A + 1]? = some (.cells #[.bool false] 4 (0, 0)) := set_block _ r2
    have q0 : ((W.setCell ⟨A + 1, 0, none⟩ (.bool false)).putObj (A + 3) (.deferred none)).cell? ⟨A + 1, 0, none⟩ = some (.bool false) := by
      rw [World.cell?_of_block (World.putObj_heap_other (by show A + 1 ≠ A + 3; omega))]; simp [World.cell?, g0]
    refine ⟨by simp, .inl ⟨_, _, rfl, run_takeDeferred ((set_other _ (by omega)).trans hD), ?_⟩⟩
    refine ⟨.bool false, by simp [results, Tryd.results48, go_sem, q0], ?_, ?_⟩
    · rw [HV.out]
    · rw [hA]; exact (r3.setCell (Nat.le_succ A) _).grown (grownBy_putObj' _ _ _) (by have := Array.getElem?_eq_some_iff.1 g0; exact Nat.le_trans (Nat.le_succ A) (Nat.le_of_lt this.1)) (fun k e => by cases e; omega)
  · intro c pre W hSp hIx hD
    rw [hsz] at hD
    rw [hsz]
    obtain ⟨rfl, ⟨p, x, rfl, h1, h2, r0⟩, r1⟩ := hIx
    have HV := Lib.hid (has_stop HA.out hSp h1 h2)
    obtain ⟨b, hb⟩ : ∃ b, decide (x = n) = b := ⟨_, rfl⟩
    rw [hb] at r0 HV
    clear hb
    have q0 : (W.putObj (A + 3) (.deferred none)).cell? ⟨A + 1, 0, none⟩ = some (.bool b) := by
      rw [World.cell?_of_block (World.putObj_heap_other (by show A + 1 ≠ A + 3; omega))]; simp [World.cell?, r0]
    gi_wp2
    -- MARK5
    refine ⟨by simp, .inl ⟨_, _, rfl, run_takeDeferred hD, ?_⟩⟩
    refine ⟨.bool b, by simp [results, Tryd.results48, go_sem, q0], ?_, ?_⟩
    · rw [HV.out]
    · rw [hA]; exact r1.grown (grownBy_putObj' _ _ _) (Nat.le_trans (Nat.le_succ A) (Nat.le_of_lt (Array.getElem?_eq_some_iff.1 r0).1)) (fun k e => by cases e; omega)
theorem has_any (l : List Nat) (n : Nat) (w : World) (h : SetOf l) :
    Calls Tryd.prog 48 #[.string (str (setL l)), .int .i64 (n : Int)] w fun e w' => e = .returned (.bool (decide (n ∈ l))) ∧ Below w.heap.size w w' :=
  callsIn_wide.1 (has_in l n w h.up h.lt (by have := h.few; omega))
end Go.Proofs.YtchnmbfeaaialaaDoor
