import Derived.RangeFuncNested
import Derived.RangeFuncBound
import Derived.RangeFuncCalls
import Derived.RangeFuncLeaves
import Derived.Shelf.Abstract
import Derived.Shelf.RegionOpen
import Derived.WalkKit
import Derived.WalkMore
import Derived.BigGuardPart
import Derived.OwnWalkIn
import Derived.TacticsInMore
import Derived.LoopNIn
import Derived.LoopIn
import Derived.BigGuardPartIn
import Derived.Stop.RegionWithIn
import Derived.Lib.EndianBits
import Derived.Test.YtdiinlmeoifgjaaGreatDoorZs
import Derived.Maps.AppendAt
/- The iterator over the scopes of a set: its contract. -/
namespace Go.Proofs.YtdiinlmeoifgjaaGreatDoor
open Go.RowKit Go.Shelf Go.PlainAid

attribute [local go_sem] Oper.semAt_some

def encN (x : Nat) : Array Value := #[.int .i64 (x : Int)]
set_option maxHeartbeats 400000 in
theorem each_any (s : ByteArray) (w : World) :
    Calls Tryz.prog 70 #[.string s] w fun e w' => e = .returned (.func (.func 78) #[] #[.pointer (some ⟨w.heap.size, 0, none⟩)]) ∧ w' = w.alloc (.cells #[.string s] 9) := by
  have hmf : ∀ (fn : Fn) (first cap : Array Value) (w : World), (Instr.makeFunc fn first cap).run Tryz.prog w = .ok (.func fn first cap) w := fun _ _ _ _ => rfl
  go_enter Tryz.func70, Tryz.ntmps70
  go_wp2
  go_ret
  exact ⟨rfl, rfl⟩
theorem grown_none {W W1 : World} (h : Below W.heap.size W W1) : W.grownBy W1 none :=
  ⟨h.os, h.tape, h.output, h.size, fun j hj _ => h.block j hj⟩
theorem take_snocN {l : List Nat} {k x : Nat} (h : l[k]? = some x) : l.take k ++ [x] = l.take (k + 1) := by
  rw [List.take_add_one, h]; rfl
/-- The two bytes of a scope. -/
theorem set_at {l : List Nat} {k x : Nat} (h : l[k]? = some x) : (setL l)[2 * k]? = some (hiB x) ∧ (setL l)[2 * k + 1]? = some (loB x) := by
  have hc := setL_cut h
  constructor
  · have : (((setL l).drop (2 * k)).take 2)[0]? = some (hiB x) := by rw [hc]; rfl
    rw [List.getElem?_take, if_pos (by omega), List.getElem?_drop] at this; simpa using this
  · have : (((setL l).drop (2 * k)).take 2)[1]? = some (loB x) := by rw [hc]; rfl
    rw [List.getElem?_take, if_pos (by omega), List.getElem?_drop] at this; simpa using this
/-- A byte of a string, as the program reads it. -/
theorem str_get {L : List UInt8} {k : Nat} {c : UInt8} (h : L[k]? = some c) : ∃ hk : k < (str L).size, (str L)[k]'hk = c := by
  obtain ⟨hk, e⟩ := List.getElem?_eq_some_iff.1 h
  exact ⟨by rw [str_size]; exact hk, e⟩
theorem two_num {x n1 n2 : Nat} (h : n1 = x / 256 ∧ n2 = x % 256 ∧ x < 65536) : IntKind.i64.wrap (n1 : Int) = n1 ∧ IntKind.i64.wrap ((n1 : Int) * 256) = (n1 : Int) * 256 ∧ IntKind.i64.wrap (n2 : Int) = n2 ∧ bits .or .i64 ((n1 : Int) * 256) (n2 : Int) = (x : Int) := by
  obtain ⟨rfl, rfl, h⟩ := h
  refine ⟨by rw [IntKind.wrap_i64]; omega, by rw [IntKind.wrap_i64]; omega, by rw [IntKind.wrap_i64]; omega, ?_⟩
  rw [bits_join .i64 24 (by decide) (fun n h0 h1 => by rw [IntKind.wrap_i64]; omega) 8 _ _ (by omega) (by omega) (by omega) (by omega) (by omega) (by omega)]
  omega

set_option maxRecDepth 100000 in
set_option maxHeartbeats 4000000 in
/-- The iterator's contract. -/
theorem each_seq (n Bs : Nat) (P₀ : Nat → Prop) (l : List Nat) (w : World) (hn : 1 ≤ n) (hx : ∀ x ∈ l, x < 65536) (hL : l.length ≤ 1000000) (hn₀ : ∀ k, P₀ k → k < w.heap.size) (hP : P₀ Bs)
    (hv : w.heap[Bs]? = some (.cells #[.string (str (setL l))] 9 (0, 0))) :
    SeqB n Tryz.prog 78 #[.pointer (some ⟨Bs, 0, none⟩)] encN P₀ 0 (fun ys => ys = l) (fun pre => pre <+: l) l.length w := by
  intro lp J Jx W hW hJ hJx hY h0
  obtain ⟨m, hm⟩ : ∃ m, l.length = m := ⟨_, rfl⟩
  obtain ⟨S, hS⟩ : ∃ S, str (setL l) = S := ⟨_, rfl⟩
  have HSz : Hid (S.size = 2 * m) := Lib.hid (by rw [← hS, str_size, setL_len, hm])
  have HF : Hid (∀ wr : World, (∀ k, P₀ k → wr.heap[k]? = W.heap[k]?) → wr.cell? ⟨Bs, 0, none⟩ = some (.string S)) := Lib.hid fun wr h => by
    have := (h _ hP).trans ((hW.block _ (hn₀ _ hP)).trans hv)
    rw [hS] at this
    simp [World.cell?, this]
  have HB : Hid (∀ k x, l[k]? = some x → ∃ (p n1 n2 : Nat) (h1 : p < S.size) (h2 : p + 1 < S.size), Hid (p = 2 * k) ∧ ((S[p]'h1).toNat : Int) = (n1 : Int) ∧ ((S[p + 1]'h2).toNat : Int) = (n2 : Int) ∧ Hid (n1 = x / 256 ∧ n2 = x % 256 ∧ x < 65536)) := Lib.hid fun k x h => by
    obtain ⟨a, b⟩ := set_at h
    obtain ⟨h1, e1⟩ := str_get a
    obtain ⟨h2, e2⟩ := str_get b
    have h64 := hx x (List.mem_of_getElem? h)
    subst hS
    exact ⟨2 * k, (hiB x).toNat, (loB x).toNat, h1, h2, Lib.hid rfl, by rw [e1], by rw [e2], Lib.hid ⟨hi_nat h64, lo_nat x, h64⟩⟩
  have HX := Lib.hid hx
  have HM := Lib.hid hm
  have HY : Hid (∀ (pre : List Nat) (x : Nat) (W1 : World), J pre W1 → W.heap.size ≤ W1.heap.size → pre.length < m → YieldAt Fence.wide (n - 1) Tryz.prog lp #[.int .i64 (x : Int)] W1 fun e W' => ∃ ok, e = .returned (.bool ok) ∧ (ok = true → J (pre ++ [x]) W' ∧ KeepsB P₀ W.heap.size (W.heap.size + 0) W1 W') ∧ (ok = false → Jx (pre ++ [x]) W')) := Lib.hid fun pre x W1 h1 h2 h3 => by
    obtain ⟨fn, tmps, assign, body, hy, hR⟩ := hY pre x W1 h1 h2 (by rw [hm]; exact h3)
    refine ⟨fn, tmps, assign, body, hy, hR.mono ?_⟩
    rintro e W' (⟨rfl, a, b⟩ | ⟨rfl, a⟩)
    · exact ⟨true, rfl, fun _ => ⟨a, b⟩, fun h => by cases h⟩
    · exact ⟨false, rfl, fun h => (by cases h), fun _ => a⟩
  have hmb : m ≤ 1000000 := by omega
  clear hv hS hx hY hm
  refine callsIn_of_wp Tryz.func78 rfl trivial ?_ rfl
  simp only [Tryz.ntmps78, List.size_toArray, List.length_cons, List.length_nil, Nat.reduceAdd, Nat.reduceSub, Array.replicate_succ, Array.replicate_zero, List.push_toArray, List.append_toArray, List.nil_append, List.cons_append]
  gi_wp2
  -- MARK1
  gi_loopw [3] (fun x3 W1 => ∃ k : Nat, x3 = .int .i64 ((2 * k : Nat) : Int) ∧ k ≤ m ∧ J (l.take k) W1 ∧ W.heap.size ≤ W1.heap.size ∧ Hid (∀ k, P₀ k → W1.heap[k]? = W.heap[k]?)) (fun x _ => 2 * m - (intOf x).toNat)
  case atStart => exact ⟨0, rfl, Nat.zero_le _, h0, Nat.le_refl _, Lib.hid fun _ _ => rfl⟩
  case round =>
    obtain ⟨k, rfl, hk, hJ1, hs1, HK⟩ := hrel
    have hc := HF.out wr HK.out
    by_cases hlt : k < m
    · obtain ⟨x, hxk⟩ : ∃ x, l[k]? = some x := ⟨_, List.getElem?_eq_getElem (by rw [HM.out]; exact hlt)⟩
      obtain ⟨p, n1, n2, q1, q2, HP, b1, b2, HN⟩ := HB.out k x hxk
      have HPre := Lib.hid (take_snocN hxk)
      have HYx := Lib.hid (fun W1 (hj : J (l.take k) W1) (hs : W.heap.size ≤ W1.heap.size) => HY.out (l.take k) x W1 hj hs (by rw [List.length_take]; omega))
      have hpm : p + 1 < 2000001 := by have := HSz.out; omega
      rw [← HP.out]
      have hd : decide ((p : Int) < (S.size : Int)) = true := decide_eq_true (by omega)
      have i1 : (0 : Int) ≤ (p : Int) := Int.natCast_nonneg _
      have i2 : (p : Int) < (S.size : Int) := by omega
      have i3 : IntKind.i64.wrap ((p : Int) + 1) = (p : Int) + 1 := by rw [IntKind.wrap_i64]; omega
      have i4 : (0 : Int) ≤ (p : Int) + 1 := by omega
      have i5 : (p : Int) + 1 < (S.size : Int) := by omega
      obtain ⟨w1, w2, w3, w4⟩ := two_num HN.out
      clear hxk
      obtain ⟨fn, tmps, assign, body, hy, hR⟩ := HYx.out wr.drew (by exact hJ _ _ _ none hJ1 (grown_none (Below.refl _ _).drew) (fun r e => by cases e)) hs1
      gi_wp2
      -- MARK1
      gi_region_with (refine hR.mono ?_; rintro e W3 ⟨ok, rfl, hY1, hY2⟩)
      -- MARK2
      all_goals (
        cases ok with
        | true =>
          obtain ⟨hJ3, hk3⟩ := hY1 rfl
          rw [HPre.out] at hJ3
          have HK3 : Hid (∀ k, P₀ k → W3.heap[k]? = W.heap[k]?) := Lib.hid (fun j hj => (hk3.2 j (.inl hj)).trans (HK.out j hj))
          have hs3 : W.heap.size ≤ W3.heap.size := Nat.le_trans hs1 hk3.1
          have hpe := HP.out
          have hsz3 := HSz.out
          gi_wp2
          exact ⟨⟨k + 1, by go_num, by omega, hJ3, hs3, HK3⟩, by simp [intOf]; omega⟩
        | false =>
          have hJx3 := hY2 rfl
          rw [HPre.out] at hJx3
          gi_wp2
          refine bodyPost_ret (results_none rfl _ _ _) rfl ?_
          exact ⟨⟨_, rfl⟩, .inr ⟨_, List.take_prefix _ _, hJx3⟩⟩)
    · obtain rfl : k = m := by omega
      have hd : decide (((2 * k : Nat) : Int) < (S.size : Int)) = false := decide_eq_false (by have := HSz.out; omega)
      obtain ⟨p, hp⟩ : ∃ p, 2 * k = p := ⟨_, rfl⟩
      rw [hp] at hd ⊢
      have hnl : ¬ p < S.size := by simpa using hd
      clear hp
      gi_wp2
      -- MARK9
      go_end0
      refine ⟨⟨_, rfl⟩, .inl ⟨_, rfl, ?_⟩⟩
      rw [List.take_of_length_le (Nat.le_of_eq HM.out)] at hJ1
      exact hJ1
end Go.Proofs.YtdiinlmeoifgjaaGreatDoor

/- scopes.Check. -/
namespace Go.Proofs.YtdiinlmeoifgjaaGreatDoor
open Go.RowKit Go.Shelf Go.PlainAid

attribute [local go_sem] Oper.semAt_some

theorem set_block {W : World} {b i : Nat} {c : Array Value} {t : TypeId} {fr : Nat × Nat} (v : Value) (h : W.heap[b]? = some (.cells c t fr)) :
    (W.setCell ⟨b, i, none⟩ v).heap[b]? = some (.cells (c.setIfInBounds i v) t fr) := by
  simp [World.setCell, Array.getElem?_modify, h]
theorem set_other {W : World} {b i k : Nat} (v : Value) (h : k ≠ b) : (W.setCell ⟨b, i, none⟩ v).heap[k]? = W.heap[k]? := Below.heap_setCell _ _ _ k h
theorem tooMany_any (n : Int) (w : World) : Calls Tryz.prog 71 #[.int .i64 n] w fun e w' => e = .returned (.bool (decide (10000 < n))) ∧ w' = w := by
  go_enter Tryz.func71, Tryz.ntmps71
  go_wp2_with fail
  go_ret
  exact ⟨rfl, rfl⟩
/-- The last scope so far. -/
def lastV (pre : List Nat) : Int := match pre.getLast? with | some x => (x : Int) | none => -1
theorem lastV_app (pre : List Nat) (x : Nat) : lastV (pre ++ [x]) = (x : Int) := by unfold lastV; simp
theorem asc_app {pre : List Nat} {x : Nat} (h : asc pre) : asc (pre ++ [x]) ↔ lastV pre < (x : Int) := by
  unfold lastV
  cases hp : pre.getLast? with
  | none =>
    obtain rfl : pre = [] := List.getLast?_eq_none_iff.1 hp
    simp [asc_one]; omega
  | some y =>
    obtain ⟨q, rfl⟩ := List.getLast?_eq_some_iff.1 hp
    obtain ⟨h1, _, h3⟩ := List.pairwise_append.1 h
    simp only
    constructor
    · intro h4
      have := (List.pairwise_append.1 h4).2.2 y (by simp) x (by simp)
      omega
    · intro h4
      refine List.pairwise_append.2 ⟨h, asc_one x, fun z hz u hu => ?_⟩
      obtain rfl : u = x := by simpa using hu
      rcases List.mem_append.1 hz with hz | hz
      · have := h3 z hz y (by simp); omega
      · obtain rfl : z = y := by simpa using hz
        omega
theorem asc_pre {pre l : List Nat} (h : asc l) (hp : pre <+: l) : asc pre := List.Pairwise.sublist hp.sublist h
theorem lastV_bd {pre l : List Nat} (hp : pre <+: l) (hl : ∀ x ∈ l, x < 65536) : -1 ≤ lastV pre ∧ lastV pre < 65536 := by
  unfold lastV
  cases h : pre.getLast? with
  | none => simp
  | some x => have := hl x (hp.subset (List.mem_of_getLast? h)); simp only; omega
/-- In the loop. -/
def CkI (A : Nat) (w : World) (pre : List Nat) (W : World) : Prop :=
  asc pre ∧ W.heap[A]? = some (.cells #[.int .i64 0] 27 (0, 0)) ∧ W.heap[A + 1]? = some (.cells #[.int .i64 (lastV pre)] 3 (0, 0)) ∧ Below A w W
def CkX (A : Nat) (w : World) (c : Code) (pre : List Nat) (W : World) : Prop :=
  c = .ret ∧ ¬ asc pre ∧ W.heap[A]? = some (.cells #[.int .i64 6] 27 (0, 0)) ∧ Below A w W
theorem ckI_bears (A : Nat) (w : World) : Bears (A + 3) (A + 3 + 2 + 0) (CkI A w) := by
  intro pre W W' row h hg hr
  obtain ⟨h0, h1, h2, h3⟩ := h
  exact ⟨h0, (hg.block A (Array.getElem?_eq_some_iff.1 h1).1 fun e => by have := hr _ e.symm; omega).trans h1, (hg.block (A + 1) (Array.getElem?_eq_some_iff.1 h2).1 fun e => by have := hr _ e.symm; omega).trans h2,
    h3.grown hg (Nat.le_of_lt (Array.getElem?_eq_some_iff.1 h1).1) (fun k e => by have := hr _ e; omega)⟩
theorem ckX_bears (A : Nat) (w : World) (c : Code) : Bears (A + 3) (A + 3 + 2 + 0) (CkX A w c) := by
  intro pre W W' row h hg hr
  obtain ⟨h0, h0', h1, h3⟩ := h
  exact ⟨h0, h0', (hg.block A (Array.getElem?_eq_some_iff.1 h1).1 fun e => by have := hr _ e.symm; omega).trans h1,
    h3.grown hg (Nat.le_of_lt (Array.getElem?_eq_some_iff.1 h1).1) (fun k e => by have := hr _ e; omega)⟩
def CkA (A : Nat) (w : World) (pre : List Nat) (x : Nat) (a : Act) (W : World) : Prop :=
  CkI A w pre W ∧ ∃ u0 u1 u5 u6 u7 u8 u9 u10 u11 u12 u13 u14 u15 u16 u17 u18 u19 : Value,
    a = { tmps := #[u0, u1, .pointer (some ⟨A, 0, none⟩), .pointer (some ⟨A + 1, 0, none⟩), .int .i64 (x : Int), u5, u6, u7, u8, u9, u10, u11, u12, u13, u14, u15, u16, u17, u18, u19], defers := [] }
theorem ckA_bears (A : Nat) (w : World) (pre : List Nat) (x : Nat) : Bears (A + 3) (A + 3 + 2 + 0) (CkA A w pre x) := by
  intro a W W' row h hg hr
  exact ⟨ckI_bears A w pre W W' row h.1 hg hr, h.2⟩

set_option maxRecDepth 50000 in
set_option maxHeartbeats 1600000 in
theorem check_even (l : List Nat) (w : World) (hx : ∀ x ∈ l, x < 65536) (hL : l.length ≤ 1000000) :
    CallsIn Fence.wide 5 Tryz.prog 63 #[.string (str (setL l))] w fun e w' => e = .returned (.int .i64 (chkE (setL l))) ∧ Below w.heap.size w w' := by
  obtain ⟨m, hm⟩ : ∃ m, l.length = m := ⟨_, rfl⟩
  have HS : Hid ((str (setL l)).size = 2 * m) := Lib.hid (by rw [str_size, setL_len, hm])
  have HX := Lib.hid hx
  have hmb : m ≤ 1000000 := by omega
  have hseqA := Lib.hid (fun (W0 : World) (A : Nat) (hsz : W0.heap.size = A + 3) (hv : W0.heap[A + 2]? = some (.cells #[.string (str (setL l))] 9 (0, 0))) =>
    each_seq (5 - 1) (A + 2) (fun k => k = A + 2) l W0 (by omega) hx hL (fun k hk => by omega) rfl hv)
  have HV1 : Hid (¬ asc l → chkE (setL l) = 6) := Lib.hid (fun h => chkE_no (by rw [ids_set l hx]; exact h))
  have HV2 : Hid (asc l → chkE (setL l) = if 10000 < m then 3 else 0) := Lib.hid (fun h => by rw [chkE_set h hx, hm])
  obtain ⟨S, hS⟩ : ∃ S, str (setL l) = S := ⟨_, rfl⟩
  rw [hS] at HS hseqA
  have e0 : (S.size : Int) = 2 * (m : Int) := by rw [HS.out]; omega
  have e1 : ((S.size : Int).tmod 2 != 0) = false := by rw [e0]; simp
  rw [hS]
  clear hx hS hm
  refine callsIn_of_wp_marks Tryz.func63 rfl trivial ?_ rfl
  simp only [Tryz.ntmps63, List.size_toArray, List.length_cons, List.length_nil, Nat.reduceAdd, Nat.reduceSub, Array.replicate_succ, Array.replicate_zero, List.push_toArray, List.append_toArray, List.nil_append, List.cons_append]
  gi_wp2
  -- MARK1
  refine ⟨trivial, (callsIn_wide.2 (each_any S _)).mono ?_⟩
  rintro e w1 ⟨rfl, rfl⟩
  gi_wp2
  obtain ⟨W0, hW0⟩ : ∃ W0, W0 = ((w.alloc (.cells #[.int .i64 0] 27)).alloc (.cells #[.int .i64 (-1)] 3)).alloc (.cells #[.string S] 9) := ⟨_, rfl⟩
  rw [← hW0]
  obtain ⟨A, hA⟩ : ∃ A, w.heap.size = A := ⟨_, rfl⟩
  have hsz : W0.heap.size = A + 3 := by rw [hW0, ← hA]; simp
  have hbel : Below A w W0 := by
    rw [hW0, ← hA]
    exact (((Below.refl _ w).alloc (Nat.le_refl _) _).alloc (by simp only [World.size_alloc]; omega) _).alloc (by simp only [World.size_alloc]; omega) _
  have ha0 : W0.heap[A]? = some (.cells #[.int .i64 0] 27 (0, 0)) := by
    rw [hW0, ← hA]; exact (Below.heap_alloc _ _ _ (by simp only [World.size_alloc]; omega)).trans ((Below.heap_alloc _ _ _ (by simp only [World.size_alloc]; omega)).trans (World.alloc_heap_new _ _))
  have ha1 : W0.heap[A + 1]? = some (.cells #[.int .i64 (-1)] 3 (0, 0)) := by
    rw [hW0, ← hA]
    refine (Below.heap_alloc _ _ _ (by simp only [World.size_alloc]; omega)).trans ?_
    have := World.alloc_heap_new (w.alloc (.cells #[.int .i64 0] 27)) (.cells #[.int .i64 (-1)] 3); rwa [World.size_alloc] at this
  have ha2 : W0.heap[A + 2]? = some (.cells #[.string S] 9 (0, 0)) := by
    rw [hW0, ← hA]
    have := World.alloc_heap_new ((w.alloc (.cells #[.int .i64 0] 27)).alloc (.cells #[.int .i64 (-1)] 3)) (.cells #[.string S] 9); rwa [World.size_alloc, World.size_alloc] at this
  clear hW0
  rw [hA]
  have hseq := hseqA.out W0 A hsz ha2
  refine wpIn_rangeB (by omega) rfl (enters_of Tryz.func78 (by kernel_rfl) rfl) hseq (Below.refl _ _) (fun k hk => by omega) (fun _ => rfl) (CkI A w) (CkX A w) (by rw [hsz]; exact ckI_bears A w) (fun c => by rw [hsz]; exact ckX_bears A w c) ?_ (CkA A w) (fun pre x => by rw [hsz]; exact ckA_bears A w pre x) ?_ ?_ ?_ ?_
  · exact ⟨asc_nil, ha0, ha1, hbel⟩
  · intro l pre x W K hI hW hK
    rw [hsz] at hW hK
    simp only [encN]
    gi_wp2
    exact hK _ _ (KeepsB.refl _ _ _ _) ⟨hI, _, _, _, _, _, _, _, _, _, _, _, _, _, _, _, _, _, rfl⟩
  · intro l' pre x a' W hAx hW hlen
    rw [hsz] at hW
    obtain ⟨⟨r0, r1, r2, r3⟩, u0, u1, u5, u6, u7, u8, u9, u10, u11, u12, u13, u14, u15, u16, u17, u18, u19, rfl⟩ := hAx
    have hc0 : W.cell? ⟨A, 0, none⟩ = some (.int .i64 0) := by simp [World.cell?, r1]
    have hz0 : W.frozen? ⟨A, 0, none⟩ = false := by simp [World.frozen?, r1]
    have hc1 : W.cell? ⟨A + 1, 0, none⟩ = some (.int .i64 (lastV pre)) := by simp [World.cell?, r2]
    have hz1 : W.frozen? ⟨A + 1, 0, none⟩ = false := by simp [World.frozen?, r2]
    have HA2 := Lib.hid (asc_app (x := x) r0)
    have HLv := Lib.hid (lastV_app pre x)
    obtain ⟨lv, hlv⟩ : ∃ lv, lastV pre = lv := ⟨_, rfl⟩
    rw [hlv] at hc1 HA2
    rw [hsz]
    clear hlv
    by_cases hle : (x : Int) ≤ lv
    · have hd : decide ((x : Int) ≤ lv) = true := decide_eq_true hle
      gi_wp2
      -- MARK2
      refine ⟨⟨(KeepsWalks.setCell W _ _).size, fun k hk => set_other _ (by rcases hk with hk | hk <;> omega)⟩, rfl, ?_, ?_, r3.setCell (Nat.le_refl A) _⟩
      · rw [HA2.out]; omega
      · exact set_block _ r1
    · have hd : decide ((x : Int) ≤ lv) = false := decide_eq_false hle
      gi_wp2
      -- MARK3
      refine ⟨⟨(KeepsWalks.setCell W _ _).size, fun k hk => set_other _ (by rcases hk with hk | hk <;> omega)⟩, HA2.out.2 (by omega), ?_, ?_, r3.setCell (Nat.le_succ A) _⟩
      · exact (set_other _ (by omega)).trans r1
      · have := set_block (i := 0) (.int .i64 (x : Int)) r2
        rw [this, HLv.out]; rfl
  · intro xs W hSS hI hD
    rw [hsz] at hD
    subst hSS
    obtain ⟨r0, r1, r2, r3⟩ := hI
    have HV := HV2.out r0
    have hc0 : W.cell? ⟨A, 0, none⟩ = some (.int .i64 0) := by simp [World.cell?, r1]
    have hz0 : W.frozen? ⟨A, 0, none⟩ = false := by simp [World.frozen?, r1]
    have C := Lib.hid (tooMany_any (m : Int) W)
    rw [hsz]
    have e2 : IntKind.i64.wrap ((2 * (m : Int)).tdiv 2) = (m : Int) := by rw [Int.mul_tdiv_cancel_left _ (by decide), IntKind.wrap_i64]; omega
    gi_wp2
    -- MARK4
    refine ⟨trivial, (callsIn_wide.2 C.out).mono ?_⟩
    rintro e w3 ⟨rfl, rfl⟩
    have hfin : ∀ u0 : Value, (w3.setCell ⟨A, 0, none⟩ u0).heap[A + 3]? = some (.deferred (some [])) := fun u0 => (set_other _ (by omega)).trans hD
    have hres : ∀ u0 : Value, ((w3.setCell ⟨A, 0, none⟩ u0).putObj (A + 3) (.deferred none)).cell? ⟨A, 0, none⟩ = some u0 ∧ Below A w ((w3.setCell ⟨A, 0, none⟩ u0).putObj (A + 3) (.deferred none)) := by
      intro u0
      have g0 : (w3.setCell ⟨A, 0, none⟩ u0).heap[A]? = some (.cells #[u0] 27 (0, 0)) := set_block _ r1
      refine ⟨?_, ?_⟩
      · rw [World.cell?_of_block (World.putObj_heap_other (by show A ≠ A + 3; omega))]; simp [World.cell?, g0]
      · exact (r3.setCell (Nat.le_refl A) _).grown (grownBy_putObj' _ _ _) (by have := Array.getElem?_eq_some_iff.1 g0; exact Nat.le_of_lt this.1) (fun k e => by cases e; omega)
    by_cases hm : 10000 < m
    · have hd : decide ((10000 : Int) < (m : Int)) = true := decide_eq_true (by omega)
      rw [if_pos hm] at HV
      gi_wp2
      obtain ⟨q0, q2⟩ := hres (.int .i64 3)
      refine ⟨by simp, .inl ⟨_, _, rfl, run_takeDeferred (hfin _), ?_⟩⟩
      refine ⟨.int .i64 3, by simp [results, Tryz.results63, go_sem, q0], ?_, ?_⟩
      · rw [HV]
      · rw [hA]; exact q2
    · have hd : decide ((10000 : Int) < (m : Int)) = false := decide_eq_false (by omega)
      rw [if_neg hm] at HV
      gi_wp2
      obtain ⟨q0, q2⟩ := hres (.int .i64 0)
      refine ⟨by simp, .inl ⟨_, _, rfl, run_takeDeferred (hfin _), ?_⟩⟩
      refine ⟨.int .i64 0, by simp [results, Tryz.results63, go_sem, q0], ?_, ?_⟩
      · rw [HV]
      · rw [hA]; exact q2
  · intro c pre W hSp hIx hD
    rw [hsz] at hD
    rw [hsz]
    obtain ⟨rfl, h1, r0, r1⟩ := hIx
    have HV := HV1.out (fun h => h1 (asc_pre h hSp))
    have q0 : (W.putObj (A + 3) (.deferred none)).cell? ⟨A, 0, none⟩ = some (.int .i64 6) := by
      rw [World.cell?_of_block (World.putObj_heap_other (by show A ≠ A + 3; omega))]; simp [World.cell?, r0]
    gi_wp2
    -- MARK5
    refine ⟨by simp, .inl ⟨_, _, rfl, run_takeDeferred hD, ?_⟩⟩
    refine ⟨.int .i64 6, by simp [results, Tryz.results63, go_sem, q0], ?_, ?_⟩
    · rw [HV]
    · rw [hA]; exact r1.grown (grownBy_putObj' _ _ _) (Nat.le_of_lt (Array.getElem?_eq_some_iff.1 r0).1) (fun k e => by cases e; omega)

set_option maxRecDepth 50000 in
set_option maxHeartbeats 1600000 in
theorem check_odd (L : List UInt8) (w : World) (h : L.length % 2 ≠ 0) : Calls Tryz.prog 63 #[.string (str L)] w fun e w' => e = .returned (.int .i64 (chkE L)) ∧ Below w.heap.size w w' := by
  have HV := Lib.hid (chkE_odd h)
  obtain ⟨S, hS⟩ : ∃ S, str L = S := ⟨_, rfl⟩
  have e1 : ((S.size : Int) % 2 != 0) = true := by
    rw [bne_iff_ne, ← hS, str_size]; omega
  rw [hS]
  clear hS h
  go_enter Tryz.func63, Tryz.ntmps63
  go_wp2
  -- MARK6
  obtain ⟨W1, hW1⟩ : ∃ W1, W1 = (w.alloc (.cells #[.int .i64 6] 27)) := ⟨_, rfl⟩
  have g0 : W1.heap[w.heap.size]? = some (.cells #[.int .i64 6] 27 (0, 0)) := by rw [hW1]; exact World.alloc_heap_new _ _
  have hb1 : Below w.heap.size w W1 := by rw [hW1]; exact (Below.refl _ w).alloc (Nat.le_refl _) _
  rw [← hW1]
  clear hW1
  have q0 : W1.cell? ⟨w.heap.size, 0, none⟩ = some (.int .i64 6) := by simp [World.cell?, g0]
  exact bodyPost_ret (v := .int .i64 6) (by simp [results, Tryz.results63, go_sem, q0]) rfl ⟨by rw [HV.out], hb1⟩
theorem check_any (L : List UInt8) (w : World) (hL : L.length ≤ 1000000) : Calls Tryz.prog 63 #[.string (str L)] w fun e w' => e = .returned (.int .i64 (chkE L)) ∧ Below w.heap.size w w' := by
  by_cases h : L.length % 2 = 0
  · have := callsIn_wide.1 (check_even (idsL L) w (ids_lt L) (by rw [ids_len]; omega))
    rw [set_ids L h] at this; exact this
  · exact check_odd L w h
end Go.Proofs.YtdiinlmeoifgjaaGreatDoor

/- scopes.has, scopes.Ids. -/
namespace Go.Proofs.YtdiinlmeoifgjaaGreatDoor
open Go.RowKit Go.Shelf Go.PlainAid

attribute [local go_sem] Oper.semAt_some

theorem own_mono {w : World} {B B' e z n : Nat} {v : Value} {xs : List Value} (h : w.ownsRow B e z v n xs) (hb : B' ≤ B) : w.ownsRow B' e z v n xs :=
  ⟨h.1, h.2.imp id fun ⟨g, cap, cur, h1, h2, h3⟩ => ⟨g, cap, cur, h1, Nat.le_trans hb h2, h3⟩⟩
theorem own_slice {w : World} {B e z n : Nat} {v : Value} {xs : List Value} (h : w.ownsRow B e z v n xs) : ∃ a m c, v = .slice a m c := by
  rcases h.2 with ⟨rfl, _⟩ | ⟨g, cap, cur, rfl, _⟩
  · exact ⟨_, _, _, rfl⟩
  · exact ⟨_, _, _, rfl⟩
theorem own_len {w : World} {B e z n : Nat} {v : Value} {xs : List Value} (h : w.ownsRow B e z v n xs) : ∃ a c, v = .slice a n c := by
  rcases h.2 with ⟨rfl, h0⟩ | ⟨g, cap, cur, rfl, _⟩
  · exact ⟨_, _, by rw [h0]⟩
  · exact ⟨_, _, rfl⟩
theorem info_parts2 {P : Program} {t : TypeId} {z : Value} {n b : Nat} (h : (P.info? t).map (fun i => (i.zero, i.size, i.bytes)) = some (some z, n, b)) :
    ∃ i, P.info? t = some i ∧ i.zero = some z ∧ i.size = n ∧ i.bytes = b := by
  cases hi : P.info? t with
  | none => rw [hi] at h; cases h
  | some i =>
    rw [hi] at h
    simp only [Option.map_some, Option.some.injEq, Prod.mk.injEq] at h
    exact ⟨i, rfl, h.1, h.2.1, h.2.2⟩
theorem infoInt : (Tryz.prog.info? 3).map (fun i => (i.zero, i.size, i.bytes)) = some (some (.int .i64 0), 1, 8) := by kernel_rfl
theorem infoU8 : (Tryz.prog.info? 5).map (fun i => (i.zero, i.size, i.bytes)) = some (some (.int .u8 0), 1, 1) := by kernel_rfl
theorem grown_set (W : World) (b i : Nat) (v : Value) : W.grownBy (W.setCell ⟨b, i, none⟩ v) (some b) :=
  ⟨rfl, rfl, rfl, (KeepsWalks.setCell W _ v).size, fun k _ hk => Below.heap_setCell _ _ _ k (fun e => hk (by rw [e]))⟩

/-- has: in the loop. -/
def HsI (A n : Nat) (w : World) (pre : List Nat) (W : World) : Prop :=
  (∀ y ∈ pre, y < n) ∧ W.heap[A]? = some (.cells #[.int .i64 (n : Int)] 3 (0, 0)) ∧ W.heap[A + 1]? = some (.cells #[.bool false] 4 (0, 0)) ∧ Below A w W
def HsX (A n : Nat) (w : World) (c : Code) (pre : List Nat) (W : World) : Prop :=
  c = .ret ∧ (∃ p x, pre = p ++ [x] ∧ (∀ y ∈ p, y < n) ∧ n ≤ x ∧ W.heap[A + 1]? = some (.cells #[.bool (decide (x = n))] 4 (0, 0))) ∧ Below A w W
theorem hsI_bears (A n : Nat) (w : World) : Bears (A + 3) (A + 3 + 2 + 0) (HsI A n w) := by
  intro pre W W' row h hg hr
  obtain ⟨h0, h1, h2, h3⟩ := h
  exact ⟨h0, (hg.block A (Array.getElem?_eq_some_iff.1 h1).1 fun e => by have := hr _ e.symm; omega).trans h1, (hg.block (A + 1) (Array.getElem?_eq_some_iff.1 h2).1 fun e => by have := hr _ e.symm; omega).trans h2,
    h3.grown hg (Nat.le_of_lt (Array.getElem?_eq_some_iff.1 h1).1) (fun k e => by have := hr _ e; omega)⟩
theorem hsX_bears (A n : Nat) (w : World) (c : Code) : Bears (A + 3) (A + 3 + 2 + 0) (HsX A n w c) := by
  intro pre W W' row h hg hr
  obtain ⟨h0, ⟨p, x, h1, h2, h3, h4⟩, h5⟩ := h
  exact ⟨h0, ⟨p, x, h1, h2, h3, (hg.block (A + 1) (Array.getElem?_eq_some_iff.1 h4).1 fun e => by have := hr _ e.symm; omega).trans h4⟩,
    h5.grown hg (Nat.le_trans (Nat.le_succ A) (Nat.le_of_lt (Array.getElem?_eq_some_iff.1 h4).1)) (fun k e => by have := hr _ e; omega)⟩
def HsA (A n : Nat) (w : World) (pre : List Nat) (x : Nat) (a : Act) (W : World) : Prop :=
  HsI A n w pre W ∧ ∃ u0 u1 u2 u6 u7 u8 u9 u10 u11 u12 u13 u14 : Value,
    a = { tmps := #[u0, u1, u2, .pointer (some ⟨A, 0, none⟩), .pointer (some ⟨A + 1, 0, none⟩), .int .i64 (x : Int), u6, u7, u8, u9, u10, u11, u12, u13, u14], defers := [] }
theorem hsA_bears (A n : Nat) (w : World) (pre : List Nat) (x : Nat) : Bears (A + 3) (A + 3 + 2 + 0) (HsA A n w pre x) := by
  intro a W W' row h hg hr
  exact ⟨hsI_bears A n w pre W W' row h.1 hg hr, h.2⟩
theorem has_stop {l p : List Nat} {x n : Nat} (h : asc l) (hp : p ++ [x] <+: l) (h1 : ∀ y ∈ p, y < n) (h2 : n ≤ x) : decide (n ∈ l) = decide (x = n) := by
  obtain ⟨r, rfl⟩ := hp
  obtain ⟨a, b, c⟩ := List.pairwise_append.1 h
  rw [Bool.eq_iff_iff, decide_eq_true_iff, decide_eq_true_iff]
  constructor
  · intro hm
    rcases List.mem_append.1 hm with hm | hm
    · rcases List.mem_append.1 hm with hm | hm
      · have := h1 n hm; omega
      · exact (List.mem_singleton.1 hm).symm
    · have := c x (by simp) n hm; omega
  · rintro rfl; simp

end Go.Proofs.YtdiinlmeoifgjaaGreatDoor

/- Small functions of scopes: isScope, checkWith, checkTwo, limited, appendIf, setOf. -/
namespace Go.Proofs.YtdiinlmeoifgjaaGreatDoor
open Go.RowKit Go.PlainAid

/-- What is appended. -/
def apS : Bool → List UInt8 → List UInt8
  | true, s => s
  | false, _ => []
end Go.Proofs.YtdiinlmeoifgjaaGreatDoor
