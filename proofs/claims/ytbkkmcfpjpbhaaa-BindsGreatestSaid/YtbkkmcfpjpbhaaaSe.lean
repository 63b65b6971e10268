/- The iterator over the scopes of a set: its contract. -/
import Derived.RangeFuncNested
import Derived.RangeFuncBound
import Derived.RangeFuncCalls
import Derived.RangeFuncLeaves
import Derived.Shelf.Abstract
import Derived.Shelf.RegionOpen
import Derived.WalkKit
import Derived.WalkMore
import Derived.BigGuardPart
import Derived.OwnWalkIn
import Derived.TacticsInMore
import Derived.LoopNIn
import Derived.LoopIn
import Derived.BigGuardPartIn
import Derived.Stop.RegionWithIn
import Derived.Lib.EndianBits
import Derived.Test.YtbkkmcfpjpbhaaaSq
namespace Go.Proofs.Ytbkkmcfpjpbhaaa
open Go.RowKit Go.Shelf Go.PlainAid

attribute [local go_sem] Oper.semAt_some

def encN (x : Nat) : Array Value := #[.int .i64 (x : Int)]
set_option maxHeartbeats 400000 in
theorem each_any (s : ByteArray) (w : World) :
    Calls Try.prog 54 #[.string s] w fun e w' => e = .returned (.func (.func 58) #[] #[.pointer (some ⟨w.heap.size, 0, none⟩)]) ∧ w' = w.alloc (.cells #[.string s] 9) := by
  have hmf : ∀ (fn : Fn) (first cap : Array Value) (w : World), (Instr.makeFunc fn first cap).run Try.prog w = .ok (.func fn first cap) w := fun _ _ _ _ => rfl
  go_enter Try.func54, Try.ntmps54
  go_wp2
  go_ret
  exact ⟨rfl, rfl⟩
theorem grown_none {W W1 : World} (h : Below W.heap.size W W1) : W.grownBy W1 none :=
  ⟨h.os, h.tape, h.output, h.size, fun j hj _ => h.block j hj⟩
theorem take_snocN {l : List Nat} {k x : Nat} (h : l[k]? = some x) : l.take k ++ [x] = l.take (k + 1) := by
  rw [List.take_add_one, h]; rfl
/-- The two bytes of a scope. -/
theorem set_at {l : List Nat} {k x : Nat} (h : l[k]? = some x) : (setL l)[2 * k]? = some (hiB x) ∧ (setL l)[2 * k + 1]? = some (loB x) := by
  have hc := setL_cut h
  constructor
  · have : (((setL l).drop (2 * k)).take 2)[0]? = some (hiB x) := by rw [hc]; rfl
    rw [List.getElem?_take, if_pos (by omega), List.getElem?_drop] at this; simpa using this
  · have : (((setL l).drop (2 * k)).take 2)[1]? = some (loB x) := by rw [hc]; rfl
    rw [List.getElem?_take, if_pos (by omega), List.getElem?_drop] at this; simpa using this
/-- A byte of a string, as the program reads it. -/
theorem str_get {L : List UInt8} {k : Nat} {c : UInt8} (h : L[k]? = some c) : ∃ hk : k < (str L).size, (str L)[k]'hk = c := by
  obtain ⟨hk, e⟩ := List.getElem?_eq_some_iff.1 h
  exact ⟨by rw [str_size]; exact hk, e⟩
theorem two_num {x n1 n2 : Nat} (h : n1 = x / 256 ∧ n2 = x % 256 ∧ x < 65536) : IntKind.i64.wrap (n1 : Int) = n1 ∧ IntKind.i64.wrap ((n1 : Int) * 256) = (n1 : Int) * 256 ∧ IntKind.i64.wrap (n2 : Int) = n2 ∧ bits .or .i64 ((n1 : Int) * 256) (n2 : Int) = (x : Int) := by
  obtain ⟨rfl, rfl, h⟩ := h
  refine ⟨by rw [IntKind.wrap_i64]; omega, by rw [IntKind.wrap_i64]; omega, by rw [IntKind.wrap_i64]; omega, ?_⟩
  rw [bits_join .i64 24 (by decide) (fun n h0 h1 => by rw [IntKind.wrap_i64]; omega) 8 _ _ (by omega) (by omega) (by omega) (by omega) (by omega) (by omega)]
  omega

set_option maxRecDepth 100000 in
set_option maxHeartbeats 4000000 in
/-- The iterator's contract. -/
theorem each_seq (n Bs : Nat) (P₀ : Nat → Prop) (l : List Nat) (w : World) (hn : 1 ≤ n) (hx : ∀ x ∈ l, x < 65536) (hL : l.length ≤ 1000000) (hn₀ : ∀ k, P₀ k → k < w.heap.size) (hP : P₀ Bs)
    (hv : w.heap[Bs]? = some (.cells #[.string (str (setL l))] 9 (0, 0))) :
    SeqB n Try.prog 58 #[.pointer (some ⟨Bs, 0, none⟩)] encN P₀ 0 (fun ys => ys = l) (fun pre => pre <+: l) l.length w := by
  intro lp J Jx W hW hJ hJx hY h0
  obtain ⟨m, hm⟩ : ∃ m, l.length = m := ⟨_, rfl⟩
  obtain ⟨S, hS⟩ : ∃ S, str (setL l) = S := ⟨_, rfl⟩
  have HSz : Hid (S.size = 2 * m) := Lib.hid (by rw [← hS, str_size, setL_len, hm])
  have HF : Hid (∀ wr : World, (∀ k, P₀ k → wr.heap[k]? = W.heap[k]?) → wr.cell? ⟨Bs, 0, none⟩ = some (.string S)) := Lib.hid fun wr h => by
    have := (h _ hP).trans ((hW.block _ (hn₀ _ hP)).trans hv)
    rw [hS] at this
    simp [World.cell?, this]
  have HB : Hid (∀ k x, l[k]? = some x → ∃ (p n1 n2 : Nat) (h1 : p < S.size) (h2 : p + 1 < S.size), Hid (p = 2 * k) ∧ ((S[p]'h1).toNat : Int) = (n1 : Int) ∧ ((S[p + 1]'h2).toNat : Int) = (n2 : Int) ∧ Hid (n1 = x / 256 ∧ n2 = x % 256 ∧ x < 65536)) := Lib.hid fun k x h => by
    obtain ⟨a, b⟩ := set_at h
    obtain ⟨h1, e1⟩ := str_get a
    obtain ⟨h2, e2⟩ := str_get b
    have h64 := hx x (List.mem_of_getElem? h)
    subst hS
    exact ⟨2 * k, (hiB x).toNat, (loB x).toNat, h1, h2, Lib.hid rfl, by rw [e1], by rw [e2], Lib.hid ⟨hi_nat h64, lo_nat x, h64⟩⟩
  have HX := Lib.hid hx
  have HM := Lib.hid hm
  have HY : Hid (∀ (pre : List Nat) (x : Nat) (W1 : World), J pre W1 → W.heap.size ≤ W1.heap.size → pre.length < m → YieldAt Fence.wide (n - 1) Try.prog lp #[.int .i64 (x : Int)] W1 fun e W' => ∃ ok, e = .returned (.bool ok) ∧ (ok = true → J (pre ++ [x]) W' ∧ KeepsB P₀ W.heap.size (W.heap.size + 0) W1 W') ∧ (ok = false → Jx (pre ++ [x]) W')) := Lib.hid fun pre x W1 h1 h2 h3 => by
    obtain ⟨fn, tmps, assign, body, hy, hR⟩ := hY pre x W1 h1 h2 (by rw [hm]; exact h3)
    refine ⟨fn, tmps, assign, body, hy, hR.mono ?_⟩
    rintro e W' (⟨rfl, a, b⟩ | ⟨rfl, a⟩)
    · exact ⟨true, rfl, fun _ => ⟨a, b⟩, fun h => by cases h⟩
    · exact ⟨false, rfl, fun h => (by cases h), fun _ => a⟩
  have hmb : m ≤ 1000000 := by omega
  clear hv hS hx hY hm
  refine callsIn_of_wp Try.func58 rfl trivial ?_ rfl
  simp only [Try.ntmps58, List.size_toArray, List.length_cons, List.length_nil, Nat.reduceAdd, Nat.reduceSub, Array.replicate_succ, Array.replicate_zero, List.push_toArray, List.append_toArray, List.nil_append, List.cons_append]
  gi_wp2
  -- MARK1
  gi_loopw [3] (fun x3 W1 => ∃ k : Nat, x3 = .int .i64 ((2 * k : Nat) : Int) ∧ k ≤ m ∧ J (l.take k) W1 ∧ W.heap.size ≤ W1.heap.size ∧ Hid (∀ k, P₀ k → W1.heap[k]? = W.heap[k]?)) (fun x _ => 2 * m - (intOf x).toNat)
  case atStart => exact ⟨0, rfl, Nat.zero_le _, h0, Nat.le_refl _, Lib.hid fun _ _ => rfl⟩
  case round =>
    obtain ⟨k, rfl, hk, hJ1, hs1, HK⟩ := hrel
    have hc := HF.out wr HK.out
    by_cases hlt : k < m
    · obtain ⟨x, hxk⟩ : ∃ x, l[k]? = some x := ⟨_, List.getElem?_eq_getElem (by rw [HM.out]; exact hlt)⟩
      obtain ⟨p, n1, n2, q1, q2, HP, b1, b2, HN⟩ := HB.out k x hxk
      have HPre := Lib.hid (take_snocN hxk)
      have HYx := Lib.hid (fun W1 (hj : J (l.take k) W1) (hs : W.heap.size ≤ W1.heap.size) => HY.out (l.take k) x W1 hj hs (by rw [List.length_take]; omega))
      have hpm : p + 1 < 2000001 := by have := HSz.out; omega
      rw [← HP.out]
      have hd : decide ((p : Int) < (S.size : Int)) = true := decide_eq_true (by omega)
      have i1 : (0 : Int) ≤ (p : Int) := Int.natCast_nonneg _
      have i2 : (p : Int) < (S.size : Int) := by omega
      have i3 : IntKind.i64.wrap ((p : Int) + 1) = (p : Int) + 1 := by rw [IntKind.wrap_i64]; omega
      have i4 : (0 : Int) ≤ (p : Int) + 1 := by omega
      have i5 : (p : Int) + 1 < (S.size : Int) := by omega
      obtain ⟨w1, w2, w3, w4⟩ := two_num HN.out
      clear hxk
      obtain ⟨fn, tmps, assign, body, hy, hR⟩ := HYx.out wr.drew (by exact hJ _ _ _ none hJ1 (grown_none (Below.refl _ _).drew) (fun r e => by cases e)) hs1
      gi_wp2
      -- MARK1
      gi_region_with (refine hR.mono ?_; rintro e W3 ⟨ok, rfl, hY1, hY2⟩)
      -- MARK2
      all_goals (
        cases ok with
        | true =>
          obtain ⟨hJ3, hk3⟩ := hY1 rfl
          rw [HPre.out] at hJ3
          have HK3 : Hid (∀ k, P₀ k → W3.heap[k]? = W.heap[k]?) := Lib.hid (fun j hj => (hk3.2 j (.inl hj)).trans (HK.out j hj))
          have hs3 : W.heap.size ≤ W3.heap.size := Nat.le_trans hs1 hk3.1
          have hpe := HP.out
          have hsz3 := HSz.out
          gi_wp2
          exact ⟨⟨k + 1, by go_num, by omega, hJ3, hs3, HK3⟩, by simp [intOf]; omega⟩
        | false =>
          have hJx3 := hY2 rfl
          rw [HPre.out] at hJx3
          gi_wp2
          refine bodyPost_ret (results_none rfl _ _ _) rfl ?_
          exact ⟨⟨_, rfl⟩, .inr ⟨_, List.take_prefix _ _, hJx3⟩⟩)
    · obtain rfl : k = m := by omega
      have hd : decide (((2 * k : Nat) : Int) < (S.size : Int)) = false := decide_eq_false (by have := HSz.out; omega)
      obtain ⟨p, hp⟩ : ∃ p, 2 * k = p := ⟨_, rfl⟩
      rw [hp] at hd ⊢
      have hnl : ¬ p < S.size := by simpa using hd
      clear hp
      gi_wp2
      -- MARK9
      go_end0
      refine ⟨⟨_, rfl⟩, .inl ⟨_, rfl, ?_⟩⟩
      rw [List.take_of_length_le (Nat.le_of_eq HM.out)] at hJ1
      exact hJ1
end Go.Proofs.Ytbkkmcfpjpbhaaa
