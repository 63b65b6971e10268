/- The iterator over the runes of a text: its contract. -/
import Derived.RangeFuncNested
import Derived.RangeFuncBound
import Derived.RangeFuncCalls
import Derived.RangeFuncLeaves
import Derived.Shelf.Abstract
import Derived.Shelf.RegionOpen
import Derived.WalkKit
import Derived.WalkMore
import Derived.BigGuardPart
import Derived.OwnWalkIn
import Derived.TacticsInMore
import Derived.LoopNIn
import Derived.LoopIn
import Derived.BigGuardPartIn
import Derived.Test.YtkngkajojcmmlaaDoorRange
namespace Go.Proofs.YtkngkajojcmmlaaDoor
open Go.RowKit Go.Shelf Go.PlainAid

attribute [local go_sem] Oper.semAt_some

/-- What the iterator yields: where a rune begins, and the rune. -/
def eachF : Nat → List Int → List (Nat × Int)
  | _, [] => []
  | k, r :: rs => (k, r) :: eachF (k + wO r) rs
def eachS (l : List UInt8) : List (Nat × Int) := eachF 0 (runs l).1
def encE (x : Nat × Int) : Array Value := #[.int .i64 (x.1 : Int), .int .i32 x.2]
theorem eachF_app : ∀ (a b : List Int) (k : Nat), eachF k (a ++ b) = eachF k a ++ eachF (k + wid a) b := by
  intro a
  induction a with
  | nil => intro b k; rfl
  | cons r a ih => intro b k; rw [List.cons_append, eachF, eachF, ih, wid_cons, List.cons_append, Nat.add_assoc]
theorem eachF_fst : ∀ (rs : List Int) (k : Nat), (eachF k rs).map (·.1) = begs k rs
  | [], _ => rfl
  | r :: rs, k => by rw [eachF, begs, List.map_cons, eachF_fst rs]
theorem eachF_snd : ∀ (rs : List Int) (k : Nat), (eachF k rs).map (·.2) = rs
  | [], _ => rfl
  | r :: rs, k => by rw [eachF, List.map_cons, eachF_snd rs]
theorem eachF_len (rs : List Int) (k : Nat) : (eachF k rs).length = rs.length := by rw [← List.length_map (f := (·.2)), eachF_snd]
theorem At.pre {L : List UInt8} {pre : List Int} {k n : Nat} {r : Int} (h : At L pre k) (hd : dec (L.drop k) = (r, n, 0)) :
    eachF 0 (pre ++ [r]) = eachF 0 pre ++ [(k, r)] ∧ eachF 0 (pre ++ [r]) <+: eachS L ∧ (eachF 0 pre).length < (eachS L).length := by
  have e : eachF 0 (pre ++ [r]) = eachF 0 pre ++ [(k, r)] := by rw [eachF_app, h.1, Nat.zero_add]; rfl
  have h2 := (h.ok hd).2.1
  have p : eachF 0 (pre ++ [r]) <+: eachS L := by unfold eachS; rw [h2]; exact ⟨_, (eachF_app _ _ _).symm⟩
  refine ⟨e, p, ?_⟩
  have := p.length_le
  rw [e, List.length_append] at this
  simp at this; omega

set_option maxHeartbeats 400000 in
theorem each_any (a : Option Addr) (n cap : Nat) (w : World) :
    Calls Tryd.prog 79 #[.slice a n cap] w fun e w' => e = .returned (.func (.func 101) #[] #[.pointer (some ⟨w.heap.size, 0, none⟩)]) ∧ w' = w.alloc (.cells #[.slice a n cap] 68) := by
  have hmf : ∀ (fn : Fn) (first cap : Array Value) (w : World), (Instr.makeFunc fn first cap).run Tryd.prog w = .ok (.func fn first cap) w := fun _ _ _ _ => rfl
  go_enter Tryd.func79, Tryd.ntmps79
  go_wp2
  go_ret
  exact ⟨rfl, rfl⟩
theorem grown_none {W W1 : World} (h : Below W.heap.size W W1) : W.grownBy W1 none :=
  ⟨h.os, h.tape, h.output, h.size, fun j hj _ => h.block j hj⟩

set_option maxRecDepth 100000 in
set_option maxHeartbeats 4000000 in
/-- The iterator's contract. -/
theorem each_seq (n Bs : Nat) (P₀ : Nat → Prop) (v : Value) (L : List UInt8) (w : World) (hn : 1 ≤ n) (hL : L.length ≤ 1000000000) (hn₀ : ∀ k, P₀ k → k < w.heap.size) (hg : 1 < w.heap.size)
    (hv : ∀ W1 : World, w.heap.size ≤ W1.heap.size → (∀ k, P₀ k → W1.heap[k]? = w.heap[k]?) → W1.cell? ⟨Bs, 0, none⟩ = some v ∧ BytesAt W1 v L ∧ MarksTab W1) :
    SeqB n Tryd.prog 101 #[.pointer (some ⟨Bs, 0, none⟩)] encE P₀ 0 (fun ys => ys = eachS L) (fun pre => pre <+: eachS L) (eachS L).length w := by
  intro l J Jx W hW hJ hJx hY h0
  have hV : Hid (∀ W1 : World, W.heap.size ≤ W1.heap.size → (∀ k, P₀ k → W1.heap[k]? = W.heap[k]?) → W1.cell? ⟨Bs, 0, none⟩ = some v ∧ BytesAt W1 v L ∧ MarksTab W1) := Lib.hid fun W1 h1 h2 =>
    hv W1 (Nat.le_trans hW.size h1) (fun k hk => (h2 k hk).trans (hW.block k (hn₀ k hk)))
  obtain ⟨a, cap, hva⟩ := (hV.out W (Nat.le_refl _) (fun _ _ => rfl)).2.1.slice
  rw [List.length_map] at hva
  obtain ⟨m, hm⟩ : ∃ m, m = L.length := ⟨_, rfl⟩
  rw [← hm] at hva
  have hnW : ∀ k, P₀ k → k < W.heap.size := fun k hk => Nat.lt_of_lt_of_le (hn₀ k hk) hW.size
  have hgW : 1 < W.heap.size := Nat.lt_of_lt_of_le hg hW.size
  have hdone : Hid (∀ W2, J (eachS L) W2 → ∀ v : Value, (fun (e : Ending) (W' : World) => (∃ v, e = .returned v) ∧ ((∃ xs, (xs = eachS L) ∧ J xs W') ∨ (∃ pre, (pre <+: eachS L) ∧ Jx pre W'))) (.returned v) W2) := Lib.hid
    fun W2 h v => ⟨⟨_, rfl⟩, .inl ⟨_, rfl, h⟩⟩
  have hstop : Hid (∀ pre W2, pre <+: eachS L → Jx pre W2 → ∀ v : Value, (fun (e : Ending) (W' : World) => (∃ v, e = .returned v) ∧ ((∃ xs, (xs = eachS L) ∧ J xs W') ∨ (∃ pre, (pre <+: eachS L) ∧ Jx pre W'))) (.returned v) W2) := Lib.hid
    fun pre W2 hp h v => ⟨⟨_, rfl⟩, .inr ⟨_, hp, h⟩⟩
  refine callsIn_of_wp Tryd.func101 rfl trivial ?_ rfl
  generalize hR : (fun (e : Ending) (W' : World) => (∃ v, e = .returned v) ∧ ((∃ xs, (xs = eachS L) ∧ J xs W') ∨ (∃ pre, (pre <+: eachS L) ∧ Jx pre W'))) = R at hdone hstop ⊢
  clear hR
  have HY := Lib.hid hY
  have HJ := Lib.hid hJ
  have HM : Hid (m = L.length) := Lib.hid hm
  have hmb : m ≤ 1000000000 := by omega
  have HN := Lib.hid hnW
  have CD : Hid (∀ (k : Nat) (W1 : World), W.heap.size ≤ W1.heap.size → (∀ k, P₀ k → W1.heap[k]? = W.heap[k]?) → Calls Tryd.prog 100 #[v, .int .i64 (k : Int)] W1 fun e w'' => e = .returned (decV (dec (L.drop k))) ∧ Below W1.heap.size W1 w'') := Lib.hid fun k W1 h1 h2 => by
    obtain ⟨_, h4, h5⟩ := hV.out W1 h1 h2
    have := decode_any v L (k : Int) W1 h4 hL h5
    rw [decAt_in] at this; exact this
  subst hva
  clear hv hn₀ hY hJ hJx hm hnW
  simp only [Tryd.ntmps101, List.size_toArray, List.length_cons, List.length_nil, Nat.reduceAdd, Nat.reduceSub, Array.replicate_succ, Array.replicate_zero, List.push_toArray, List.append_toArray, List.nil_append, List.cons_append]
  gi_wp2
  gi_loopw [3] (fun x W1 => ∃ (k : Nat) (pre : List Int), x = .int .i64 k ∧ k ≤ m ∧ Hid (At L pre k) ∧ Hid (J (eachF 0 pre) W1) ∧ W.heap.size ≤ W1.heap.size ∧ Hid (∀ k, P₀ k → W1.heap[k]? = W.heap[k]?)) (fun x _ => m - (intOf x).toNat)
  case atStart => exact ⟨0, [], rfl, Nat.zero_le _, Lib.hid (At.start L), Lib.hid h0, Nat.le_refl _, Lib.hid fun _ _ => rfl⟩
  case round =>
    obtain ⟨k, pre, rfl, hk, HA, HJ1, hs1, HK⟩ := hrel
    have hc := (hV.out wr hs1 HK.out).1
    by_cases hlt : k < m
    · have C := CD.out k wr hs1 HK.out
      obtain ⟨r, d, e, hd⟩ : ∃ r d e, dec (L.drop k) = (r, d, e) := ⟨_, _, _, rfl⟩
      rw [hd] at C
      have hbd := dec_bd (L.drop k)
      rw [hd, List.length_drop, ← HM.out] at hbd
      obtain ⟨m1, m2, m3, m4⟩ := hbd
      simp only at m1 m2 m3 m4
      by_cases he : e = 0
      · subst he
        obtain ⟨p1, p2, p3⟩ := HA.out.pre hd
        have HA' : Hid (At L (pre ++ [r]) (k + d)) := Lib.hid (HA.out.ok hd)
        have hd1 : 1 ≤ d := by obtain ⟨q1, q2, _⟩ := dec_ok hd; rw [q2]; exact wO_pos q1
        have P1 := Lib.hid p1
        have P2 := Lib.hid p2
        have P3 := Lib.hid p3
        clear hd p1 p2 p3
        have C := Lib.hid C
        gi_wp2
        refine ⟨trivial, (callsIn_wide.2 C.out).mono ?_⟩
        rintro e w1 ⟨rfl, hb1⟩
        unfold decV
        simp only
        have HJ2 : Hid (J (eachF 0 pre) w1) := Lib.hid (HJ.out _ _ _ none HJ1.out (grown_none hb1) (fun r e => by cases e))
        have hs2 : W.heap.size ≤ w1.heap.size := Nat.le_trans hs1 hb1.size
        have HK2 : Hid (∀ k, P₀ k → w1.heap[k]? = W.heap[k]?) := Lib.hid fun j hj => (hb1.block j (Nat.lt_of_lt_of_le (HN.out j hj) hs1)).trans (HK.out j hj)
        obtain ⟨fn, tmps, assign, body, hy, hR⟩ := HY.out (eachF 0 pre) (k, r) w1 HJ2.out hs2 P3.out
        have hy' : (Instr.yield l #[.int .i64 (k : Int), .int .i32 r]).run Tryd.prog w1 = .ok (.round l fn tmps assign body) w1 := hy
        have HR := Lib.hid hR
        clear hy hR
        gi_wp2
        refine HR.out.mono ?_
        rintro e W3 (⟨rfl, hJ3, hk3⟩ | ⟨rfl, hJx3⟩)
        · rw [← P1.out] at hJ3
          have HJ3 := Lib.hid hJ3
          have HK3 : Hid (∀ k, P₀ k → W3.heap[k]? = W.heap[k]?) := Lib.hid fun j hj => (hk3.2 j (.inl hj)).trans (HK2.out j hj)
          have hs3 : W.heap.size ≤ W3.heap.size := Nat.le_trans hs2 hk3.1
          clear hJ3 hk3
          gi_wp2
          go_roundw
          case rel => exact ⟨k + d, pre ++ [r], by go_num, by omega, HA', HJ3, hs3, HK3⟩
          case measure => simp [intOf]; omega
        · have HJ3 := Lib.hid (hstop.out _ _ (by rw [← P1.out]; exact P2.out) hJx3)
          clear hJx3
          gi_wp2
          refine bodyPost_ret (results_none rfl _ _ _) rfl ?_
          exact HJ3.out _
      · have HE : Hid (runs L = (pre, e)) := Lib.hid (HA.out.err (by rw [← HM.out]; exact hlt) he (by rw [hd])).1
        have h6 : e = 6 ∨ e = 320 := by
          have hlk : k < L.length := by rw [← HM.out]; exact hlt
          have := dec_err L[k] (L.drop (k + 1))
          rw [← drop_cons hlk, hd] at this
          rcases this with h | h | h
          · exact absurd h he
          · exact .inl h
          · exact .inr h
        clear hd he
        rcases h6 with rfl | rfl
        all_goals
          have C := Lib.hid C
          gi_wp2
          refine ⟨trivial, (callsIn_wide.2 C.out).mono ?_⟩
          rintro e w1 ⟨rfl, hb1⟩
          unfold decV
          simp only
          have HJ2 : Hid (J (eachS L) w1) := Lib.hid (by
            have := HJ.out _ _ _ none HJ1.out (grown_none hb1) (fun r e => by cases e)
            unfold eachS; rw [HE.out]; exact this)
          gi_wp2
          refine ⟨(fun _ h => by cases h), ?_⟩
          gi_wp2
          refine bodyPost_ret (results_none rfl _ _ _) rfl ?_
          exact hdone.out _ HJ2.out _
    · have HE : Hid (runs L = (pre, 0)) := Lib.hid (HA.out.stop (by rw [← HM.out]; omega)).1
      have HJ2 : Hid (J (eachS L) wr) := Lib.hid (by unfold eachS; rw [HE.out]; exact HJ1.out)
      gi_wp2
      refine bodyPost_ret (results_none rfl _ _ _) rfl ?_
      exact hdone.out _ HJ2.out _
end Go.Proofs.YtkngkajojcmmlaaDoor
