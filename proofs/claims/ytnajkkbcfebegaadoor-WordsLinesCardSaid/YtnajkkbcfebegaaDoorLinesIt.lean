/- strings.Lines and its iterator: what it yields, of a text that ends with a line feed. -/
import Derived.RangeFuncNested
import Derived.RangeFuncBound
import Derived.RangeFuncCalls
import Derived.RangeFuncLeaves
import Derived.Shelf.Abstract
import Derived.Shelf.RegionOpen
import Derived.WalkKit
import Derived.WalkMore
import Derived.BigGuardPart
import Derived.OwnWalkIn
import Derived.TacticsInMore
import Derived.LoopNIn
import Derived.LoopIn
import Derived.BigGuardPartIn
import Derived.Test.YtnajkkbcfebegaaDoorRangeO
import Derived.Test.YtnajkkbcfebegaaDoorLnM
namespace Go.Proofs.YtnajkkbcfebegaaDoor
open Go.RowKit Go.Shelf Go.PlainAid

attribute [local go_sem] Oper.semAt_some

theorem idx_mem : ∀ {l : List UInt8}, (10 : UInt8) ∈ l → ∃ a t, l = a ++ 10 :: t ∧ (10 : UInt8) ∉ a ∧ Lib.indexByte l 10 = (a.length : Int) := by
  intro l
  induction l with
  | nil => intro h; cases h
  | cons c l ih =>
    intro h
    by_cases hc : c = 10
    · subst hc
      exact ⟨[], l, rfl, by simp, by simp [Lib.indexByte]⟩
    · obtain ⟨a, t, h1, h2, h3⟩ := ih (by
        rcases List.mem_cons.1 h with e | e
        · exact absurd e.symm hc
        · exact e)
      refine ⟨c :: a, t, by rw [h1]; rfl, fun e => ?_, ?_⟩
      · rcases List.mem_cons.1 e with e | e
        · exact hc e.symm
        · exact h2 e
      · unfold Lib.indexByte
        rw [if_neg (by simpa using hc), h3, if_neg (by first | (simp; done) | (simp; omega))]
        rfl
theorem idx_first {l : List UInt8} (h : l ≠ []) (he : endsLn l = true) : ∃ a t, l = a ++ 10 :: t ∧ (10 : UInt8) ∉ a ∧ Lib.indexByte l 10 = (a.length : Int) := by
  apply idx_mem
  unfold endsLn at he
  rw [Bool.or_eq_true] at he
  rcases he with he | he
  · exact absurd (List.isEmpty_iff.1 he) h
  · have := beq_iff_eq.1 he
    exact List.mem_of_getLast? this

set_option maxHeartbeats 400000 in
theorem slines_any (s : ByteArray) (w : World) :
    Calls Tryd.prog 67 #[.string s] w fun e w' => e = .returned (.func (.func 87) #[] #[.pointer (some ⟨w.heap.size, 0, none⟩)]) ∧ w' = w.alloc (.cells #[.string s] 9) := by
  have hmf : ∀ (fn : Fn) (first cap : Array Value) (w : World), (Instr.makeFunc fn first cap).run Tryd.prog w = .ok (.func fn first cap) w := fun _ _ _ _ => rfl
  go_enter Tryd.func67, Tryd.ntmps67
  go_wp2
  go_ret
  exact ⟨rfl, rfl⟩

/-- How much of the text is left. -/
def leftIn (Bs : Nat) (w : World) : Nat := match w.cell? ⟨Bs, 0, none⟩ with | some (.string s) => s.size | _ => 0
theorem leftIn_eq {Bs : Nat} {w : World} {s : ByteArray} (h : w.cell? ⟨Bs, 0, none⟩ = some (.string s)) : leftIn Bs w = s.size := by unfold leftIn; rw [h]

theorem cut_str (a t : List UInt8) : (str (a ++ 10 :: t)).extract 0 (a.length + 1) = str (a ++ [10]) ∧ (str (a ++ 10 :: t)).extract (a.length + 1) (str (a ++ 10 :: t)).size = str t := by
  constructor
  · rw [← str_data ((str (a ++ 10 :: t)).extract 0 (a.length + 1)), Lib.extract_data]
    congr 1
    rw [str_list, List.drop_zero, Nat.sub_zero, show a ++ 10 :: t = (a ++ [10]) ++ t by simp, List.take_left' (by simp)]
  · rw [← str_data ((str (a ++ 10 :: t)).extract (a.length + 1) _), Lib.extract_data, str_size, str_list]
    congr 1
    rw [show a ++ 10 :: t = (a ++ [10]) ++ t by simp, List.drop_left' (by simp), List.take_of_length_le (by simp; omega)]

set_option maxRecDepth 100000 in
set_option maxHeartbeats 4000000 in
/-- The iterator's contract. -/
theorem lines_seq (Bs : Nat) (P₀ : Nat → Prop) (s : ByteArray) (n : Nat) (hn : 1 ≤ n) (hs : s.size ≤ 1000000000) (he : endsLn s.data.toList = true) (w : World) (hB0 : P₀ Bs) (hn₀ : ∀ k, P₀ k → k < w.heap.size)
    (hc : w.heap[Bs]? = some (.cells #[.string s] 9 (0, 0))) :
    SeqO n Tryd.prog 87 #[.pointer (some ⟨Bs, 0, none⟩)] (fun x : List UInt8 => #[.string (str (x ++ [10]))]) P₀ (fun k => k = Bs) (fun ys => ys = lnF [] s.data.toList) (fun pre => pre <+: lnF [] s.data.toList) (fun pre x => pre ++ [x] <+: lnF [] s.data.toList) w := by
  intro l J Jx W hW hJ hJx hY h0
  obtain ⟨L, hL⟩ : ∃ L, s.data.toList = L := ⟨_, rfl⟩
  have hsL : s = str L := by rw [← hL, str_data]
  rw [hL] at he hY ⊢
  have hcW : W.heap[Bs]? = some (.cells #[.string (str L)] 9 (0, 0)) := by rw [← hsL]; exact (hW.block Bs (hn₀ _ hB0)).trans hc
  have hLs : L.length ≤ 1000000000 := by rw [← hL, len_list]; exact hs
  have HW : Hid (W.heap.size ≤ W.heap.size) := Lib.hid (Nat.le_refl _)
  refine callsIn_of_wp Tryd.func87 rfl trivial ?_ rfl
  simp only [Tryd.ntmps87, List.size_toArray, List.length_cons, List.length_nil, Nat.reduceAdd, Nat.reduceSub, Array.replicate_succ, Array.replicate_zero, List.push_toArray, List.append_toArray, List.nil_append, List.cons_append]
  gi_wp2
  -- MARK1
  gi_loopw [3] (fun _ wr => ∃ (pre : List (List UInt8)) (rest : List UInt8), wr.heap[Bs]? = some (.cells #[.string (str rest)] 9 (0, 0)) ∧ J pre wr ∧ W.heap.size ≤ wr.heap.size ∧ Hid (lnF [] L = pre ++ lnF [] rest) ∧ Hid (endsLn rest = true) ∧ rest.length ≤ 1000000000)
    (fun _ wr => leftIn Bs wr)
  case atStart => exact ⟨[], L, hcW, h0, Nat.le_refl _, Lib.hid rfl, Lib.hid he, hLs⟩
  case round =>
    obtain ⟨pre, rest, hb, hJ1, hz, HL, HE, hr⟩ := hrel
    have hcell : wr.cell? ⟨Bs, 0, none⟩ = some (.string (str rest)) := by simp [World.cell?, hb]
    have hfr : wr.frozen? ⟨Bs, 0, none⟩ = false := by simp [World.frozen?, hb]
    have hsz := str_size rest
    have hlt : Bs < wr.heap.size := (Array.getElem?_eq_some_iff.1 hb).1
    cases rest with
    | nil =>
      have h0' : (str ([] : List UInt8)).size = 0 := rfl
      gi_wp2
      -- MARK2
      go_end0
      exact ⟨⟨_, rfl⟩, .inl ⟨pre, by rw [HL.out]; simp [lnF], hJ1⟩⟩
    | cons c rest' =>
      obtain ⟨a, t, hat, hno, hix⟩ := idx_first (l := c :: rest') (by simp) HE.out
      rw [hat] at hb hcell HL HE hr hsz hix
      clear hat
      rw [lnF_first a [] t hno, List.nil_append] at HL
      have hcut := cut_str a t
      have hlen : (a ++ 10 :: t).length = a.length + (t.length + 1) := by simp
      rw [hlen] at hsz hr
      obtain ⟨S, hS⟩ : ∃ S, str (a ++ 10 :: t) = S := ⟨_, rfl⟩
      rw [hS] at hb hcell hsz hcut
      have C : Hid (∀ W', Calls Tryd.prog 81 #[.string S, .int .u8 10] W' fun e w' => e = .returned (.int .i64 (a.length : Int)) ∧ w' = W') := Lib.hid fun W' => by
        have h := Tryd.strings_IndexByte S 10 W'
        rw [show (10 : Int).toNat.toUInt8 = 10 from rfl, ← hS, str_list, hix] at h
        rw [← hS]; exact h
      obtain ⟨n0, hn0⟩ : ∃ n0, a.length = n0 := ⟨_, rfl⟩
      rw [hn0] at C hcut hsz hr
      have hpos : (0 : Int) < (S.size : Int) := by omega
      have hx1 : (0 : Int) ≤ (n0 : Int) + 1 := by omega
      have hx2 : (n0 : Int) + 1 ≤ (S.size : Int) := by omega
      have hcut2 : S.extract (n0 + 1) (n0 + (t.length + 1)) = str t := by rw [← hsz]; exact hcut.2
      obtain ⟨W5, hW5⟩ : ∃ W5, W5 = (wr.setCell ⟨Bs, 0, none⟩ (.string (str t))).drew := ⟨_, rfl⟩
      have hgr : wr.grownBy W5 (some Bs) := by
        have h := grown_set wr Bs 0 (.string (str t))
        rw [hW5]; exact ⟨h.os, h.tape, h.output, h.size, h.block⟩
      have hb5 : W5.heap[Bs]? = some (.cells #[.string (str t)] 9 (0, 0)) := by
        rw [hW5]; exact set_block _ hb
      obtain ⟨fn, tmps, assign, body, hy, hR⟩ := hY pre a W5 (hJ pre wr _ (some Bs) hJ1 hgr (fun r e => by cases e; rfl)) (Nat.le_trans hz hgr.size) ⟨lnF [] t, by rw [HL.out, List.append_assoc]; rfl⟩
      have hlen5 := Nat.le_trans hz hgr.size
      clear hb hJ1 hlen
      have hge : decide ((0 : Int) ≤ (n0 : Int)) = true := decide_eq_true (by omega)
      -- MARK3
      gi_wp2
      refine ⟨trivial, (callsIn_wide.2 (C.out _)).mono ?_⟩
      rintro e w1 ⟨rfl, rfl⟩
      gi_wp2
      gi_region
      rw [← hW5]
      clear hW5
      gi_wp2
      -- MARK4
      refine hR.mono ?_
      rintro e W3 (⟨rfl, hJ3, hk3⟩ | ⟨rfl, hJx3⟩)
      · have hb3 := (hk3.2 Bs hB0).trans hb5
        have hc3 : W3.cell? ⟨Bs, 0, none⟩ = some (.string (str t)) := by simp [World.cell?, hb3]
        have hc0 : leftIn Bs w1 = S.size := leftIn_eq hcell
        gi_wp2
        -- MARK5
        go_roundw
        case rel => exact ⟨pre ++ [a], t, hb3, hJ3, Nat.le_trans hlen5 hk3.1, Lib.hid (by rw [HL.out, List.append_assoc]; rfl), Lib.hid (endsLn_cut HE.out), by omega⟩
        case measure => rw [hc0, leftIn_eq hc3, str_size]; omega
      · gi_wp2
        -- MARK6
        refine bodyPost_ret (results_none rfl _ _ _) rfl ?_
        exact ⟨⟨_, rfl⟩, .inr ⟨pre ++ [a], ⟨lnF [] t, by rw [HL.out, List.append_assoc]; rfl⟩, hJx3⟩⟩
end Go.Proofs.YtnajkkbcfebegaaDoor
