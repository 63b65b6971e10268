/- Layer 3: bytes.LastIndexByte and bytes.Count of one byte. -/
import Derived.Test.YtbajikkjkiacnaaDoorPlines
import Derived.Shelf.Bytes.SlCountOne
namespace Go.Proofs.YtbajikkjkiacnaaDoor
open Go.RowKit Go.PlainAid

/-- The last place below k of a byte. -/
def lbS (c : Int) (l : List UInt8) : Nat → Int
  | 0 => -1
  | k + 1 => if (match l[k]? with | some b => decide (ub b = c) | none => false) = true then (k : Int) else lbS c l k
def cnB (c : Int) (l : List UInt8) : Nat := l.countP fun b => decide (ub b = c)

set_option maxHeartbeats 1600000 in
theorem lbg_any (v : Value) (l : List UInt8) (c : Int) (w : World) (h : BytesAt w v l) (hl : l.length ≤ 1000000) :
    Calls Tryd.prog 63 #[v, .int .u8 c] w fun e w' => e = .returned (.int .i64 (lbS c l l.length)) ∧ Below w.heap.size w w' := by
  obtain ⟨a, cap, hv⟩ := h.slice
  rw [List.length_map] at hv
  obtain ⟨n, hn⟩ : ∃ n, n = l.length := ⟨_, rfl⟩
  rw [← hn] at hv ⊢
  subst hv
  have H := Lib.hid h
  have HN := Lib.hid hn
  have hnb : n ≤ 1000000 := by omega
  clear h hn hl
  go_enter Tryd.func63, Tryd.ntmps63
  go_wp2
  go_loop [5] (fun x5 => ∃ k : Nat, k ≤ n ∧ x5 = .int .i64 ((k : Int) - 1) ∧ Hid (lbS c l k = lbS c l n)) (fun x5 => (intOf x5 + 1).toNat)
  case atStart => exact ⟨n, Nat.le_refl _, rfl, Lib.hid rfl⟩
  case round =>
    obtain ⟨k, hk, rfl, HG⟩ := hrel
    cases k with
    | zero =>
      have HE : Hid (lbS c l n = -1) := Lib.hid HG.out.symm
      go_wp2
      go_ret
      exact ⟨ret_int HE.out.symm, Below.refl _ _⟩
    | succ k =>
      obtain ⟨b, hb⟩ : ∃ b, l[k]? = some b := ⟨_, List.getElem?_eq_getElem (by rw [← HN.out]; omega)⟩
      rcases H.out with ⟨_, _, _, hnil⟩ | ⟨g, off, nn, cc, he, hnn, _, hcell⟩
      · rw [List.map_eq_nil_iff] at hnil; rw [hnil] at hb; simp at hb
      · have c0 : w.cell? ⟨g, off + k, none⟩ = some (.int .u8 (ub b)) := hcell _ _ (bc_at hb)
        obtain ⟨rfl, hs2, hs3⟩ := Value.slice.inj he
        have hG := HG.out
        rw [lbS, hb] at hG
        simp only [decide_eq_true_eq] at hG
        clear hcell he hnn hs2 hs3 hb
        by_cases hbc : ub b = c
        · rw [if_pos hbc] at hG
          have HE := Lib.hid hG
          have hbe : ((ub b : Int) == c) = true := by rw [beq_iff_eq]; exact hbc
          clear hG hbc
          go_wp2
          go_ret
          exact ⟨ret_int HE.out, Below.refl _ _⟩
        · rw [if_neg hbc] at hG
          have HE := Lib.hid hG
          have hbe : ((ub b : Int) == c) = false := by rw [beq_eq_false_iff_ne]; exact hbc
          clear hG hbc
          go_wp2
          go_round
          case rel => exact ⟨k, by omega, int_v (by go_num), HE⟩
          case measure => simp [intOf]

theorem lbb_any (v : Value) (l : List UInt8) (c : Int) (w : World) (h : BytesAt w v l) (hl : l.length ≤ 1000000) :
    Calls Tryd.prog 53 #[v, .int .u8 c] w fun e w' => e = .returned (.int .i64 (lbS c l l.length)) ∧ Below w.heap.size w w' := by
  have C := Lib.hid (lbg_any v l c w h hl)
  clear h
  go_enter Tryd.func53, Tryd.ntmps53
  go_wp2_with (go_at_call 63; refine C.out.mono ?_; rintro e w1 ⟨rfl, hb1⟩)
  go_ret
  exact ⟨rfl, hb1⟩

theorem count_run (v : Value) (l : List UInt8) (w : World) (h : BytesAt w v l) : (Extern.BytealgCount.count #[v, .int .u8 10]).run Tryd.prog w = .ok (.int .i64 ((l.count 10 : Nat) : Int)) w := by
  have e : Lib.bytesOf (l.map fun b => (b.toNat : Int)) = l := by
    unfold Lib.bytesOf
    rw [List.map_map]
    conv => rhs; rw [← List.map_id l]
    refine List.map_congr_left fun b _ => ?_
    simp
  rcases h with ⟨a, cap, rfl, hnil⟩ | ⟨g, off, n, cap, rfl, hn, hg, hc⟩
  · obtain rfl : l = [] := List.map_eq_nil_iff.1 hnil
    cases a with
    | none => exact Lib.run_countNil w 0 cap 10
    | some a => exact Lib.run_countAt w a 0 cap [] rfl (fun i h => by omega) 10
  · rw [List.length_map] at hn
    rw [Lib.run_countSlice w g off n cap (l.map fun b => (b.toNat : Int)) (by rw [List.length_map, hn]) (fun i hi => by
      have hil : i < l.length := by omega
      rw [hc i (bc (l[i]'hil)) (by rw [List.getElem?_map, List.getElem?_eq_getElem hil]; rfl)]
      simp [bc, List.getD, hil]) 10, e]
    rfl

set_option maxHeartbeats 1600000 in
theorem cnt_any (v v2 : Value) (l : List UInt8) (w : World) (h : BytesAt w v l) (h2 : BytesAt w v2 [10]) :
    Calls Tryd.prog 55 #[v, v2] w fun e w' => e = .returned (.int .i64 ((l.count 10 : Nat) : Int)) ∧ Below w.heap.size w w' := by
  have HR := Lib.hid (count_run v l w h)
  obtain ⟨a, cap, hv⟩ := h.slice
  rw [List.length_map] at hv
  obtain ⟨n, hn⟩ : ∃ n, n = l.length := ⟨_, rfl⟩
  rw [← hn] at hv
  subst hv
  clear h hn
  rcases h2 with ⟨_, _, _, hnil⟩ | ⟨g, off, m, cc, rfl, hm, hg, hc⟩
  · cases hnil
  · have hc0 : w.cell? ⟨g, off, none⟩ = some (.int .u8 10) := hc 0 _ rfl
    obtain rfl : m = 1 := hm
    clear hc
    go_enter Tryd.func55, Tryd.ntmps55
    go_wp2
    rw [run_callFunc_extern Tryd.func66 (by kernel_rfl) (by kernel_rfl) (by kernel_rfl) (e := Extern.BytealgCount.count) (by kernel_rfl), HR.out]
    simp only [Result.andThen]
    rw [Oper.upon_value]
    go_wp2
    go_ret
    exact ⟨rfl, Below.refl _ _⟩
end Go.Proofs.YtbajikkjkiacnaaDoor
