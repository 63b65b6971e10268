/- Fields that came in (great seat): far, the builder's contracts, an argument of fields and one of numbers. -/
import Derived.Test.YtnajkkbcfebegaaGreatDoorJoin
import Derived.Test.YtnajkkbcfebegaaGreatDoorShelfJ
import Derived.Test.YtnajkkbcfebegaaGreatDoorIarg
import Derived.ChangeSlices
import Derived.ChangeSame
import Derived.Deep.SlicePairs
import Derived.Deep.Slices
import Derived.OpenShut
import Derived.Carry
namespace Go.Proofs.YtnajkkbcfebegaaGreatDoor
open Go.RowKit Go.PlainAid

theorem len_ok : LenOK := fun B b l w h => by
  have := Tryz.Builder_Len B b (l.map bc) w h
  rw [List.length_map] at this; exact this
theorem str_ok : StrOK := fun B b l w h hB => Tryz.Builder_String_any B b l w h hB

/-- far: if it says false, there are few fields. -/
def FarV (l : List Fld) (w : World) (e : Ending) (w' : World) : Prop := ∃ b, e = .returned (.bool b) ∧ (b = false → l.length ≤ 70) ∧ Below w.heap.size w w'
set_option maxRecDepth 50000 in
set_option maxHeartbeats 1600000 in
theorem far_any (v : Value) (l : List Fld) (w : World) (h : FldsAt w v l) : Calls Tryz.prog 12 #[v] w (FarV l w) := by
  rcases h with ⟨rfl, rfl⟩ | ⟨g, off, cap, rfl, hg, hc⟩
  · go_enter Tryz.func12, Tryz.ntmps12
    go_wp2
    go_loop [3, 4] (fun n i => n = .int .i64 0 ∧ i = .int .i64 0) (fun _ _ => 0)
    case atStart => exact ⟨rfl, rfl⟩
    case round =>
      obtain ⟨rfl, rfl⟩ := hrel
      go_wp2
      go_ret
      exact ⟨_, rfl, fun _ => Nat.zero_le _, Below.refl _ _⟩
  · have HC : Hid (∀ (wr : World) (k : Nat) (x : Fld), Below w.heap.size w wr → l[k]? = some x → wr.cell? ⟨g, off + k * 2, none⟩ = some (.string (str x.1)) ∧ wr.cell? ⟨g, off + k * 2 + 1, none⟩ = some (.bool x.2)) :=
      Lib.hid fun wr k x hb hx => ⟨(hb.cell (p := ⟨g, off + k * 2, none⟩) hg).trans (hc _ _ (fcs_at l hx).1), (hb.cell (p := ⟨g, off + k * 2 + 1, none⟩) hg).trans (hc _ _ (fcs_at l hx).2)⟩
    clear hc
    by_cases h70 : 70 < l.length
    · have hd : decide ((70 : Int) < (l.length : Int)) = true := decide_eq_true (by omega)
      go_enter Tryz.func12, Tryz.ntmps12
      go_wp2
      go_ret
      exact ⟨_, rfl, (fun e => by cases e), Below.refl _ _⟩
    · have hd : decide ((70 : Int) < (l.length : Int)) = false := decide_eq_false (by omega)
      go_enter Tryz.func12, Tryz.ntmps12
      go_wp2
      go_loopw [3, 4] (fun n i wr => ∃ k m : Nat, k ≤ l.length ∧ i = .int .i64 k ∧ n = .int .i64 m ∧ m ≤ 2100 * k ∧ Below w.heap.size w wr) (fun _ i _ => l.length - (intOf i).toNat)
      case atStart => exact ⟨0, 0, Nat.zero_le _, rfl, rfl, Nat.zero_le _, Below.refl _ _⟩
      case round =>
        obtain ⟨k, m, hk, rfl, rfl, hm, hbel⟩ := hrel
        by_cases hlt : k < l.length
        · obtain ⟨x, hxk⟩ : ∃ x, l[k]? = some x := ⟨_, List.getElem?_eq_getElem hlt⟩
          obtain ⟨c0, c1⟩ := HC.out wr k x hbel hxk
          have hkl : (k : Int) < (l.length : Int) := by omega
          have hk0 : (0 : Int) ≤ (k : Int) := Int.natCast_nonneg _
          clear hxk
          obtain ⟨z, hz⟩ : ∃ z, (str x.1).size = z := ⟨_, rfl⟩
          by_cases hbig : 2100 < z
          · have hd2 : decide ((2100 : Int) < (z : Int)) = true := decide_eq_true (by omega)
            clear hbig
            go_wp2
            go_ret
            exact ⟨_, rfl, (fun e => by cases e), hbel⟩
          · have hd2 : decide ((2100 : Int) < (z : Int)) = false := decide_eq_false (by omega)
            go_wp2
            go_roundw
            case rel => exact ⟨k + 1, m + z, by omega, by go_num, by go_num, by omega, hbel⟩
            case measure => simp [intOf]; omega
        · obtain rfl : k = l.length := by omega
          go_wp2
          go_ret
          exact ⟨_, rfl, fun _ => by omega, hbel⟩

end Go.Proofs.YtnajkkbcfebegaaGreatDoor

namespace Go.Proofs.YtnajkkbcfebegaaGreatDoor
open Go.ChangeShapes Go.WideShapes Go.ChangeAt Go.RowKit Go.PlainAid
open Go.Deep

theorem cFld : Tryz.prog.cellsOf 47 = 2 := by kernel_rfl
theorem cStrF : Tryz.prog.cellsOf 9 = 1 := by kernel_rfl
theorem cBoolF : Tryz.prog.cellsOf 4 = 1 := by kernel_rfl
/-- A slice of fields that came in: it may have an address though it is empty. -/
def FldsArg (W : World) (v : Value) (l : List Fld) : Prop := (∃ a c, v = .slice a 0 c ∧ l = []) ∨ FldsAt W v l

set_option maxRecDepth 100000 in
theorem open_flds {H : Type} {enc : TypeId × Value → H} {W : World} {base : Nat} {v : Value} {d : DataW H} {p : List MemPlace}
    (hval : Value.okWide Tryz.prog W .any base 31 v) (h : DataW.Trod enc Tryz.prog W 0 (fun _ => true) true 31 v d p) :
    ∃ l : List Fld, FldsArg W v l := by
  obtain ⟨fuel, hf⟩ := h
  obtain ⟨a0, n0, c0, rfl⟩ := okWide_slice Tryz.underlying31 hval
  rcases open_slice_pairs Tryz.underlying31 Tryz.underlying47 cFld rfl rfl cStrF cBoolF hf with ⟨hcs, _⟩ | ⟨a, len, cap, m, n, V0, V1, D0, D1, P0, P1, hcs, _, hl, hm, hmm, _, hcell⟩
  · simp [Value.cells] at hcs
    obtain ⟨rfl, rfl, rfl⟩ := hcs
    exact ⟨[], .inl ⟨_, _, rfl, rfl⟩⟩
  · simp [Value.cells] at hcs
    obtain ⟨rfl, rfl, rfl⟩ := hcs
    have hnm : n0 ≤ m := by rw [hmm]; simp; exact hl
    have hv : ∀ i, i < n0 → ∃ s : Fld, W.cell? (a.add (i * 2)) = some (.string (str s.1)) ∧ W.cell? (a.add (i * 2 + 1)) = some (.bool s.2) := by
      intro i hi
      obtain ⟨q0, q1, t0, t1⟩ := hcell i (by omega)
      obtain ⟨x, e0, _, _⟩ := DataW.trod_string Tryz.underlying9 t0
      obtain ⟨y, e1, _⟩ := DataW.trod_bool Tryz.underlying4 t1
      simp at e0 e1
      exact ⟨(x.data.toList, y), by rw [q0, e0, str_data], by rw [q1, e1]⟩
    obtain ⟨F, hF⟩ := choose_lt hv
    refine ⟨(List.range n0).map F, ?_⟩
    by_cases h0 : n0 = 0
    · subst h0; exact .inl ⟨_, _, rfl, rfl⟩
    · obtain ⟨b, off, spot⟩ := a
      have hspot : spot = none := by simpa [Addr.add] using World.cell?_spot (hF 0 (by omega)).1
      subst hspot
      have hlen : n0 = ((List.range n0).map F).length := by simp
      refine .inr (.inr ⟨b, off, c0, by rw [← hlen], World.block_lt_of_cell? W ⟨b, off, none⟩ (by have := (hF 0 (by omega)).1; simpa [Addr.add] using this), fun j u hj => ?_⟩)
      have hjl : j < n0 * 2 := by
        have := (List.getElem?_eq_some_iff.1 hj).1
        rw [fcs_len, ← hlen] at this; exact this
      have hs : ((List.range n0).map F)[j / 2]? = some (F (j / 2)) := by
        rw [List.getElem?_map, List.getElem?_range (by omega)]; rfl
      have hat := fcs_at _ hs
      obtain ⟨f0, f1⟩ := hF (j / 2) (by omega)
      rw [Go.WideShapes.add_plain] at f0 f1
      by_cases hpar : j % 2 = 0
      · have e : j / 2 * 2 = j := by omega
        rw [e] at hat f0
        rw [hat.1] at hj
        rw [f0, hj]
      · have e : j / 2 * 2 + 1 = j := by omega
        rw [e] at hat f1
        rw [hat.2] at hj
        rw [f1, hj]

set_option maxRecDepth 50000 in
set_option maxHeartbeats 1600000 in
theorem far_none (a : Option Addr) (c : Nat) (w : World) : Calls Tryz.prog 12 #[.slice a 0 c] w (FarV [] w) := by
  go_enter Tryz.func12, Tryz.ntmps12
  go_wp2
  go_loop [3, 4] (fun n i => n = .int .i64 0 ∧ i = .int .i64 0) (fun _ _ => 0)
  case atStart => exact ⟨rfl, rfl⟩
  case round =>
    obtain ⟨rfl, rfl⟩ := hrel
    go_wp2
    go_ret
    exact ⟨_, rfl, fun _ => Nat.zero_le _, Below.refl _ _⟩
set_option maxRecDepth 50000 in
set_option maxHeartbeats 1600000 in
theorem tooLong_none (a : Option Addr) (c : Nat) (w : World) : Calls Tryz.prog 34 #[.slice a 0 c] w fun e w' => e = .returned (.bool false) ∧ Below w.heap.size w w' := by
  go_enter Tryz.func34, Tryz.ntmps34
  go_wp2
  go_loop [10] (fun i => i = .int .i64 0) (fun _ => 0)
  case atStart => rfl
  case round =>
    subst hrel
    go_wp2
    go_ret
    exact ⟨rfl, Below.refl _ _⟩
set_option maxRecDepth 100000 in
set_option maxHeartbeats 1600000 in
theorem join_none (a : Option Addr) (c : Nat) (w : World) : Calls Tryz.prog 14 #[.slice a 0 c] w fun e w' => e = .returned (joinV []) ∧ Below w.heap.size w w' := by
  have CT := Lib.hid (tooLong_none a c w)
  go_enter Tryz.func14, Tryz.ntmps14
  go_wp2_with (go_at_call 34; refine CT.out.mono ?_; rintro e w1 ⟨rfl, hb1⟩)
  go_loop [11] (fun i => i = .int .i64 0) (fun _ => 0)
  case atStart => rfl
  case round =>
    subst hrel
    have hbd := bldN_new w1
    have hbel1 : Below w1.heap.size w1 (w1.alloc (.cells #[.pointer none, .slice none 0 0] 67)) := (Below.refl _ _).alloc (Nat.le_refl _) _
    have CLn := Lib.hid (len_ok _ _ _ _ hbd)
    have CSt := Lib.hid (str_ok _ _ _ _ hbd hbel1.size)
    clear hbd
    go_wp2_with (first | (go_at_call 38; refine CLn.out.mono ?_; rintro e w9 ⟨rfl, rfl⟩) | (go_at_call 39; refine CSt.out.mono ?_; rintro e w10 ⟨rfl, hb10⟩))
    go_returns
    exact ⟨rfl, hb1.trans ((hbel1.trans hb10).mono hb1.size)⟩
end Go.Proofs.YtnajkkbcfebegaaGreatDoor

namespace Go.Proofs.YtnajkkbcfebegaaGreatDoor
open Go.ChangeShapes Go.WideShapes Go.ChangeAt Go.RowKit Go.PlainAid

theorem cNums : Tryz.prog.cellsOf 33 = 2 := by kernel_rfl
theorem cIntsI : Tryz.prog.cellsOf 22 = 1 := by kernel_rfl
theorem cI64 : Tryz.prog.cellsOf 2 = 1 := by kernel_rfl
set_option maxRecDepth 100000 in
theorem open_numbers {H : Type} {enc : TypeId × Value → H} {W : World} {base : Nat} {v : Value} {d : DataW H} {p : List MemPlace}
    (hval : Value.okWide Tryz.prog W .any base 33 v) (h : DataW.Trod enc Tryz.prog W 0 (fun _ => true) true 33 v d p) :
    ∃ (v0 : Value) (zs : List Int) (N : Int), v = .agg #[v0, .int .i64 N] ∧ IntsArg W v0 zs ∧ (∀ n ∈ zs, i64r n) ∧ zs.length ≤ maxLen ∧ i64r N := by
  obtain ⟨cs, rfl, hsz⟩ := okWide_struct Tryz.underlying33 hval
  obtain ⟨fuel, hf⟩ := h
  have hf' : DataW.trod enc Tryz.prog W 0 (fun _ => true) true fuel 33 cs.toList = some (d, p) := hf
  obtain ⟨y0, y1, n, hx, hl, h0, h1⟩ := trod_struct2 Tryz.underlying33 hf'
  rw [cNums] at hl
  obtain ⟨c0, c1, hcs⟩ : ∃ c0 c1, cs.toList = [c0, c1] := by
    match hm : cs.toList, hl with
    | [c0, c1], _ => exact ⟨c0, c1, rfl⟩
  have hcs' : cs = #[c0, c1] := Array.toList_inj.1 hcs
  rw [hcs] at h0 h1
  simp only [cIntsI, cI64] at h0 h1
  obtain ⟨N, e1, _, hw1⟩ := DataW.trod_int Tryz.underlying2 h1
  simp at e1
  have hN : i64r N := bounds_i64 hw1
  have hc0 : ∃ zs : List Int, IntsArg W c0 zs ∧ (∀ n ∈ zs, i64r n) ∧ zs.length ≤ maxLen := by
    rcases open_ints Tryz.underlying22 Tryz.underlying3 (by kernel_rfl) h0 with ⟨hc, _⟩ | ⟨a, len, cap, zs, hc, _, hl, hm, hz, hx, hcell, hwz⟩
    · simp at hc
      subst hc
      exact ⟨[], .inl ⟨_, _, rfl, rfl⟩, (fun n hn => by cases hn), Nat.zero_le _⟩
    · simp at hc
      subst hc
      have hzl : zs.length = cap := by simpa using hz
      refine ⟨zs.take len, ?_, fun n hn => ?_, by rw [List.length_take]; omega⟩
      · by_cases h0 : len = 0
        · subst h0; exact .inl ⟨_, _, rfl, rfl⟩
        · obtain ⟨b, off, rfl, hc2⟩ := ints_at hcell (by omega)
          have hlen : len = (zs.take len).length := by rw [List.length_take]; omega
          refine .inr (.inr ⟨b, off, cap, by rw [← hlen], World.block_lt_of_cell? W ⟨b, off + 0, none⟩ (hc2 0 (by omega)), fun j u hj => ?_⟩)
          have hjn : j < len := by
            have := (List.getElem?_eq_some_iff.1 hj).1
            omega
          rw [List.getElem?_take, if_pos hjn, List.getElem?_eq_getElem (by omega)] at hj
          rw [hc2 j (by omega), List.getD_eq_getElem?_getD, List.getElem?_eq_getElem (by omega)]
          rw [← Option.some.inj hj]; rfl
      · exact bounds_i64 (hwz n (List.mem_of_mem_take hn))
  obtain ⟨zs, z1, z2, z3⟩ := hc0
  exact ⟨c0, zs, N, by rw [hcs', e1], z1, z2, z3, hN⟩

theorem far_arg (v : Value) (l : List Fld) (w : World) (h : FldsArg w v l) : Calls Tryz.prog 12 #[v] w (FarV l w) := by
  rcases h with ⟨a, c, rfl, rfl⟩ | h
  · exact far_none a c w
  · exact far_any v l w h
theorem FldsArg.below {w w' : World} {v : Value} {l : List Fld} (h : FldsArg w v l) (hb : Below w.heap.size w w') : FldsArg w' v l := h.imp id fun h => h.below hb (Nat.le_refl _)
theorem join_arg (v : Value) (l : List Fld) (w : World) (hesc : EscTab w) (htw : 0 < w.heap.size) (h : FldsArg w v l) (hl : l.length ≤ 1000000) :
    Calls Tryz.prog 14 #[v] w fun e w' => e = .returned (joinV l) ∧ Below w.heap.size w w' := by
  rcases h with ⟨a, c, rfl, rfl⟩ | h
  · exact join_none a c w
  · exact join_any len_ok str_ok v l w hesc htw h (by omega)
theorem same_arg (v v' : Value) (l : List Fld) (w : World) (h : FldsAt w v l) (h' : FldsArg w v' l) (hl : l.length ≤ 1000000) :
    Calls Tryz.prog 15 #[v, v'] w fun e w' => e = .returned (.bool true) ∧ Below w.heap.size w w' := by
  rcases h' with ⟨a, c, rfl, rfl⟩ | h'
  · obtain ⟨a0, c0, rfl⟩ := h.slice
    exact same_nil a0 a c0 c w
  · have := same_any v v' l l w h h' hl
    rw [decide_eq_true rfl] at this; exact this
set_option maxHeartbeats 800000 in
theorem lists_none (a a' : Option Addr) (c c' : Nat) (w : World) :
    Calls Tryz.prog 11 #[.slice a 0 c, .slice a' 0 c'] w fun e w' => e = .returned (.bool true) ∧ Below w.heap.size w w' := by
  go_enter Tryz.func11, Tryz.ntmps11
  go_wp2
  go_loop [5] (fun i => i = .int .i64 0) (fun _ => 0)
  case atStart => rfl
  case round =>
    subst hrel
    go_wp2
    go_ret
    exact ⟨rfl, Below.refl _ _⟩
theorem lists_arg (v v' : Value) (l : List Int) (w : World) (h1 : IntsAt w v l) (h2 : IntsArg w v' l) (hl : l.length ≤ 1000000) :
    Calls Tryz.prog 11 #[v, v'] w fun e w' => e = .returned (.bool true) ∧ Below w.heap.size w w' := by
  rcases h2 with ⟨a, c, rfl, rfl⟩ | h2
  · obtain ⟨a0, c0, rfl⟩ := intsAt_shape h1
    exact lists_none a0 a c0 c w
  · exact lists_any v v' l w h1 h2 hl
end Go.Proofs.YtnajkkbcfebegaaGreatDoor
