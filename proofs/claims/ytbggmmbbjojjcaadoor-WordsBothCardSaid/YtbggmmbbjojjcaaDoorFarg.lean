/- Fields that came in, opened. -/
import Derived.Test.YtbggmmbbjojjcaaDoorDoor
import Derived.Test.YtbggmmbbjojjcaaDoorLawJ
import Derived.ChangeSlices
import Derived.Deep.SlicePairs
import Derived.Deep.Slices
import Derived.OpenShut
import Derived.Carry
namespace Go.Proofs.YtbggmmbbjojjcaaDoor
open Go.ChangeShapes Go.WideShapes Go.ChangeAt Go.RowKit Go.PlainAid
open Go.Deep

theorem laidOut : laidOutB Tryd.prog = true := by kernel_rfl
theorem cFld : Tryd.prog.cellsOf 43 = 2 := by kernel_rfl
theorem cStrF : Tryd.prog.cellsOf 9 = 1 := by kernel_rfl
theorem cBoolF : Tryd.prog.cellsOf 4 = 1 := by kernel_rfl
/-- A slice of fields that came in: it may have an address though it is empty. -/
def FldsArg (W : World) (v : Value) (l : List Fld) : Prop := (∃ a c, v = .slice a 0 c ∧ l = []) ∨ FldsAt W v l

set_option maxRecDepth 100000 in
theorem open_flds {H : Type} {enc : TypeId × Value → H} {W : World} {base : Nat} {v : Value} {d : DataW H} {p : List MemPlace}
    (hval : Value.okWide Tryd.prog W .any base 32 v) (h : DataW.Trod enc Tryd.prog W 0 (fun _ => true) true 32 v d p) :
    ∃ l : List Fld, FldsArg W v l := by
  obtain ⟨fuel, hf⟩ := h
  obtain ⟨a0, n0, c0, rfl⟩ := okWide_slice Tryd.underlying32 hval
  rcases open_slice_pairs Tryd.underlying32 Tryd.underlying43 cFld rfl rfl cStrF cBoolF hf with ⟨hcs, _⟩ | ⟨a, len, cap, m, n, V0, V1, D0, D1, P0, P1, hcs, _, hl, hm, hmm, _, hcell⟩
  · simp [Value.cells] at hcs
    obtain ⟨rfl, rfl, rfl⟩ := hcs
    exact ⟨[], .inl ⟨_, _, rfl, rfl⟩⟩
  · simp [Value.cells] at hcs
    obtain ⟨rfl, rfl, rfl⟩ := hcs
    have hnm : n0 ≤ m := by rw [hmm]; simp; exact hl
    have hv : ∀ i, i < n0 → ∃ s : Fld, W.cell? (a.add (i * 2)) = some (.string (str s.1)) ∧ W.cell? (a.add (i * 2 + 1)) = some (.bool s.2) := by
      intro i hi
      obtain ⟨q0, q1, t0, t1⟩ := hcell i (by omega)
      obtain ⟨x, e0, _, _⟩ := DataW.trod_string Tryd.underlying9 t0
      obtain ⟨y, e1, _⟩ := DataW.trod_bool Tryd.underlying4 t1
      simp at e0 e1
      exact ⟨(x.data.toList, y), by rw [q0, e0, str_data], by rw [q1, e1]⟩
    obtain ⟨F, hF⟩ := choose_lt hv
    refine ⟨(List.range n0).map F, ?_⟩
    by_cases h0 : n0 = 0
    · subst h0; exact .inl ⟨_, _, rfl, rfl⟩
    · obtain ⟨b, off, spot⟩ := a
      have hspot : spot = none := by simpa [Addr.add] using World.cell?_spot (hF 0 (by omega)).1
      subst hspot
      have hlen : n0 = ((List.range n0).map F).length := by simp
      refine .inr (.inr ⟨b, off, c0, by rw [← hlen], World.block_lt_of_cell? W ⟨b, off, none⟩ (by have := (hF 0 (by omega)).1; simpa [Addr.add] using this), fun j u hj => ?_⟩)
      have hjl : j < n0 * 2 := by
        have := (List.getElem?_eq_some_iff.1 hj).1
        rw [fcs_len, ← hlen] at this; exact this
      have hs : ((List.range n0).map F)[j / 2]? = some (F (j / 2)) := by
        rw [List.getElem?_map, List.getElem?_range (by omega)]; rfl
      have hat := fcs_at _ hs
      obtain ⟨f0, f1⟩ := hF (j / 2) (by omega)
      rw [Go.WideShapes.add_plain] at f0 f1
      by_cases hpar : j % 2 = 0
      · have e : j / 2 * 2 = j := by omega
        rw [e] at hat f0
        rw [hat.1] at hj
        rw [f0, hj]
      · have e : j / 2 * 2 + 1 = j := by omega
        rw [e] at hat f1
        rw [hat.2] at hj
        rw [f1, hj]

set_option maxRecDepth 50000 in
set_option maxHeartbeats 1600000 in
theorem far_none (a : Option Addr) (c : Nat) (w : World) : Calls Tryd.prog 23 #[.slice a 0 c] w (FarV [] w) := by
  go_enter Tryd.func23, Tryd.ntmps23
  go_wp2
  go_loop [3, 4] (fun n i => n = .int .i64 0 ∧ i = .int .i64 0) (fun _ _ => 0)
  case atStart => exact ⟨rfl, rfl⟩
  case round =>
    obtain ⟨rfl, rfl⟩ := hrel
    go_wp2
    go_ret
    exact ⟨_, rfl, fun _ => Nat.zero_le _, Below.refl _ _⟩
set_option maxRecDepth 50000 in
set_option maxHeartbeats 1600000 in
theorem tooLong_none (a : Option Addr) (c : Nat) (w : World) : Calls Tryd.prog 42 #[.slice a 0 c] w fun e w' => e = .returned (.bool false) ∧ Below w.heap.size w w' := by
  go_enter Tryd.func42, Tryd.ntmps42
  go_wp2
  go_loop [10] (fun i => i = .int .i64 0) (fun _ => 0)
  case atStart => rfl
  case round =>
    subst hrel
    go_wp2
    go_ret
    exact ⟨rfl, Below.refl _ _⟩
set_option maxRecDepth 100000 in
set_option maxHeartbeats 1600000 in
theorem join_none (a : Option Addr) (c : Nat) (w : World) : Calls Tryd.prog 24 #[.slice a 0 c] w fun e w' => e = .returned (joinV []) ∧ Below w.heap.size w w' := by
  have CT := Lib.hid (tooLong_none a c w)
  go_enter Tryd.func24, Tryd.ntmps24
  go_wp2_with (go_at_call 42; refine CT.out.mono ?_; rintro e w1 ⟨rfl, hb1⟩)
  go_loop [11] (fun i => i = .int .i64 0) (fun _ => 0)
  case atStart => rfl
  case round =>
    subst hrel
    have hbd := bldN_new w1
    have hbel1 : Below w1.heap.size w1 (w1.alloc (.cells #[.pointer none, .slice none 0 0] 62)) := (Below.refl _ _).alloc (Nat.le_refl _) _
    have CLn := Lib.hid (len_ok _ _ _ _ hbd)
    have CSt := Lib.hid (str_ok _ _ _ _ hbd hbel1.size)
    clear hbd
    go_wp2_with (first | (go_at_call 47; refine CLn.out.mono ?_; rintro e w9 ⟨rfl, rfl⟩) | (go_at_call 48; refine CSt.out.mono ?_; rintro e w10 ⟨rfl, hb10⟩))
    go_returns
    exact ⟨rfl, hb1.trans ((hbel1.trans hb10).mono hb1.size)⟩
set_option maxRecDepth 50000 in
set_option maxHeartbeats 1600000 in
theorem joins_none (a : Option Addr) (c : Nat) (w : World) (T : Ties w) :
    Calls Tryd.prog 6 #[.slice a 0 c] w fun e w' => e = .returned (.bool true) ∧ Below w.heap.size w w' := by
  have CS : Hid (∀ w', Below w.heap.size w w' → Calls Tryd.prog 9 #[] w' fun e w'' => e = .returned (.bool true) ∧ Below w'.heap.size w' w'') := Lib.hid fun w' hb => shown_any w' (T w' hb) (T.below hb)
  have C0 := Lib.hid (far_none a c w)
  have C1 : Hid (∀ w', Calls Tryd.prog 24 #[.slice a 0 c] w' fun e w'' => e = .returned (.tuple #[.string ⟨#[]⟩, .int .i64 0]) ∧ Below w'.heap.size w' w'') := Lib.hid fun w' => join_none a c w'
  have C2 : Hid (∀ w', Calls Tryd.prog 25 #[.slice a 0 c] w' fun e w'' => e = .returned (.tuple #[.string ⟨#[]⟩, .int .i64 0]) ∧ Below w'.heap.size w' w'') := Lib.hid fun w' => rjoin_nil a c w'
  clear T
  go_enter Tryd.func6, Tryd.ntmps6
  go_wp2_with fail
  refine C0.out.mono ?_
  rintro e w1 ⟨b, rfl, hb70, hb1⟩
  clear hb70
  cases b with
  | true =>
    go_wp2_with (go_at_call 9; refine (CS.out _ hb1).mono ?_; rintro e w9 ⟨rfl, hb9⟩)
    go_ret
    exact ⟨rfl, hb1.trans (hb9.mono hb1.size)⟩
  | false =>
    go_wp2_with fail
    refine (C1.out _).mono ?_
    rintro e w2 ⟨rfl, hb2⟩
    have hB2 := hb1.trans (hb2.mono hb1.size)
    go_wp2_with fail
    refine (C2.out _).mono ?_
    rintro e w3 ⟨rfl, hb3⟩
    have hB3 := hB2.trans (hb3.mono hB2.size)
    go_wp2_with (go_at_call 9; refine (CS.out _ hB3).mono ?_; rintro e w9 ⟨rfl, hb9⟩)
    go_ret
    exact ⟨rfl, hB3.trans (hb9.mono hB3.size)⟩
theorem joins_arg {v : Value} {l : List Fld} {w : World} (T : Ties w) (h : FldsArg w v l) :
    Calls Tryd.prog 6 #[v] w fun e w' => e = .returned (.bool true) ∧ Below w.heap.size w w' := by
  rcases h with ⟨a, c, rfl, rfl⟩ | h
  · exact joins_none a c w T
  · exact joins_any v l w T h
end Go.Proofs.YtbggmmbbjojjcaaDoor
