/- The writing methods of strings.Builder at this seat. -/
import Derived.Test.YtnajkkbcfebegaaGreatDoorInvM
import Derived.Shelf.Strings.Builder1
import Derived.Lib.OthersKept
import Derived.Lib.OwnKind
import Derived.BigGuardPart
import Derived.Handy
namespace Go.Proofs.YtnajkkbcfebegaaGreatDoor
open Go.RowKit

theorem bldSize : ((Tryz.prog).info? 67).map (·.size) = some 2 := by kernel_rfl
theorem bldLies : liesAt Tryz.prog (Tryz.prog).depth 67 (2 / (Tryz.prog).cellsOf 67) 0 67 1 = true := by kernel_rfl

set_option maxRecDepth 100000 in
theorem cc_used (b : Nat) (w : World) (h0 : w.cell? ⟨b, 0, none⟩ = some (.pointer (some ⟨b, 0, none⟩))) :
    Calls Tryz.prog 55 #[.pointer (some ⟨b, 0, none⟩)] w fun e w' => e = .returned (.tuple #[]) ∧ w' = w := by
  obtain ⟨j, hj, _⟩ := Option.map_eq_some_iff.1 bldSize
  go_enter Tryz.func55, Tryz.ntmps55
  go_wp2
  rw [Lib.run_neq_ptr_same w _ Tryz.underlying64 hj]
  go_wp2
  go_end0
  exact ⟨rfl, rfl⟩
set_option maxRecDepth 100000 in
theorem cc_fresh (b : Nat) (w : World) (h0 : w.cell? ⟨b, 0, none⟩ = some (.pointer none)) (hsh : w.shape? b = some (67, 2)) (hfz : w.frozen? ⟨b, 0, none⟩ = false) :
    Calls Tryz.prog 55 #[.pointer (some ⟨b, 0, none⟩)] w fun e w' => e = .returned (.tuple #[]) ∧ w' = w.setCell ⟨b, 0, none⟩ (.pointer (some ⟨b, 0, none⟩)) := by
  obtain ⟨j, hj, hjs⟩ := Option.map_eq_some_iff.1 bldSize
  go_enter Tryz.func55, Tryz.ntmps55
  go_wp2
  -- MARK1
  rw [Lib.run_to_unsafe w ⟨b, 0, none⟩ Tryz.underlying64 Tryz.underlying103 hj (by rw [hjs]; decide) hsh (Nat.zero_lt_succ 1)]
  simp only [Result.andThen]
  rw [Oper.upon_value]
  go_wp2
  -- MARK2
  rw [run_callFunc_extern Tryz.func68 (by kernel_rfl) (by kernel_rfl) (by kernel_rfl) (e := Extern.AbiNoEscape.same) (by kernel_rfl)]
  rw [Lib.run_noEscape]
  simp only [Result.andThen]
  rw [Oper.upon_value]
  go_wp2
  rw [Lib.run_from_unsafe w ⟨b, 0, none⟩ Tryz.underlying103 Tryz.underlying64 hj hsh bldLies]
  simp only [Result.andThen]
  rw [Oper.upon_value]
  go_wp2
  go_end0
  exact ⟨rfl, rfl⟩

/-- The builder in block b, used, holds the bytes l. -/
def Bld (B b : Nat) (l : List UInt8) (w : World) : Prop := Lib.BuilderAt 67 5 B b (.pointer (some ⟨b, 0, none⟩)) (l.map bc) w
/-- .. used or new. -/
def BldN (B b : Nat) (l : List UInt8) (w : World) : Prop := Lib.IsBuilder 67 5 B b (l.map bc) w

theorem cc_any (B b : Nat) (l : List UInt8) (w : World) (h : BldN B b l w) :
    Calls Tryz.prog 55 #[.pointer (some ⟨b, 0, none⟩)] w fun e w' => e = .returned (.tuple #[]) ∧ Bld B b l w' ∧ Below B w w' ∧ Lib.OthersKept 5 (some b) w w' := by
  rcases h with h | h
  · exact (cc_fresh b w h.cell0 h.shape h.frozen0).mono fun e w' ⟨h1, h2⟩ => by subst h2; exact ⟨h1, h.used _, (Below.refl B w).setCell (p := ⟨b, 0, none⟩) h.1 _, (Lib.OthersKept.refl _ _ w).setCell ⟨b, 0, none⟩ rfl _⟩
  · exact (cc_used b w h.cell0).mono fun e w' ⟨h1, h2⟩ => by subst h2; exact ⟨h1, h, Below.refl B _, Lib.OthersKept.refl _ _ _⟩

theorem own_lenB {w : World} {B n z : Nat} {e : TypeId} {v : Value} {xs : List Value} (h : w.ownsRow B e z v n xs) : ∃ a c, v = .slice a n c := by
  rcases h.2 with ⟨rfl, rfl⟩ | ⟨g, cap, cur, rfl, _⟩
  · exact ⟨_, _, rfl⟩
  · exact ⟨_, _, rfl⟩
theorem bld_open {B b : Nat} {l : List UInt8} {w : World} (h : Bld B b l w) : B ≤ b ∧ ∃ v, w.heap[b]? = some (.cells #[.pointer (some ⟨b, 0, none⟩), v] 67 (0, 0)) ∧ w.ownsRow B 5 1 v l.length (l.map bc) ∧ v.ownBlock ≠ some b := by
  obtain ⟨hB, v, h1, h2, h3⟩ := h
  rw [List.length_map] at h2
  exact ⟨hB, v, h1, h2, h3⟩
theorem bld_cells {b : Nat} {v : Value} {w : World} (h : w.heap[b]? = some (.cells #[.pointer (some ⟨b, 0, none⟩), v] 67 (0, 0))) : w.cell? ⟨b, 0, none⟩ = some (.pointer (some ⟨b, 0, none⟩)) ∧ w.cell? ⟨b, 1, none⟩ = some v ∧ w.frozen? ⟨b, 1, none⟩ = false ∧ b < w.heap.size := by
  refine ⟨by rw [Lib.cell_of_heap h]; rfl, by rw [Lib.cell_of_heap h]; rfl, Lib.frozen_of_heap h 1, (Array.getElem?_eq_some_iff.1 h).1⟩

set_option maxHeartbeats 1600000 in
set_option maxRecDepth 100000 in
theorem wb_any (B b : Nat) (l : List UInt8) (c : UInt8) (w : World) (h : BldN B b l w) (hl : l.length ≤ 1000000000) (hBw : B ≤ w.heap.size) :
    Calls Tryz.prog 35 #[.pointer (some ⟨b, 0, none⟩), bc c] w fun e w' => e = .returned .nilIface ∧ Bld B b (l ++ [c]) w' ∧ Below B w w' ∧ Lib.OthersKept 5 (some b) w w' := by
  obtain ⟨i0, hi, hz0, hz1, hz2⟩ := info_parts info5
  obtain ⟨cn, hcc⟩ : ∃ x : Int, Value.int .u8 x = bc c := ⟨_, rfl⟩
  rw [← hcc]
  have h1c : ∀ u ∈ [Value.int .u8 cn], u.oneCell' = true := one_ints rfl
  have HCC := Lib.hid hcc
  clear hcc
  go_enter Tryz.func35, Tryz.ntmps35
  go_wp2_with (go_at_call 55; refine (cc_any B b l _ h).mono ?_)
  rintro e w1 ⟨rfl, h1, hb1, hk1⟩
  obtain ⟨hB, v, hbk, hown, hne⟩ := bld_open h1
  obtain ⟨c0, c1, _, hlt⟩ := bld_cells hbk
  have hsz := hb1.size
  go_wp2_with (at_builtin; refine wpList_append_own _ rfl _ _ 65 rfl B 5 i0 (.int .u8 0) 1 1 Tryz.underlying65 hi hz0 hz1 hz2 rfl (by decide) _ _ _ rfl (hown.alloc _) ⟨w1.heap.size, 0, none⟩ 1 1 [.int .u8 cn] rfl rfl (new_cells w1 [.int .u8 cn] _) h1c (by unfold maxLen; omega) (by omega) (by simp; omega) ?_; intro v' w2 hown' hgrow _; have hb2 : w2.heap[b]? = some (.cells #[.pointer (some ⟨b, 0, none⟩), v] 67 (0, 0)) := (by rw [hgrow.block b (by simp; omega) (fun e => hne e.symm), Lib.alloc_old w1 _ b hlt]; exact hbk); obtain ⟨d0, d1, f1, _⟩ := bld_cells hb2; obtain ⟨ao, cap, rfl⟩ := own_lenB hown')
  -- MARK1
  go_ret
  refine ⟨rfl, ?_, ?_, ?_⟩
  · exact Lib.BuilderAt.put hB hb2 (by rw [List.length_map, List.map_append, List.length_append, List.map_cons, List.map_nil, ← HCC.out]; exact hown') (by decide)
  · exact ((hb1.alloc (by omega) _).grown hgrow (by simp; omega) (fun k hk => (hown.lt k hk).1)).setCell (p := ⟨b, 1, none⟩) hB _
  · exact ((hk1.alloc _).grown hgrow (Lib.ownsRow_kind (hown.alloc _))).setCell ⟨b, 1, none⟩ rfl _

set_option maxHeartbeats 1600000 in
set_option maxRecDepth 100000 in
theorem ws_any (B b : Nat) (l m : List UInt8) (w : World) (h : BldN B b l w) (hl : l.length ≤ 1000000000) (hm : m.length ≤ 1000000000) (hBw : B ≤ w.heap.size) :
    Calls Tryz.prog 36 #[.pointer (some ⟨b, 0, none⟩), .string (str m)] w fun e w' => e = .returned (.tuple #[.int .i64 (str m).size, .nilIface]) ∧ Bld B b (l ++ m) w' ∧ Below B w w' ∧ Lib.OthersKept 5 (some b) w w' := by
  obtain ⟨i0, hi, hz0, hz1, hz2⟩ := info_parts info5
  have hms : (str m).size ≤ 1000000000 := by rw [str_size]; exact hm
  go_enter Tryz.func36, Tryz.ntmps36
  go_wp2_with (go_at_call 55; refine (cc_any B b l _ h).mono ?_)
  rintro e w1 ⟨rfl, h1, hb1, hk1⟩
  obtain ⟨hB, v, hbk, hown, hne⟩ := bld_open h1
  obtain ⟨c0, c1, _, hlt⟩ := bld_cells hbk
  have hsz := hb1.size
  go_wp2_with (at_builtin; refine Lib.wpList_append_own_string _ rfl _ _ 65 9 rfl B 5 i0 Tryz.underlying65 Tryz.underlying9 hi hz0 hz1 hz2 _ _ _ rfl hown _ rfl (by unfold maxLen; omega) (by omega) (by omega) ?_; intro v' w2 hown' hgrow _; have hb2 : w2.heap[b]? = some (.cells #[.pointer (some ⟨b, 0, none⟩), v] 67 (0, 0)) := (by rw [hgrow.block b hlt (fun e => hne e.symm)]; exact hbk); obtain ⟨d0, d1, f1, _⟩ := bld_cells hb2; obtain ⟨ao, cap, rfl⟩ := own_lenB hown')
  -- MARK2
  go_returns
  refine ⟨rfl, ?_, ?_, ?_⟩
  · exact Lib.BuilderAt.put hB hb2 (by rw [List.length_map]; exact own_app_str hown') (by decide)
  · exact (hb1.grown hgrow (by omega) (fun k hk => (hown.lt k hk).1)).setCell (p := ⟨b, 1, none⟩) hB _
  · exact (hk1.grown hgrow (Lib.ownsRow_kind hown)).setCell ⟨b, 1, none⟩ rfl _
/-- A box of another type is kept. -/
theorem kept_box {b z : Nat} {t : TypeId} {c : Array Value} {w w' : World} (h : Lib.OthersKept 5 (some b) w w') (hz : w.heap[z]? = some (.cells c t (0, 0))) (hb : z ≠ b) (ht : t ≠ 5) : w'.heap[z]? = some (.cells c t (0, 0)) :=
  h z _ hz (fun e => hb (Option.some.inj e)) fun c' fz e => ht (by injection e)
theorem bldN_below {B b : Nat} {l : List UInt8} {w w' : World} (h : BldN B b l w) (hb : Below w.heap.size w w') : BldN B b l w' := by
  rcases h with h | h
  · obtain ⟨h1, v, h2, h3, h4⟩ := h
    exact .inl ⟨h1, v, (hb.block b (Array.getElem?_eq_some_iff.1 h2).1).trans h2, own_below h3 hb, h4⟩
  · obtain ⟨h1, v, h2, h3, h4⟩ := h
    exact .inr ⟨h1, v, (hb.block b (Array.getElem?_eq_some_iff.1 h2).1).trans h2, own_below h3 hb, h4⟩
theorem bldN_new (w : World) : BldN w.heap.size w.heap.size [] (w.alloc (.cells #[.pointer none, .slice none 0 0] 67)) := Lib.fresh_isBuilder _ _ _
end Go.Proofs.YtnajkkbcfebegaaGreatDoor
