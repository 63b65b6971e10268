/- The map of Check: what a look-up and a store do. -/
import Derived.Test.YtdiinlmeoifgjaaGreatDoorHo
import Derived.Maps.OwnSet
import Derived.DeepKeys4
namespace Go.Proofs.YtdiinlmeoifgjaaGreatDoor
open Go.RowKit Go.PlainAid

theorem laidOut : laidOutB Tryz.prog = true := by kernel_rfl
theorem pa_law : Maps.Keyed Tryz.prog 40 := Maps.Keyed.of_law (deep_law_laid laidOut (m := 2) (by omega) (of_decide_eq_true (by kernel_rfl)) (by kernel_rfl) (by rw [Tryz.underlying40]))
theorem pa_cells : Tryz.prog.cellsOf 40 = 2 := by kernel_rfl
theorem pa_type : Tryz.prog.keyType 40 = true := by kernel_rfl
theorem pa_str : Tryz.prog.cellsOf 9 = 1 := by kernel_rfl
theorem pa_size : ∃ m, Tryz.prog.types.size + 1 = m + 2 := ⟨Tryz.prog.types.size - 1, by have : 2 ≤ Tryz.prog.types.size := of_decide_eq_true (by kernel_rfl); omega⟩
/-- A key, as it is read. -/
theorem key_of (q : Pid) (h1 : q.1.length ≤ 100000) (h2 : q.2.length ≤ 100000) : ∃ l, keyOf Tryz.prog 40 (keyV q) = some l := by
  obtain ⟨m, hm⟩ := pa_size
  have e1 : (str q.1).size ≤ maxLen := by rw [str_size]; unfold maxLen; omega
  have e2 : (str q.2).size ≤ maxLen := by rw [str_size]; unfold maxLen; omega
  have hf : (keyV q).formed Tryz.prog 40 = true := by simp [keyV, Value.formed, Tryz.underlying40, pa_cells]
  have hk : Tryz.prog.keyLits (m + 2) 40 [.string (str q.1), .string (str q.2)] = some [.string q.1, .string q.2] := by
    have hs : ∀ s : List UInt8, (str s).size ≤ maxLen → Tryz.prog.keyLits (m + 1) 9 [.string (str s)] = some [.string s] := fun s h => by
      unfold Program.keyLits
      rw [Tryz.underlying9]
      simp [h, str_list]
    unfold Program.keyLits
    rw [Tryz.underlying40]
    simp [pa_cells, pa_str, hs _ e1, hs _ e2]
  refine ⟨.string (keyBytes [.string q.1, .string q.2]), ?_⟩
  unfold keyOf
  rw [Tryz.underlying40]
  simp only [pa_type, hf, Bool.and_self, if_true]
  rw [hm]
  show (Tryz.prog.keyLits (m + 2) 40 [.string (str q.1), .string (str q.2)]).map _ = _
  rw [hk]; rfl
theorem mapB_mem {L : List (Pid)} {es : Array MapEntry} (h : es.toList.map (fun e => (e.key, e.val)) = L.map (fun q => (keyV q, Value.bool true))) (e : MapEntry) (he : e ∈ es.toList) : ∃ q ∈ L, e.key = keyV q ∧ e.val = .bool true := by
  have h1 : (e.key, e.val) ∈ es.toList.map (fun e => (e.key, e.val)) := List.mem_map.2 ⟨e, he, rfl⟩
  rw [h, List.mem_map] at h1
  obtain ⟨q, hq, e1⟩ := h1
  obtain ⟨e2, e3⟩ := Prod.mk.inj e1
  exact ⟨q, hq, e2.symm, e3.symm⟩
theorem str_injP {a b : List UInt8} (h : str a = str b) : a = b := by
  have := congrArg (fun s : ByteArray => s.data.toList) h
  exact this
theorem keyV_inj {p q : Pid} (h : keyV p = keyV q) : p = q := by
  unfold keyV at h
  have h1 := Value.agg.inj h
  have h2 := congrArg Array.toList h1
  simp only [List.cons.injEq, Value.string.injEq, and_true] at h2
  exact Prod.ext (str_injP h2.1) (str_injP h2.2)
def SmL (L : List (Pid)) : Prop := ∀ q ∈ L, q.1.length ≤ 100000 ∧ q.2.length ≤ 100000
theorem map_find {w : World} {L : List (Pid)} {es : Array MapEntry} (h : es.toList.map (fun e => (e.key, e.val)) = L.map (fun q => (keyV q, Value.bool true))) (hL : SmL L) (q : Pid) (h1 : q.1.length ≤ 100000) (h2 : q.2.length ≤ 100000) :
    (q ∉ L ∧ (Instr.findKey 40 (keyV q) es.toList).run Tryz.prog w = .ok none w) ∨ (q ∈ L ∧ ∃ j, (Instr.findKey 40 (keyV q) es.toList).run Tryz.prog w = .ok (some (j, .bool true)) w) := by
  obtain ⟨l, hl⟩ := key_of q h1 h2
  rcases pa_law.find w hl es.toList (fun e he => by
    obtain ⟨p, hp, e1, _⟩ := mapB_mem h e he
    rw [e1]; exact key_of p (hL p hp).1 (hL p hp).2) with ⟨hf, hne⟩ | ⟨j, e, hf, hj, hk⟩
  · refine .inl ⟨fun hq => ?_, hf⟩
    have h3 : (keyV q, Value.bool true) ∈ L.map (fun q => (keyV q, Value.bool true)) := List.mem_map.2 ⟨q, hq, rfl⟩
    rw [← h, List.mem_map] at h3
    obtain ⟨e, he, e1⟩ := h3
    exact hne e he (Prod.mk.inj e1).1
  · obtain ⟨p, hp, e1, e2⟩ := mapB_mem h e (List.mem_of_getElem? hj)
    rw [e2] at hf
    rw [hk] at e1
    have e3 := keyV_inj e1
    subst e3
    exact .inr ⟨hp, j, hf⟩
/-- A look-up. -/
theorem look_map {w : World} {m : Nat} {L : List (Pid)} (h : MapB w m L) (hL : SmL L) (q : Pid) (h1 : q.1.length ≤ 100000) (h2 : q.2.length ≤ 100000) :
    (Instr.lookup 64 (.map (some m)) (keyV q) false).run Tryz.prog w = .ok (.bool (decide (q ∈ L))) w := by
  obtain ⟨es, ck, hb, he⟩ := h
  obtain ⟨l, hl⟩ := key_of q h1 h2
  have hz : (zeroValue 4).run Tryz.prog w = .ok (.bool false) w := by kernel_rfl
  rcases map_find (w := w) he hL q h1 h2 with ⟨hq, hf⟩ | ⟨hq, j, hf⟩
  · simp [Instr.lookup, run_underlying Tryz.underlying64, MapKept.run_getObj_map hb, pa_law.check w _ hl, hf, hz, Result.andThen, hq]
  · simp [Instr.lookup, run_underlying Tryz.underlying64, MapKept.run_getObj_map hb, pa_law.check w _ hl, hf, Result.andThen, hq]
/-- A store of a new key. -/
theorem put_map {w : World} {m : Nat} {L : List (Pid)} (h : MapB w m L) (hL : SmL L) (q : Pid) (h1 : q.1.length ≤ 100000) (h2 : q.2.length ≤ 100000) (hq : q ∉ L) :
    ∃ w', (Instr.mapUpdate 64 (.map (some m)) (keyV q) (.bool true)).run Tryz.prog w = .ok () w' ∧ MapB w' m (L ++ [q]) ∧ w.grownBy w' (some m) := by
  obtain ⟨es, ck, hb, he⟩ := h
  obtain ⟨l, hl⟩ := key_of q h1 h2
  rcases map_find (w := w) he hL q h1 h2 with ⟨_, hf⟩ | ⟨hq2, _⟩
  · have hlt : m < w.heap.size := (Array.getElem?_eq_some_iff.1 hb).1
    refine ⟨{ w with heap := w.heap.setIfInBounds m (.map (es.push { key := keyV q, val := .bool true, born := ck }) (ck + 1)) }, ?_, ⟨_, _, (MapKept.heap_set hb).1, ?_⟩, ⟨rfl, rfl, rfl, by simp, fun i _ hi => (MapKept.heap_set hb).2 i (fun e => hi (by rw [e]))⟩⟩
    · simp [Instr.mapUpdate, run_underlying Tryz.underlying64, MapKept.run_getObj_map hb, pa_law.check w _ hl, hf, MapKept.run_setObj_map _ hb, Result.andThen]
    · simp only [Array.toList_push, List.map_append, he, List.map_cons, List.map_nil]
  · exact absurd hq2 hq
/-- A store, at the operation, for the walk. -/
theorem wpList_put_map (w : World) {ops : Array Oper} {rest : List Oper} {o : Oper} {a : Act} {Q : Exit → Act → World → Prop} (hg : o.guard = none) (x y v : Operand) (t : TypeId) (hop : o.op = Op.mapUpdate t x y v) (ht : t = 64)
    (m : Nat) (L : List (Pid)) (hm : a.eval x = .map (some m)) (h : MapB w m L) (hL : SmL L) (q : Pid) (h1 : q.1.length ≤ 100000) (h2 : q.2.length ≤ 100000) (hq : q ∉ L) (hx : a.eval y = keyV q) (hv : a.eval v = .bool true)
    (hK : ∀ w', MapB w' m (L ++ [q]) → w.grownBy w' (some m) → wpList Tryz.prog ops Q rest (a.put o.dst undef) w') : wpList Tryz.prog ops Q (o :: rest) a w := by
  subst ht
  refine wpList_plain hg fun K' hK' => ?_
  obtain ⟨w', hrun, r1, r2⟩ := put_map h hL q h1 h2 hq
  unfold Oper.wp
  simp [execOp, hop, hm, hx, hv, hrun, Result.andThen]
  exact hK' _ _ (hK w' r1 r2)
end Go.Proofs.YtdiinlmeoifgjaaGreatDoor
