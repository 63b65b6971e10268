/- Patterns: a store of any key into a set of identifiers. -/
import Derived.Test.YtdiinlmeoifgjaaGreatDoorHk
namespace Go.Proofs.YtdiinlmeoifgjaaGreatDoor
open Go.RowKit Go.PlainAid

theorem ba_self (s : ByteArray) : (s == s) = true := by
  cases s with
  | mk d =>
    show (d == d) = true
    exact beq_self_eq_true _
theorem sameBits_key (q : Pid) : Instr.sameBits 10000 (keyV q) (keyV q) = true := by
  unfold keyV Instr.sameBits
  simp [Instr.sameBits]
  exact ⟨ba_self _, ba_self _⟩
theorem modify_same {es : Array MapEntry} {j : Nat} {e : MapEntry} (h : es[j]? = some e) (f : MapEntry → MapEntry) (hf : ((f e).key, (f e).val) = (e.key, e.val)) :
    (es.modify j f).toList.map (fun e => (e.key, e.val)) = es.toList.map (fun e => (e.key, e.val)) := by
  apply List.ext_getElem?
  intro i
  rw [List.getElem?_map, List.getElem?_map, Array.getElem?_toList, Array.getElem?_toList, Array.getElem?_modify]
  by_cases hi : j = i
  · subst hi
    rw [if_pos rfl, h]
    simp only [Option.map_some]
    rw [hf]
  · rw [if_neg hi]
/-- A store of a key that may be there. -/
theorem put_any {w : World} {m : Nat} {L : List Pid} (h : MapB w m L) (hL : SmL L) (q : Pid) (h1 : q.1.length ≤ 100000) (h2 : q.2.length ≤ 100000) :
    ∃ w' L', (Instr.mapUpdate 64 (.map (some m)) (keyV q) (.bool true)).run Tryz.prog w = .ok () w' ∧ MapB w' m L' ∧ SmL L' ∧ (∀ z, z ∈ L' ↔ z ∈ L ∨ z = q) ∧ w.grownBy w' (some m) := by
  by_cases hq : q ∈ L
  · obtain ⟨es, ck, hb, he⟩ := h
    obtain ⟨l, hl⟩ := key_of q h1 h2
    have hlt : m < w.heap.size := (Array.getElem?_eq_some_iff.1 hb).1
    rcases pa_law.find w hl es.toList (fun e he' => by
      obtain ⟨p, hp, e1, _⟩ := mapB_mem he e he'
      rw [e1]; exact key_of p (hL p hp).1 (hL p hp).2) with ⟨hf, hne⟩ | ⟨j, e, hf, hj, hk⟩
    · exfalso
      have h3 : (keyV q, Value.bool true) ∈ L.map (fun q => (keyV q, Value.bool true)) := List.mem_map.2 ⟨q, hq, rfl⟩
      rw [← he, List.mem_map] at h3
      obtain ⟨e, he', e1⟩ := h3
      exact hne e he' (Prod.mk.inj e1).1
    · obtain ⟨p, hp, e1, e2⟩ := mapB_mem he e (List.mem_of_getElem? hj)
      rw [Array.getElem?_toList] at hj
      refine ⟨{ w with heap := w.heap.setIfInBounds m (.map (es.modify j fun e => { e with key := keyV q, val := .bool true }) ck) }, L, ?_, ⟨_, _, (MapKept.heap_set hb).1, ?_⟩, hL, fun z => ⟨.inl, fun hz => hz.elim id fun e => by rw [e]; exact hq⟩, ⟨rfl, rfl, rfl, by simp, fun i _ hi => (MapKept.heap_set hb).2 i (fun e => hi (by rw [e]))⟩⟩
      · have hky : ((es[j]?).map (·.key)).getD (keyV q) = keyV q := by rw [hj]; show e.key = keyV q; exact hk
        have hst : (Instr.keyThatStays (keyV q) (keyV q)).run Tryz.prog w = .ok (keyV q) w := by unfold Instr.keyThatStays; rw [sameBits_key]; rfl
        simp [Instr.mapUpdate, run_underlying Tryz.underlying64, MapKept.run_getObj_map hb, pa_law.check w _ hl, hf, hky, hst, MapKept.run_setObj_map _ hb, Result.andThen]
      · rw [modify_same hj _ (by simp only; rw [hk, e2]), he]
  · obtain ⟨w', hr, hm, hg⟩ := put_map h hL q h1 h2 hq
    refine ⟨w', L ++ [q], hr, hm, fun z hz => ?_, fun z => by simp, hg⟩
    rcases List.mem_append.1 hz with hz | hz
    · exact hL z hz
    · rw [List.mem_singleton.1 hz]; exact ⟨h1, h2⟩
end Go.Proofs.YtdiinlmeoifgjaaGreatDoor
