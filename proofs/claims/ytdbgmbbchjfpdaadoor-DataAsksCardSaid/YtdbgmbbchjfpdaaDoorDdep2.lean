/- The program's Depth: what its loops keep; a function that leaves with many marks. -/
import Derived.Test.YtdbgmbbchjfpdaaDoorDdep
namespace Go.Proofs.YtdbgmbbchjfpdaaDoor
open Go.RowKit Go.Shelf Go.PlainAid

/-- The depths so far: of the root, of the children of the first k nodes, and of these children of node k. -/
def DepOk (ks : List Nat) (n k : Nat) (pre ds : List Nat) : Prop := ds.length = n ∧ ∀ j, j < n → (j = 0 ∨ parN ks j < k ∨ j ∈ pre) → ds[j]? = some (dep ks j)
theorem DepOk.start {ks : List Nat} (h : Tr ks) {n : Nat} : DepOk ks n 0 [] (List.replicate n 0) := by
  refine ⟨List.length_replicate, fun j hj hc => ?_⟩
  rcases hc with rfl | hc | hc
  · rw [List.getElem?_replicate, if_pos hj, h.dep_0]
  · omega
  · cases hc
theorem DepOk.at {ks : List Nat} (h : Tr ks) {n k : Nat} {pre ds : List Nat} (hn : ks.length = n) (hd : DepOk ks n k pre ds) (hk : k < n) : ds[k]? = some (dep ks k) := by
  refine hd.2 k hk ?_
  by_cases h0 : k = 0
  · exact .inl h0
  · exact .inr (.inl (h.par (by omega) (by omega)).1)
theorem kid_of {ks : List Nat} {k x : Nat} {pre : List Nat} (hp : pre ++ [x] <+: kidsN ks k) : ∃ q, q < cnt ks k ∧ posK ks k q = x := by
  have hx : x ∈ kidsN ks k := hp.subset (by simp)
  unfold kidsN at hx
  obtain ⟨q, hq, e⟩ := List.mem_map.1 hx
  exact ⟨q, List.mem_range.1 hq, e⟩
theorem DepOk.step {ks : List Nat} (h : Tr ks) {n k x : Nat} {pre ds : List Nat} (hn : ks.length = n) (hk : k < n) (hd : DepOk ks n k pre ds) (hp : pre ++ [x] <+: kidsN ks k) : x < n ∧ DepOk ks n k (pre ++ [x]) (ds.set x (dep ks k + 1)) := by
  obtain ⟨q, hq, rfl⟩ := kid_of hp
  obtain ⟨p1, p2, _⟩ := h.pos_step (i := k) (by omega) hq
  refine ⟨by omega, by rw [List.length_set]; exact hd.1, fun j hj hc => ?_⟩
  rw [List.getElem?_set]
  by_cases e : posK ks k q = j
  · rw [if_pos e, if_pos (by rw [hd.1]; omega), ← e, h.dep_kid (by omega) hq]
  · rw [if_neg e]
    refine hd.2 j hj ?_
    rcases hc with hc | hc | hc
    · exact .inl hc
    · exact .inr (.inl hc)
    · rcases List.mem_append.1 hc with hc | hc
      · exact .inr (.inr hc)
      · exact absurd (show posK ks k q = j from (List.mem_singleton.1 hc).symm) e
theorem DepOk.next {ks : List Nat} (h : Tr ks) {n k : Nat} {ds : List Nat} (hn : ks.length = n) (hd : DepOk ks n k (kidsN ks k) ds) : DepOk ks n (k + 1) [] ds := by
  refine ⟨hd.1, fun j hj hc => hd.2 j hj ?_⟩
  rcases hc with hc | hc | hc
  · exact .inl hc
  · by_cases h0 : j = 0
    · exact .inl h0
    · by_cases hlt : parN ks j < k
      · exact .inr (.inl hlt)
      · obtain ⟨q, hq, e⟩ := h.par_child (i := j) (by omega) (by omega)
        have hpk : parN ks j = k := by omega
        rw [hpk] at hq e
        exact .inr (.inr (by rw [← e]; exact List.mem_of_getElem? (kidsN_at hq)))
  · cases hc
theorem DepOk.all {ks : List Nat} (h : Tr ks) {n : Nat} {ds : List Nat} (hn : ks.length = n) (hd : DepOk ks n n [] ds) {j : Nat} (hj : j < n) : ds[j]? = some (dep ks j) := by
  refine hd.2 j hj ?_
  by_cases h0 : j = 0
  · exact .inl h0
  · have := (h.par (i := j) (by omega) (by omega)).1
    exact .inr (.inl (by omega))

/-- What Depth's loops keep: the tree's box, the depths, their box; all below. -/
def DpI (A n ge : Nat) (vt : Value) (w2 : World) (ds : List Nat) (W : World) : Prop :=
  Below A w2 W ∧ W.heap[A]? = some (.cells #[vt, .slice (some ⟨ge, 0, none⟩) n n] 72 (0, 0)) ∧ W.heap[A + 1]? = some (.cells (natV ds).toArray 3 (0, 0)) ∧ W.heap[A + 2]? = some (.cells #[.slice (some ⟨A + 1, 0, none⟩) n n] 30 (0, 0))
theorem DpI.grown {A n ge : Nat} {vt : Value} {w2 W W' : World} {ds : List Nat} {row : Option Nat} (h : DpI A n ge vt w2 ds W) (hg : W.grownBy W' row) (hr : ∀ r, row = some r → A + 3 ≤ r) : DpI A n ge vt w2 ds W' := by
  obtain ⟨h1, h2, h3, h4⟩ := h
  have hs := (Array.getElem?_eq_some_iff.1 h4).1
  exact ⟨h1.grown hg (by omega) (fun k e => by have := hr k e; omega), (hg.block A (by omega) (fun e => by have := hr _ e.symm; omega)).trans h2, (hg.block (A + 1) (by omega) (fun e => by have := hr _ e.symm; omega)).trans h3, (hg.block (A + 2) (by omega) (fun e => by have := hr _ e.symm; omega)).trans h4⟩

/-- The marks that ranges over functions left. -/
def markD (D : Nat) : Deferred := { target := .collected D, args := #[] }
theorem leaves_marks {F : Fence} {n : Nat} {P : Program} {fn : Func} {tmps : Array Value} {R : Ending → World → Prop} {u : FrameMode} (hu : u ≠ .run) (Q : World → Prop) :
    ∀ (Ds : List Nat) (W : World), Ds.Nodup → (∀ D ∈ Ds, W.heap[D]? = some (.deferred (some []))) → Q W → (∀ W D, D ∈ Ds → Q W → Q (W.putObj D (.deferred none))) → (∀ W, Q W → LeavesIn F n P fn tmps R [] u W) →
    LeavesInM F n P fn tmps R (Ds.map markD) u W := by
  intro Ds
  induction Ds with
  | nil => intro W _ _ hq _ hl; exact hl W hq
  | cons D Ds ih =>
    intro W hnd hD hq hp hl
    obtain ⟨h1, h2⟩ := List.nodup_cons.1 hnd
    refine ⟨hu, .inl ⟨D, _, rfl, run_takeDeferred (hD D (by simp)), ?_⟩⟩
    refine ih _ h2 (fun D' hD' => ?_) (hp W D (by simp) hq) (fun W' D' h' hq' => hp W' D' (by simp [h']) hq') hl
    rw [World.putObj_heap_other (by rintro rfl; exact h1 hD')]
    exact hD D' (by simp [hD'])
end Go.Proofs.YtdbgmbbchjfpdaaDoor
