/- runes.Bytes. -/
import Derived.Laws.MakeOwn
import Derived.Test.YtemoeohchhpilaaDoorRback
namespace Go.Proofs.YtemoeohchhpilaaDoor
open Go.RowKit Go.PlainAid

/-- What Bytes returns: the bytes, the index of the first number that is no rune, the error. -/
def bytesS (l : List Int) : List UInt8 × Nat × Int :=
  match l.findIdx? (fun r => !isR r) with
  | some i => ([], i, 7)
  | none => if 8000 < wid l then ([], 0, 3) else (encs l, 0, 0)
theorem bytesS_bad {l : List Int} {k : Nat} {r : Int} (h : ∀ x ∈ l.take k, isR x = true) (hk : l[k]? = some r) (hr : isR r = false) : bytesS l = ([], k, 7) := by
  have : l.findIdx? (fun r => !isR r) = some k := by
    obtain ⟨hk1, hk2⟩ := List.getElem?_eq_some_iff.1 hk
    rw [List.findIdx?_eq_some_iff_getElem]
    refine ⟨hk1, by rw [hk2, hr]; rfl, fun j hj => ?_⟩
    have := h (l[j]'(by omega)) (List.mem_take_iff_getElem.2 ⟨j, by omega, rfl⟩)
    rw [this]; decide
  unfold bytesS; rw [this]
theorem bytesS_good {l : List Int} (h : ∀ x ∈ l, isR x = true) : bytesS l = if 8000 < wid l then ([], 0, 3) else (encs l, 0, 0) := by
  have : l.findIdx? (fun r => !isR r) = none := by
    rw [List.findIdx?_eq_none_iff]
    intro x hx; rw [h x hx]; rfl
  unfold bytesS; rw [this]
def BytesV (l : List Int) (w : World) (e : Ending) (w' : World) : Prop :=
  ∃ v, e = .returned (.tuple #[v, .int .i64 ((bytesS l).2.1 : Int), .int .i64 (bytesS l).2.2]) ∧ w'.ownsRow w.heap.size 5 1 v (bytesS l).1.length ((bytesS l).1.map bc) ∧ Below w.heap.size w w'
def RunesAt (w : World) (v : Value) (l : List Int) : Prop := RowAt w v (l.map (Value.int .i32))
theorem take_snoc {l : List Int} {k : Nat} {r : Int} (h : l[k]? = some r) : l.take (k + 1) = l.take k ++ [r] := by
  rw [List.take_add_one, h]; rfl
theorem wid_take_le (l : List Int) (k : Nat) : wid (l.take k) ≤ 4 * k := by
  induction k with
  | zero => simp [wid]
  | succ k ih =>
    cases h : l[k]? with
    | none => rw [List.take_add_one, h]; simp; omega
    | some r => rw [take_snoc h, wid_app, wid_cons, wid_nil]; have := wO_le r; omega
theorem wid_take_mono (l : List Int) (k : Nat) : wid (l.take k) ≤ wid l := by
  have := List.take_append_drop k l
  conv => rhs; rw [← this]
  rw [wid_app]; omega
theorem info5 : (Tryd.prog.info? 5).map (fun i => (i.zero, i.size, i.bytes)) = some (some (.int .u8 0), 1, 1) := by kernel_rfl
theorem own_some {w : World} {B e n : Nat} {v : Value} {xs : List Value} (h : w.ownsRow B e 1 v n xs) (hn : 1 ≤ n) : ∃ g cap, v = .slice (some ⟨g, 0, none⟩) n cap ∧ B ≤ g ∧ g < w.heap.size ∧ ∀ j u, xs[j]? = some u → w.cell? ((⟨g, 0, none⟩ : Addr).add j) = some u := by
  have hr := RowAt.own h
  rcases h.2 with ⟨_, h0⟩ | ⟨g, cap, cur, rfl, hg, hb, _, _, _, ht⟩
  · omega
  · refine ⟨g, cap, rfl, hg, (Array.getElem?_eq_some_iff.1 hb).1, fun j u hj => ?_⟩
    have e : (⟨g, 0, none⟩ : Addr).add j = ⟨g, j, none⟩ := by cases j <;> simp [Addr.add]
    rw [e]
    rw [← ht] at hj
    have hj' : cur.toList[j]? = some u := by
      rw [List.getElem?_take] at hj
      split at hj
      · exact hj
      · cases hj
    simp only [World.cell?, hb, Option.isSome_none]
    simpa using hj'

end Go.Proofs.YtemoeohchhpilaaDoor
