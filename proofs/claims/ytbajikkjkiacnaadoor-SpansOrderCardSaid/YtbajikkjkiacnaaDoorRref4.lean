/- The reference's Decode whole; one, Class; the law RunesDecodes. -/
import Derived.Test.YtbajikkjkiacnaaDoorRref3
namespace Go.Proofs.YtbajikkjkiacnaaDoor
open Go.RowKit Go.PlainAid

theorem rdecode_any (v : Value) (l : List UInt8) (i : Int) (w : World) (h : ArgAt w v (l.map bc)) (hl : l.length ≤ 1000000) :
    Calls Tryd.prog 57 #[v, .int .i64 i] w fun e w' => e = .returned (decV (decAt l i)) ∧ Below w.heap.size w w' := by
  have hr := h.row
  obtain ⟨a, n, cap, rfl, hn, hcap, hs⟩ := h
  rw [List.length_map] at hn
  by_cases hi : i < 0 ∨ (n : Int) ≤ i
  · exact rdecode_out a l n cap i w hn hi
  · obtain ⟨k, rfl⟩ : ∃ k : Nat, i = k := ⟨i.toNat, by omega⟩
    rcases hr with ⟨_, _, hv, hnil⟩ | ⟨g, off, n', cap', hv, hn', hg, hc⟩
    · have := (Value.slice.inj hv).2.1; omega
    · obtain ⟨rfl, rfl, rfl⟩ := Value.slice.inj hv
      exact rdecode_in g off l n cap k w hn (by omega) hl hcap hg hc

def oneB (r : Int) (l : List UInt8) : Bool := l.any fun c => ub c == r
theorem oneB_no {r : Int} {l : List UInt8} (h : ∀ (j : Nat) (c : UInt8), l[j]? = some c → ub c ≠ r) : oneB r l = false := by
  unfold oneB; rw [List.any_eq_false]
  intro c hc
  obtain ⟨j, hj, rfl⟩ := List.getElem_of_mem hc
  have := h j _ (List.getElem?_eq_getElem hj)
  simpa using this
theorem oneB_yes {r : Int} {l : List UInt8} {j : Nat} {c : UInt8} (h : l[j]? = some c) (hc : ub c = r) : oneB r l = true := by
  unfold oneB; rw [List.any_eq_true]
  exact ⟨c, List.mem_of_getElem? h, by simpa using hc⟩

/-- What the reference's Class returns. -/
def rclsS (r : Int) : Int := if isR r = false then 0 else if oneB r [9, 10, 13, 32] then 1 else if oneB r [40, 91] then 2 else if oneB r [41, 93] then 3 else if r = 39 then 4 else if r = 35 then 5 else if r = 59 then 6
  else if 48 ≤ r ∧ r ≤ 57 then 7 else if r = 43 ∨ r = 45 then 8 else if (97 ≤ r ∧ r ≤ 122) ∨ (65 ≤ r ∧ r ≤ 90) ∨ 161 ≤ r ∨ oneB r [33, 36, 37, 38, 42, 47, 58, 60, 61, 62, 63, 94, 95, 126, 46, 64] = true then 9 else 10
theorem oneB_big {r : Int} {l : List UInt8} (h : ∀ c ∈ l, ub c < 161) (hr : 161 ≤ r) : oneB r l = false := by
  unfold oneB; rw [List.any_eq_false]
  intro c hc
  have := h c hc
  simp; omega
end Go.Proofs.YtbajikkjkiacnaaDoor
