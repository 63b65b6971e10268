/- Layer 3: any row of bytes as a string. -/
import Derived.Test.YtbajikkjkiacnaaDoorPcover
namespace Go.Proofs.YtbajikkjkiacnaaDoor
open Go.RowKit Go.PlainAid

theorem conv_row {w : World} {v : Value} {l : List UInt8} (h : BytesAt w v l) : (convert 43 9 v).run Tryd.prog w = .ok (.string (str l)) w := by
  rcases h with ⟨a, cap, rfl, hnil⟩ | ⟨g, off, n, cap, rfl, hn, hg, hc⟩
  · obtain rfl : l = [] := List.map_eq_nil_iff.1 hnil
    cases a with
    | none => exact run_convert_bytes_nil w 43 5 Tryd.underlying43 Tryd.underlying5 0 cap 9 Tryd.underlying9
    | some ad =>
      have hl : (loadCells ad 0).run Tryd.prog w = .ok (([] : List Int).map (Value.int .u8)).toArray w := run_loadCells_list (P := Tryd.prog) w ad [] (fun j v hj => by simp at hj)
      exact (run_convert_bytes_string w 43 9 5 _ _ cap Tryd.underlying43 Tryd.underlying5 Tryd.underlying9).trans (run_bytesToString w ad 0 cap [] hl)
  · rw [List.length_map] at hn
    refine conv_src (n := n) (.inr ⟨⟨g, off, none⟩, cap, rfl, fun j u hj => ?_⟩) hn
    rw [Go.WideShapes.add_plain]; exact hc j u hj

/-- What Cut returns. -/
def cutP (l : List UInt8) (s : Sp) : List UInt8 × Int :=
  if (chkS l).2 ≠ 0 then ([], (chkS l).2) else if checkS l.length s ≠ 0 then ([], checkS l.length s)
  else if onS l s.1 = (true, 0) ∧ onS l s.2 = (true, 0) then (segL l s, 0) else ([], 6)
end Go.Proofs.YtbajikkjkiacnaaDoor
