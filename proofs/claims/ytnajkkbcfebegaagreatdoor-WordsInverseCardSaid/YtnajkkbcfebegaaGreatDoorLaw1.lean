/- The laws WordsNames and WordsQuotes, walked. -/
import Derived.Test.YtnajkkbcfebegaaGreatDoorShown
namespace Go.Proofs.YtnajkkbcfebegaaGreatDoor
open Go.RowKit Go.PlainAid

def Ties (w : World) : Prop := ∀ w', Below w.heap.size w w' → Tabs w'
theorem Ties.tabs {w : World} (h : Ties w) : Tabs w := h w (Below.refl _ _)
theorem Ties.below {w w' : World} (h : Ties w) (hb : Below w.heap.size w w') : Ties w' := fun w'' hb' => h w'' (hb.trans (hb'.mono hb.size))

end Go.Proofs.YtnajkkbcfebegaaGreatDoor
