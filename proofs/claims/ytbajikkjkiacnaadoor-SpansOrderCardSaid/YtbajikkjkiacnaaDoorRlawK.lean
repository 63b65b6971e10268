/- The law RunesKnown, walked. -/
import Derived.Test.YtbajikkjkiacnaaDoorRsame
namespace Go.Proofs.YtbajikkjkiacnaaDoor
open Go.RowKit Go.PlainAid

theorem conv_at {w : World} {B n : Nat} {v : Value} {l : List UInt8} (h : w.ownsRow B 5 1 v n (l.map bc)) : (convert 43 9 v).run Tryd.prog w = .ok (.string (str l)) w :=
  conv_own (P := Tryd.prog) Tryd.underlying43 Tryd.underlying5 h 9 Tryd.underlying9

end Go.Proofs.YtbajikkjkiacnaaDoor
