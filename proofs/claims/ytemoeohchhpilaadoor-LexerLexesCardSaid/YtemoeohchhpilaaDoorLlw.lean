/- The law LexerWords. -/
import Derived.Test.YtemoeohchhpilaaDoorLdoor
namespace Go.Proofs.YtemoeohchhpilaaDoor
open Go.RowKit Go.PlainAid

theorem below_step {w W w2 : World} (h : Below w.heap.size w W) (hb : Below W.heap.size W w2) : Below w.heap.size w w2 := h.trans (hb.mono h.size)
end Go.Proofs.YtemoeohchhpilaaDoor
