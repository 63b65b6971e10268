/- Contracts of the leaf predicates on bytes of layer 1: words.lowerByte, words.digitByte, words.plainByte and the reference's lower, digit, plain. -/
import Derived.Test.YtbkkmcfpjpbhaaaProg
import Derived.Test.YtbkkmcfpjpbhaaaKit
import Derived.BigGuardPart
namespace Go.Proofs.Ytbkkmcfpjpbhaaa
open Go.RowKit

/-- A byte from a to z. -/
def lowB (c : Int) : Bool := decide (97 ≤ c ∧ c ≤ 122)
/-- A byte from 0 to 9. -/
def digB (c : Int) : Bool := decide (48 ≤ c ∧ c ≤ 57)
/-- A byte that stands for itself between quotes. -/
def plainB (c : Int) : Bool := decide (32 ≤ c ∧ c ≤ 126 ∧ c ≠ 34 ∧ c ≠ 92)


end Go.Proofs.Ytbkkmcfpjpbhaaa
