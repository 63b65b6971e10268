/- Contracts of words.Digits and the reference's Digits. -/
import Derived.Test.YtbkkmcfpjpbhaaaRange
import Derived.WalkSmall
import Derived.WalkLawsBesides
import Derived.WalkSpells
import Derived.Lib.ItoaMem
import Derived.Lib.ItoaLen
import Derived.Lib.AppendIntMem
import Derived.Deep.RegionWith
namespace Go.Proofs.Ytbkkmcfpjpbhaaa
open Go.RowKit Go.PlainAid

def PowIs (w : World) : Prop := Lib.TabIs Try.prog w "internal/strconv.uint64pow10" .u64 Lib.pow10Tab
def i64r (n : Int) : Prop := -9223372036854775808 ≤ n ∧ n ≤ 9223372036854775807

theorem lit_convD (x : UInt8) (W : World) : (convert 81 9 (.slice (some ⟨W.heap.size, 0, none⟩) 1 1)).run Try.prog (W.alloc (.cells #[.int .u8 (x.toNat : Int)] 5)).drew = .ok (.string (str [x])) (W.alloc (.cells #[.int .u8 (x.toNat : Int)] 5)).drew :=
  conv_own (l := [x]) Try.underlying81 Try.underlying5 (World.ownsRow_lit (base := 0) (e := 5) (size := 1) W #[.int .u8 (x.toNat : Int)] 1 (by omega) (by decide) rfl).drew 9 Try.underlying9

theorem conv_lit_below {x : UInt8} {c : Int} {W w1 : World} (hx : (x.toNat : Int) = c) (hb : Below (W.alloc (.cells #[.int .u8 c] 5)).drew.heap.size (W.alloc (.cells #[.int .u8 c] 5)).drew w1) :
    (convert 81 9 (.slice (some ⟨W.heap.size, 0, none⟩) 1 1)).run Try.prog w1 = .ok (.string (str [x])) w1 := by
  subst hx
  exact conv_own (l := [x]) Try.underlying81 Try.underlying5 (own_below (World.ownsRow_lit (base := 0) (e := 5) (size := 1) W #[.int .u8 (x.toNat : Int)] 1 (by omega) (by decide) rfl).drew hb) 9 Try.underlying9

theorem cell_b {W W1 : World} {b o : Nat} (h : W1.heap[b]? = W.heap[b]?) : W1.cell? ⟨b, o, none⟩ = W.cell? ⟨b, o, none⟩ := by simp [World.cell?, h]

end Go.Proofs.Ytbkkmcfpjpbhaaa
