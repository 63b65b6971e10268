/- Contracts of words.Digits and the reference's Digits. -/
import Derived.Test.YtchnmbfeaaialaaDoorNames
import Derived.Test.YtchnmbfeaaialaaDoorShelf
import Derived.WalkSmall
import Derived.WalkLawsBesides
import Derived.WalkSpells
import Derived.Lib.ItoaMem
import Derived.Lib.ItoaLen
import Derived.Lib.AppendIntMem
import Derived.Deep.RegionWith
namespace Go.Proofs.YtchnmbfeaaialaaDoor
open Go.RowKit Go.PlainAid

def PowIs (w : World) : Prop := Lib.TabIs Tryd.prog w "internal/strconv.uint64pow10" .u64 Lib.pow10Tab
theorem pow_below {B : Nat} {w w' : World} (h : PowIs w) (hb : Below B w w') (hB : 1 < B) : PowIs w' := by
  unfold PowIs Lib.TabIs at *
  exact var?_below hb (by kernel_rfl) hB h
def i64r (n : Int) : Prop := -9223372036854775808 ≤ n ∧ n ≤ 9223372036854775807

set_option maxHeartbeats 800000 in
theorem digits_any (n : Int) (w : World) (hn : i64r n) (hp : PowIs w) :
    Calls Tryd.prog 80 #[.int .i64 n] w fun e w' => e = .returned (.string (str (Lib.itoa n))) ∧ Below w.heap.size w w' := by
  have h0 := hn.1
  have h1 := hn.2
  go_enter Tryd.func80, Tryd.ntmps80
  go_wp2_with (go_at_call 90; refine (Tryd.strconv_FormatInt_10 n h0 h1 _ hp).mono ?_; rintro e w' ⟨rfl, k, os, rfl⟩)
  go_ret
  exact ⟨rfl, Lib.below_grow _ _ (Nat.le_refl _) k os⟩

theorem lit_convD (x : UInt8) (W : World) : (convert 50 9 (.slice (some ⟨W.heap.size, 0, none⟩) 1 1)).run Tryd.prog (W.alloc (.cells #[.int .u8 (x.toNat : Int)] 5)).drew = .ok (.string (str [x])) (W.alloc (.cells #[.int .u8 (x.toNat : Int)] 5)).drew :=
  conv_own (l := [x]) Tryd.underlying50 Tryd.underlying5 (World.ownsRow_lit (base := 0) (e := 5) (size := 1) W #[.int .u8 (x.toNat : Int)] 1 (by omega) (by decide) rfl).drew 9 Tryd.underlying9

theorem conv_lit_below {x : UInt8} {c : Int} {W w1 : World} (hx : (x.toNat : Int) = c) (hb : Below (W.alloc (.cells #[.int .u8 c] 5)).drew.heap.size (W.alloc (.cells #[.int .u8 c] 5)).drew w1) :
    (convert 50 9 (.slice (some ⟨W.heap.size, 0, none⟩) 1 1)).run Tryd.prog w1 = .ok (.string (str [x])) w1 := by
  subst hx
  exact conv_own (l := [x]) Tryd.underlying50 Tryd.underlying5 (own_below (World.ownsRow_lit (base := 0) (e := 5) (size := 1) W #[.int .u8 (x.toNat : Int)] 1 (by omega) (by decide) rfl).drew hb) 9 Tryd.underlying9

theorem cell_b {W W1 : World} {b o : Nat} (h : W1.heap[b]? = W.heap[b]?) : W1.cell? ⟨b, o, none⟩ = W.cell? ⟨b, o, none⟩ := by simp [World.cell?, h]

end Go.Proofs.YtchnmbfeaaialaaDoor
