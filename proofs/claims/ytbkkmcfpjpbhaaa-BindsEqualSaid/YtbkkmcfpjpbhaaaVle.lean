/- The law BindsEqual. -/
import Derived.Test.YtbkkmcfpjpbhaaaVlc
namespace Go.Proofs.Ytbkkmcfpjpbhaaa
open Go.RowKit Go.PlainAid

/-- What a name with a set means, as meaning says it. -/
def mnB (T : List Bd) (b : Bd) : Bd := (meanB T b.n b.s).1
theorem same_ok {T : List Bd} {a b : Bd} (h : (sameE T a b).2 = 0) : sameE T a b = (decide (mnB T a = mnB T b), 0) := by
  unfold sameE at h ⊢
  unfold mnB
  by_cases h1 : withE T [a.s, b.s] = 0
  · rw [if_neg (by simpa using h1)] at h ⊢
    by_cases h2 : (meanB T a.n a.s).2 = 0
    · rw [if_neg (by simpa using h2)] at h ⊢
      by_cases h3 : (meanB T b.n b.s).2 = 0
      · rw [if_neg (by simpa using h3)]
      · rw [if_pos h3] at h; exact absurd h h3
    · rw [if_pos h2] at h; exact absurd h h2
  · rw [if_pos h1] at h; exact absurd h h1
theorem same_no {T : List Bd} {a b : Bd} (h : (sameE T a b).2 ≠ 0) : (sameE T a b).1 = false := by
  unfold sameE at h ⊢
  by_cases h1 : withE T [a.s, b.s] = 0
  · rw [if_neg (by simpa using h1)] at h ⊢
    by_cases h2 : (meanB T a.n a.s).2 = 0
    · rw [if_neg (by simpa using h2)] at h ⊢
      by_cases h3 : (meanB T b.n b.s).2 = 0
      · rw [if_neg (by simpa using h3)] at h; exact absurd rfl h
      · rw [if_pos h3]
    · rw [if_pos h2]
  · rw [if_pos h1]
/-- The binding with this number. -/
def at3 (x y z : Bd) (i : Nat) : Bd := if i = 0 then x else if i = 1 then y else z
/-- The table of answers, as far as it is filled. -/
def ansC (q : Nat → Nat → Bool) (p : Nat) : List Value := (List.range 9).map fun j => Value.bool (decide (j < p) && q (j / 3) (j % 3))
theorem ansC_at (q : Nat → Nat → Bool) (p j : Nat) (hj : j < 9) : (ansC q p)[j]? = some (Value.bool (decide (j < p) && q (j / 3) (j % 3))) := by
  unfold ansC
  rw [List.getElem?_map, List.getElem?_range hj]; rfl
theorem ansC_set (q : Nat → Nat → Bool) (p : Nat) (hp : p < 9) : (ansC q p).set p (Value.bool (q (p / 3) (p % 3))) = ansC q (p + 1) := by
  apply List.ext_getElem?
  intro j
  by_cases hj : j < 9
  · rw [List.getElem?_set, ansC_at q (p + 1) j hj]
    by_cases e : p = j
    · subst e
      rw [if_pos rfl, if_pos (by unfold ansC; simpa using hp)]
      simp
    · rw [if_neg e, ansC_at q p j hj]
      have : decide (j < p) = decide (j < p + 1) := by rw [Bool.eq_iff_iff, decide_eq_true_iff, decide_eq_true_iff]; omega
      rw [this]
  · have h1 : ((ansC q p).set p (Value.bool (q (p / 3) (p % 3)))).length = 9 := by unfold ansC; simp
    have h2 : (ansC q (p + 1)).length = 9 := by unfold ansC; simp
    rw [List.getElem?_eq_none (by omega), List.getElem?_eq_none (by omega)]
def AnsAt (W : World) (n : Nat) (q : Nat → Nat → Bool) (p : Nat) : Prop := W.heap[n]? = some (.cells (ansC q p).toArray 52 (0, 0))
theorem AnsAt.cell {W : World} {n : Nat} {q : Nat → Nat → Bool} {p : Nat} (h : AnsAt W n q p) {j : Nat} (hj : j < 9) : W.cell? ⟨n, j, none⟩ = some (.bool (decide (j < p) && q (j / 3) (j % 3))) ∧ W.frozen? ⟨n, j, none⟩ = false := by
  unfold AnsAt at h
  refine ⟨?_, by simp [World.frozen?, h]⟩
  simp only [World.cell?, h]
  rw [List.getElem?_toArray, ansC_at q p j hj]
  rfl
theorem AnsAt.set {W : World} {n : Nat} {q : Nat → Nat → Bool} {p : Nat} (h : AnsAt W n q p) (hp : p < 9) {b : Bool} (hb : b = q (p / 3) (p % 3)) : AnsAt (W.setCell ⟨n, p, none⟩ (.bool b)) n q (p + 1) := by
  subst hb
  unfold AnsAt at h ⊢
  rw [← ansC_set q p hp]
  simp [World.setCell, Array.getElem?_modify, h]
theorem AnsAt.below {B : Nat} {W W' : World} {n : Nat} {q : Nat → Nat → Bool} {p : Nat} (h : AnsAt W n q p) (hb : Below B W W') (hn : n < B) : AnsAt W' n q p := (hb.block n hn).trans h
theorem ansC_zero (q : Nat → Nat → Bool) : ansC q 0 = [.bool false, .bool false, .bool false, .bool false, .bool false, .bool false, .bool false, .bool false, .bool false] := by
  unfold ansC; simp [List.range_succ]
set_option maxRecDepth 100000 in
set_option maxHeartbeats 12800000 in
theorem lawEq_any (v : Value) (T : List Bd) (x y z : Bd) (w : World) (h : BsAt w v T) :
    Calls Try.prog 9 #[v, .agg (bcs [x, y, z]).toArray] w fun e w' => e = .returned (.bool true) ∧ Below w.heap.size w w' := by
  have CAw := Lib.hid (fun W => awakeB_any W)
  have CF := Lib.hid (fun W v2 (hW : Below w.heap.size w W) (h2 : SsAt W v2 [x.n, x.s, y.n, y.s, z.n, z.s]) => far_any v v2 T [x.n, x.s, y.n, y.s, z.n, z.s] W (h.below hW (Nat.le_refl _)) h2 (by simp))
  have HV := Lib.hid (fun W (hW : Below w.heap.size w W) => h.below hW (Nat.le_refl _))
  have HFar : Hid (farB T [x.n, x.s, y.n, y.s, z.n, z.s] = false → SmB T ∧ x.s.length ≤ 100000 ∧ y.s.length ≤ 100000 ∧ z.s.length ≤ 100000) := Lib.hid fun e => by
    obtain ⟨_, h2, h3, h4⟩ := far_no e
    have e1 := h4 x.s (by simp)
    have e2 := h4 y.s (by simp)
    have e3 := h4 z.s (by simp)
    exact ⟨smB_ofV h3, by omega, by omega, by omega⟩
  have CM : Hid (∀ (i k : Nat) (e0 : SmB T) (e1 : x.s.length ≤ 100000) (e2 : y.s.length ≤ 100000) (e3 : z.s.length ≤ 100000) W (hW : Below w.heap.size w W), Calls Try.prog 22 #[v, bdA (at3 x y z i), bdA (at3 x y z k)] W fun e w' => e = .returned (sameV (sameE T (at3 x y z i) (at3 x y z k))) ∧ Below W.heap.size W w') := Lib.hid fun i k e0 e1 e2 e3 W hW =>
    Same_any v T _ _ W (HV.out W hW) e0 (by unfold at3; (repeat' split) <;> assumption) (by unfold at3; (repeat' split) <;> assumption)
  obtain ⟨a0, c0, hv, -⟩ := h.slice
  obtain ⟨m, hm⟩ : ∃ m, T.length = m := ⟨_, rfl⟩
  rw [hm] at hv
  subst hv
  have HNode : Hid (∀ i, i < 3 → [x, y, z][i]? = some (at3 x y z i)) := Lib.hid fun i hi => by
    match i, hi with
    | 0, _ => rfl
    | 1, _ => rfl
    | 2, _ => rfl
  have HA : Hid (#[Value.string (str x.n), .string (str x.s), .string (str y.n), .string (str y.s), .string (str z.n), .string (str z.s)] = ([x.n, x.s, y.n, y.s, z.n, z.s].map fun x => Value.string (str x)).toArray) := Lib.hid rfl
  have e0 : bcs [x, y, z] = [.string (str x.n), .string (str x.s), .int .i64 x.p, .int .i64 x.r, .string (str y.n), .string (str y.s), .int .i64 y.p, .int .i64 y.r, .string (str z.n), .string (str z.s), .int .i64 z.p, .int .i64 z.r] := rfl
  have HBx : Hid (∀ W n t, BsAt ((W : World).alloc (.cells #[.string (str x.n), .string (str x.s), .int .i64 x.p, .int .i64 x.r, .string (str y.n), .string (str y.s), .int .i64 y.p, .int .i64 y.r, .string (str z.n), .string (str z.s), .int .i64 z.p, .int .i64 z.r] t)) (.slice (some ⟨n, 0, none⟩) 3 3) [x, y, z] ∨ n ≠ W.heap.size) := Lib.hid fun W n t => by
    by_cases hn : n = W.heap.size
    · left
      subst hn
      refine ⟨_, 3, 3, rfl, rfl, Nat.le_refl _, .inr ⟨W.heap.size, 0, rfl, by rw [World.size_alloc]; omega, fun j u hj => ?_⟩⟩
      have := new_cells W (bcs [x, y, z]) t j u hj
      rw [Go.WideShapes.add_plain] at this; exact this
    · exact .inr hn
  rw [e0]
  show Calls _ _ #[_, .agg #[.string (str x.n), .string (str x.s), .int .i64 x.p, .int .i64 x.r, .string (str y.n), .string (str y.s), .int .i64 y.p, .int .i64 y.r, .string (str z.n), .string (str z.s), .int .i64 z.p, .int .i64 z.r]] _ _
  obtain ⟨q, hq⟩ : ∃ q : Nat → Nat → Bool, q = fun i k => decide (mnB T (at3 x y z i) = mnB T (at3 x y z k)) := ⟨_, rfl⟩
  have HQd : Hid (∀ i k, (sameE T (at3 x y z i) (at3 x y z k)).2 = 0 → sameV (sameE T (at3 x y z i) (at3 x y z k)) = .tuple #[.bool (q i k), .int .i64 0]) := Lib.hid fun i k e => by rw [same_ok e, hq]; rfl
  have HQn : Hid (∀ i k, (sameE T (at3 x y z i) (at3 x y z k)).2 ≠ 0 → sameV (sameE T (at3 x y z i) (at3 x y z k)) = .tuple #[.bool false, .int .i64 (sameE T (at3 x y z i) (at3 x y z k)).2]) := Lib.hid fun i k e => by unfold sameV; rw [same_no e]
  have HQr : Hid (∀ i, q i i = true) := Lib.hid fun i => by rw [hq]; exact decide_eq_true rfl
  have HQs : Hid (∀ i k, q k i = q i k) := Lib.hid fun i k => by rw [hq]; simp only; rw [Bool.eq_iff_iff, decide_eq_true_iff, decide_eq_true_iff]; exact ⟨Eq.symm, Eq.symm⟩
  have HQt : Hid (∀ i j k, q i j = true → q j k = true → q i k = true) := Lib.hid fun i j k h1 h2 => by
    rw [hq] at h1 h2 ⊢
    exact decide_eq_true ((of_decide_eq_true h1).trans (of_decide_eq_true h2))
  obtain ⟨F, hF⟩ : ∃ F, farB T [x.n, x.s, y.n, y.s, z.n, z.s] = F := ⟨_, rfl⟩
  rw [hF] at CF HFar
  obtain ⟨xn, xs, xp, xr⟩ := x
  obtain ⟨yn, ys, yp, yr⟩ := y
  obtain ⟨zn, zs, zp, zr⟩ := z
  clear h hm hF hq e0
  simp only at HA HBx CF HFar ⊢
  obtain ⟨W0, hW0⟩ : ∃ W0, W0 = w.alloc (.cells #[.string (str xn), .string (str xs), .int .i64 xp, .int .i64 xr, .string (str yn), .string (str ys), .int .i64 yp, .int .i64 yr, .string (str zn), .string (str zs), .int .i64 zp, .int .i64 zr] 50) := ⟨_, rfl⟩
  have hb0 : Below w.heap.size w W0 := by rw [hW0]; exact below_b1 _ _
  have hz0 : W0.heap.size = w.heap.size + 1 := by rw [hW0, World.size_alloc]
  have hB0 : BsAt W0 (.slice (some ⟨w.heap.size, 0, none⟩) 3 3) [⟨xn, xs, xp, xr⟩, ⟨yn, ys, yp, yr⟩, ⟨zn, zs, zp, zr⟩] := by
    rcases HBx.out w w.heap.size 50 with hh | hh
    · rw [hW0]; exact hh
    · exact absurd rfl hh
  have HBX : Hid (∀ W, Below W0.heap.size W0 W → ∀ i, i < 3 → ∀ b, at3 ⟨xn, xs, xp, xr⟩ ⟨yn, ys, yp, yr⟩ ⟨zn, zs, zp, zr⟩ i = b → W.cell? ⟨w.heap.size, i * 4, none⟩ = some (.string (str b.n)) ∧ W.cell? ⟨w.heap.size, i * 4 + 1, none⟩ = some (.string (str b.s)) ∧ W.cell? ⟨w.heap.size, i * 4 + 2, none⟩ = some (.int .i64 b.p) ∧ W.cell? ⟨w.heap.size, i * 4 + 3, none⟩ = some (.int .i64 b.r)) := Lib.hid fun W hW i hi b hb => by
    obtain ⟨g, off, e, _, c0, c1, c2, c3⟩ := (hB0.below hW (Nat.le_refl _)).node (HNode.out i hi)
    have e2 := Option.some.inj e
    injection e2 with e3 e4
    subst e3 e4
    rw [hb] at c0 c1 c2 c3
    simp only [Nat.zero_add] at c0 c1 c2 c3
    exact ⟨c0, c1, c2, c3⟩
  obtain ⟨at3q, hat⟩ : ∃ f : Nat → Bd, f = at3 ⟨xn, xs, xp, xr⟩ ⟨yn, ys, yp, yr⟩ ⟨zn, zs, zp, zr⟩ := ⟨_, rfl⟩
  rw [← hat] at CM HQd HQn HBX
  clear HNode HBx hB0 hat
  go_enter Try.func9, Try.ntmps9
  go_wp2_with fail
  rw [← hW0]
  refine (CF.out _ _ (hb0.alloc hb0.size _) (ss_new W0 [xn, xs, yn, ys, zn, zs] 6 _ rfl _ HA.out _ hz0)).mono ?_
  rintro e w1 ⟨rfl, hb1⟩
  have hX1 : Below W0.heap.size W0 w1 := (below_b1 W0 _).trans (hb1.mono (below_b1 W0 _).size)
  have hw1 := below_step hb0 hX1
  have HZ0 := Lib.hid hz0
  have HB0 := Lib.hid hb0
  clear hW0 hb1 hz0 hb0
  cases F
  · obtain ⟨f0, f1, f2, f3⟩ := HFar.out rfl
    have CM2 := Lib.hid (fun i k W hW => CM.out i k f0 f1 f2 f3 W hW)
    clear CM HFar f0 f1 f2 f3 CF HA HV
    have HAn0 : Hid (AnsAt (w1.alloc (.cells #[.bool false, .bool false, .bool false, .bool false, .bool false, .bool false, .bool false, .bool false, .bool false] 52)) w1.heap.size q 0) := Lib.hid (by
      unfold AnsAt; rw [ansC_zero]; exact World.alloc_heap_new _ _)
    have hX2 : Below W0.heap.size W0 (w1.alloc (.cells #[.bool false, .bool false, .bool false, .bool false, .bool false, .bool false, .bool false, .bool false, .bool false] 52)) := hX1.alloc hX1.size _
    have hsz := hX1.size
    go_wp2_with fail
    -- MARK1
    go_loopw [6] (fun x6 wr => ∃ i : Nat, x6 = .int .i64 (i : Int) ∧ i ≤ 3 ∧ Hid (AnsAt wr w1.heap.size q (i * 3)) ∧ Below W0.heap.size W0 wr) (fun x6 _ => 3 - (intOf x6).toNat)
    case atStart => exact ⟨0, rfl, by omega, HAn0, hX2⟩
    case round =>
      obtain ⟨i, rfl, hi, HAi, hb⟩ := hrel
      have hi0 : (0 : Int) ≤ (i : Int) := Int.natCast_nonneg _
      by_cases hlt : i < 3
      · have hi1 : (i : Int) < 3 := by omega
        obtain ⟨A, hA⟩ : ∃ A, at3q i = A := ⟨_, rfl⟩
        have HAI := Lib.hid (fun W hW => HBX.out W hW i hlt A hA)
        go_wp2_with fail
        -- MARK2
        go_loopw [7] (fun x7 wr => ∃ k : Nat, x7 = .int .i64 (k : Int) ∧ k ≤ 3 ∧ Hid (AnsAt wr w1.heap.size q (i * 3 + k)) ∧ Below W0.heap.size W0 wr) (fun x7 _ => 3 - (intOf x7).toNat)
        case atStart => exact ⟨0, rfl, by omega, HAi, hb⟩
        case round =>
          obtain ⟨k, rfl, hk, HAk, hb2⟩ := hrel
          have hk0 : (0 : Int) ≤ (k : Int) := Int.natCast_nonneg _
          by_cases hlt2 : k < 3
          · have hk1 : (k : Int) < 3 := by omega
            obtain ⟨C, hC⟩ : ∃ C, at3q k = C := ⟨_, rfl⟩
            have HCI := Lib.hid (fun W hW => HBX.out W hW k hlt2 C hC)
            have CS := Lib.hid (fun W hW => CM2.out i k W hW)
            have Hd := Lib.hid (HQd.out i k)
            have Hn := Lib.hid (HQn.out i k)
            rw [hA, hC] at CS Hd Hn
            obtain ⟨⟨bb, er⟩, hR⟩ : ∃ r, sameE T A C = r := ⟨_, rfl⟩
            rw [hR] at CS Hd Hn
            unfold sameV at CS Hd Hn
            simp only [bdA_eq] at CS Hd Hn
            have hdv : (i * 3 + k) / 3 = i := by omega
            have hmd : (i * 3 + k) % 3 = k := by omega
            have HDV := Lib.hid hdv
            have HMD := Lib.hid hmd
            have h9 : i * 3 + k < 9 := by omega
            clear hC hR hdv hmd
            obtain ⟨an, as', ap, ar⟩ := A
            obtain ⟨cn, cs, cp, cr⟩ := C
            simp only at HCI CS
            have HAI' := HAI
            simp only at HAI'
            obtain ⟨X, hX⟩ : ∃ X, str an = X := ⟨_, rfl⟩
            obtain ⟨Y, hY⟩ : ∃ Y, str as' = Y := ⟨_, rfl⟩
            obtain ⟨X2, hX2'⟩ : ∃ X, str cn = X := ⟨_, rfl⟩
            obtain ⟨Y2, hY2'⟩ : ∃ Y, str cs = Y := ⟨_, rfl⟩
            have HK : Hid (∀ W, Below W0.heap.size W0 W → (W.cell? ⟨w.heap.size, i * 4, none⟩ = some (.string X) ∧ W.cell? ⟨w.heap.size, i * 4 + 1, none⟩ = some (.string Y) ∧ W.cell? ⟨w.heap.size, i * 4 + 2, none⟩ = some (.int .i64 ap) ∧ W.cell? ⟨w.heap.size, i * 4 + 3, none⟩ = some (.int .i64 ar)) ∧ W.cell? ⟨w.heap.size, k * 4, none⟩ = some (.string X2) ∧ W.cell? ⟨w.heap.size, k * 4 + 1, none⟩ = some (.string Y2) ∧ W.cell? ⟨w.heap.size, k * 4 + 2, none⟩ = some (.int .i64 cp) ∧ W.cell? ⟨w.heap.size, k * 4 + 3, none⟩ = some (.int .i64 cr)) := Lib.hid fun W hW => by
              rw [← hX, ← hY, ← hX2', ← hY2']
              exact ⟨HAI'.out W hW, HCI.out W hW⟩
            rw [hX, hY, hX2', hY2'] at CS
            obtain ⟨⟨k0, k1, k2, k3⟩, l0, l1, l2, l3⟩ := HK.out _ hb2
            have hbD : Below W0.heap.size W0 wr.drew := ⟨hb2.os, hb2.tape, hb2.output, hb2.size, hb2.block⟩
            have hwD : Below w.heap.size w wr.drew := below_step HB0.out hbD
            clear hX hY hX2' hY2' HAI' HCI
            go_wp2_with fail
            -- MARK3
            go_region_held3 (fun W => (W.cell? ⟨w.heap.size, i * 4, none⟩ = some (.string X) ∧ W.cell? ⟨w.heap.size, i * 4 + 1, none⟩ = some (.string Y) ∧ W.cell? ⟨w.heap.size, i * 4 + 2, none⟩ = some (.int .i64 ap) ∧ W.cell? ⟨w.heap.size, i * 4 + 3, none⟩ = some (.int .i64 ar)) ∧ W.cell? ⟨w.heap.size, k * 4, none⟩ = some (.string X2) ∧ W.cell? ⟨w.heap.size, k * 4 + 1, none⟩ = some (.string Y2) ∧ W.cell? ⟨w.heap.size, k * 4 + 2, none⟩ = some (.int .i64 cp) ∧ W.cell? ⟨w.heap.size, k * 4 + 3, none⟩ = some (.int .i64 cr)) (first | exact HK.out _ (by assumption) | go_keep) (first
              | (go_at_call 22; refine (CS.out _ hwD).mono ?_; rintro e w5 ⟨rfl, hb5⟩; have hb5W : Below W0.heap.size W0 w5 := below_step hbD hb5))
            -- MARK4
            by_cases he : er = 0
            · have hbq : bb = q i k := by
                have h1 := Hd.out he
                have h2 := Value.tuple.inj h1
                have h3 := congrArg Array.toList h2
                simp only [List.cons.injEq, Value.bool.injEq] at h3
                exact h3.1
              subst he
              have HA5 : Hid (AnsAt w5 w1.heap.size q (i * 3 + k)) := Lib.hid (HAk.out.below (below_drew hb5) (by have := hb2.size; have := hsz; exact (Array.getElem?_eq_some_iff.1 HAk.out).1))
              obtain ⟨t0, t1⟩ := HA5.out.cell h9
              have HA6 : Hid (AnsAt (w5.setCell ⟨w1.heap.size, i * 3 + k, none⟩ (.bool bb)) w1.heap.size q (i * 3 + (k + 1))) := Lib.hid (HA5.out.set h9 (by rw [HDV.out, HMD.out]; exact hbq))
              have hb6 : Below W0.heap.size W0 (w5.setCell ⟨w1.heap.size, i * 3 + k, none⟩ (.bool bb)) := hb5W.setCell hsz _
              clear hbq Hd Hn
              go_wp2_with fail
              -- MARK5
              exact ⟨⟨k + 1, by go_num, by omega, HA6, hb6⟩, by simp [intOf]; omega⟩
            · have hbq : bb = false := by
                have h1 := Hn.out he
                have h2 := Value.tuple.inj h1
                have h3 := congrArg Array.toList h2
                simp only [List.cons.injEq, Value.bool.injEq] at h3
                exact h3.1
              subst hbq
              have hne : (er != 0) = true := bne_iff_ne.2 he
              clear Hd Hn he
              go_wp2_with fail
              refine (CAw.out _).mono ?_
              rintro e wz ⟨rfl, hbz⟩
              go_wp2_with fail
              -- MARK6
              go_ret
              exact ⟨rfl, below_step (below_step HB0.out hb5W) hbz⟩
          · obtain rfl : k = 3 := by omega
            have HA7 : Hid (AnsAt wr w1.heap.size q ((i + 1) * 3)) := Lib.hid (by have := HAk.out; rw [show i * 3 + 3 = (i + 1) * 3 by omega] at this; exact this)
            go_wp2_with fail
            exact ⟨⟨i + 1, by go_num, by omega, HA7, hb2⟩, by simp [intOf]; omega⟩
      · obtain rfl : i = 3 := by omega
        obtain ⟨WR, hWR⟩ : ∃ WR, WR = wr := ⟨_, rfl⟩
        have HQ9 : Hid (∀ W, Below WR.heap.size WR W → ∀ a b, a < 3 → b < 3 → W.cell? ⟨w1.heap.size, a * 3 + b, none⟩ = some (.bool (q a b))) := Lib.hid fun W hW a b ha hb9 => by
          have h1 := ((by rw [hWR]; exact HAi.out : AnsAt WR w1.heap.size q (3 * 3)).below hW (by rw [hWR]; exact (Array.getElem?_eq_some_iff.1 HAi.out).1)).cell (j := a * 3 + b) (by omega)
          rw [show (a * 3 + b) / 3 = a by omega, show (a * 3 + b) % 3 = b by omega, decide_eq_true (by omega), Bool.true_and] at h1
          exact h1.1
        have HBW : Hid (Below W0.heap.size W0 WR) := Lib.hid (by rw [hWR]; exact hb)
        clear HAi HAn0 CM2 HQd HQn HBX
        go_wp2_with fail
        -- MARK7
        go_loopw [10] (fun x10 wq => ∃ i : Nat, x10 = .int .i64 (i : Int) ∧ i ≤ 3 ∧ Below WR.heap.size WR wq) (fun x10 _ => 3 - (intOf x10).toNat)
        case atStart => exact ⟨0, rfl, by omega, by rw [← hWR]; exact Below.refl _ _⟩
        case round =>
          obtain ⟨i, rfl, hi, hbq⟩ := hrel
          have hi0 : (0 : Int) ≤ (i : Int) := Int.natCast_nonneg _
          by_cases hlt : i < 3
          · have hi1 : (i : Int) < 3 := by omega
            go_wp2_with fail
            go_loopw [11] (fun x11 wq => ∃ k : Nat, x11 = .int .i64 (k : Int) ∧ k ≤ 3 ∧ Below WR.heap.size WR wq) (fun x11 _ => 3 - (intOf x11).toNat)
            case atStart => exact ⟨0, rfl, by omega, hbq⟩
            case round =>
              obtain ⟨k, rfl, hk, hbk⟩ := hrel
              by_cases hlt2 : k < 3
              · have hi3 : i = 0 ∨ i = 1 ∨ i = 2 := by omega
                have hk3 : k = 0 ∨ k = 1 ∨ k = 2 := by omega
                clear hlt hlt2 hi hk hi0 hi1
                rcases hi3 with rfl | rfl | rfl <;> rcases hk3 with rfl | rfl | rfl
                · have g1 := HQ9.out wr hbk 0 0 (by omega) (by omega)
                  have g2 := HQ9.out wr hbk 0 0 (by omega) (by omega)
                  have g3 := HQ9.out wr hbk 0 1 (by omega) (by omega)
                  have g4 := HQ9.out wr hbk 0 1 (by omega) (by omega)
                  rw [HQr.out 0] at g1 g2
                  simp only [Nat.reduceMul, Nat.reduceAdd] at g1 g2 g3 g4
                  obtain ⟨c1, hc1⟩ : ∃ c, q 0 1 = c := ⟨_, rfl⟩
                  rw [hc1] at g3 g4
                  clear hc1
                  cases c1
                  · go_wp2_with fail
                    go_quiet (fail)
                    go_wp2_with fail
                    exact ⟨⟨0 + 1, by go_num, by omega, ⟨hbk.os, hbk.tape, hbk.output, hbk.size, hbk.block⟩⟩, by simp [intOf]⟩
                  · go_wp2_with fail
                    go_quiet (fail)
                    go_wp2_with fail
                    exact ⟨⟨0 + 1, by go_num, by omega, ⟨hbk.os, hbk.tape, hbk.output, hbk.size, hbk.block⟩⟩, by simp [intOf]⟩
                · have g1 := HQ9.out wr hbk 0 1 (by omega) (by omega)
                  have g2 := HQ9.out wr hbk 1 0 (by omega) (by omega)
                  have g3 := HQ9.out wr hbk 1 2 (by omega) (by omega)
                  have g4 := HQ9.out wr hbk 0 2 (by omega) (by omega)
                  rw [HQs.out 0 1] at g2
                  simp only [Nat.reduceMul, Nat.reduceAdd] at g1 g2 g3 g4
                  have ht := HQt.out 0 1 2
                  obtain ⟨b1, hb1'⟩ : ∃ c, q 0 1 = c := ⟨_, rfl⟩
                  obtain ⟨c1, hc1⟩ : ∃ c, q 1 2 = c := ⟨_, rfl⟩
                  obtain ⟨d1, hd1⟩ : ∃ c, q 0 2 = c := ⟨_, rfl⟩
                  rw [hb1', hc1, hd1] at ht
                  rw [hb1'] at g1 g2
                  rw [hc1] at g3
                  rw [hd1] at g4
                  clear hb1' hc1 hd1
                  cases b1
                  · clear ht
                    go_wp2_with fail
                    go_quiet (fail)
                    go_wp2_with fail
                    exact ⟨⟨1 + 1, by go_num, by omega, ⟨hbk.os, hbk.tape, hbk.output, hbk.size, hbk.block⟩⟩, by simp [intOf]⟩
                  · cases c1
                    · clear ht
                      go_wp2_with fail
                      go_quiet (fail)
                      go_wp2_with fail
                      exact ⟨⟨1 + 1, by go_num, by omega, ⟨hbk.os, hbk.tape, hbk.output, hbk.size, hbk.block⟩⟩, by simp [intOf]⟩
                    · have hd := ht rfl rfl
                      subst hd
                      clear ht
                      go_wp2_with fail
                      go_quiet (fail)
                      go_wp2_with fail
                      exact ⟨⟨1 + 1, by go_num, by omega, ⟨hbk.os, hbk.tape, hbk.output, hbk.size, hbk.block⟩⟩, by simp [intOf]⟩
                · have g1 := HQ9.out wr hbk 0 2 (by omega) (by omega)
                  have g2 := HQ9.out wr hbk 2 0 (by omega) (by omega)
                  have g4 := HQ9.out wr hbk 0 0 (by omega) (by omega)
                  rw [HQs.out 0 2] at g2
                  rw [HQr.out 0] at g4
                  simp only [Nat.reduceMul, Nat.reduceAdd] at g1 g2 g4
                  obtain ⟨b1, hb1'⟩ : ∃ c, q 0 2 = c := ⟨_, rfl⟩
                  rw [hb1'] at g1 g2
                  clear hb1'
                  cases b1
                  · go_wp2_with fail
                    go_quiet (fail)
                    go_wp2_with fail
                    exact ⟨⟨2 + 1, by go_num, by omega, ⟨hbk.os, hbk.tape, hbk.output, hbk.size, hbk.block⟩⟩, by simp [intOf]⟩
                  · go_wp2_with fail
                    go_quiet (fail)
                    go_wp2_with fail
                    exact ⟨⟨2 + 1, by go_num, by omega, ⟨hbk.os, hbk.tape, hbk.output, hbk.size, hbk.block⟩⟩, by simp [intOf]⟩
                · have g1 := HQ9.out wr hbk 1 0 (by omega) (by omega)
                  have g2 := HQ9.out wr hbk 0 1 (by omega) (by omega)
                  have g4 := HQ9.out wr hbk 1 1 (by omega) (by omega)
                  rw [HQs.out 1 0] at g2
                  rw [HQr.out 1] at g4
                  simp only [Nat.reduceMul, Nat.reduceAdd] at g1 g2 g4
                  obtain ⟨b1, hb1'⟩ : ∃ c, q 1 0 = c := ⟨_, rfl⟩
                  rw [hb1'] at g1 g2
                  clear hb1'
                  cases b1
                  · go_wp2_with fail
                    go_quiet (fail)
                    go_wp2_with fail
                    exact ⟨⟨0 + 1, by go_num, by omega, ⟨hbk.os, hbk.tape, hbk.output, hbk.size, hbk.block⟩⟩, by simp [intOf]⟩
                  · go_wp2_with fail
                    go_quiet (fail)
                    go_wp2_with fail
                    exact ⟨⟨0 + 1, by go_num, by omega, ⟨hbk.os, hbk.tape, hbk.output, hbk.size, hbk.block⟩⟩, by simp [intOf]⟩
                · have g1 := HQ9.out wr hbk 1 1 (by omega) (by omega)
                  have g2 := HQ9.out wr hbk 1 1 (by omega) (by omega)
                  have g3 := HQ9.out wr hbk 1 2 (by omega) (by omega)
                  have g4 := HQ9.out wr hbk 1 2 (by omega) (by omega)
                  rw [HQr.out 1] at g1 g2
                  simp only [Nat.reduceMul, Nat.reduceAdd] at g1 g2 g3 g4
                  obtain ⟨c1, hc1⟩ : ∃ c, q 1 2 = c := ⟨_, rfl⟩
                  rw [hc1] at g3 g4
                  clear hc1
                  cases c1
                  · go_wp2_with fail
                    go_quiet (fail)
                    go_wp2_with fail
                    exact ⟨⟨1 + 1, by go_num, by omega, ⟨hbk.os, hbk.tape, hbk.output, hbk.size, hbk.block⟩⟩, by simp [intOf]⟩
                  · go_wp2_with fail
                    go_quiet (fail)
                    go_wp2_with fail
                    exact ⟨⟨1 + 1, by go_num, by omega, ⟨hbk.os, hbk.tape, hbk.output, hbk.size, hbk.block⟩⟩, by simp [intOf]⟩
                · have g1 := HQ9.out wr hbk 1 2 (by omega) (by omega)
                  have g2 := HQ9.out wr hbk 2 1 (by omega) (by omega)
                  have g3 := HQ9.out wr hbk 2 0 (by omega) (by omega)
                  have g4 := HQ9.out wr hbk 1 0 (by omega) (by omega)
                  rw [HQs.out 1 2] at g2
                  simp only [Nat.reduceMul, Nat.reduceAdd] at g1 g2 g3 g4
                  have ht := HQt.out 1 2 0
                  obtain ⟨b1, hb1'⟩ : ∃ c, q 1 2 = c := ⟨_, rfl⟩
                  obtain ⟨c1, hc1⟩ : ∃ c, q 2 0 = c := ⟨_, rfl⟩
                  obtain ⟨d1, hd1⟩ : ∃ c, q 1 0 = c := ⟨_, rfl⟩
                  rw [hb1', hc1, hd1] at ht
                  rw [hb1'] at g1 g2
                  rw [hc1] at g3
                  rw [hd1] at g4
                  clear hb1' hc1 hd1
                  cases b1
                  · clear ht
                    go_wp2_with fail
                    go_quiet (fail)
                    go_wp2_with fail
                    exact ⟨⟨2 + 1, by go_num, by omega, ⟨hbk.os, hbk.tape, hbk.output, hbk.size, hbk.block⟩⟩, by simp [intOf]⟩
                  · cases c1
                    · clear ht
                      go_wp2_with fail
                      go_quiet (fail)
                      go_wp2_with fail
                      exact ⟨⟨2 + 1, by go_num, by omega, ⟨hbk.os, hbk.tape, hbk.output, hbk.size, hbk.block⟩⟩, by simp [intOf]⟩
                    · have hd := ht rfl rfl
                      subst hd
                      clear ht
                      go_wp2_with fail
                      go_quiet (fail)
                      go_wp2_with fail
                      exact ⟨⟨2 + 1, by go_num, by omega, ⟨hbk.os, hbk.tape, hbk.output, hbk.size, hbk.block⟩⟩, by simp [intOf]⟩
                · have g1 := HQ9.out wr hbk 2 0 (by omega) (by omega)
                  have g2 := HQ9.out wr hbk 0 2 (by omega) (by omega)
                  have g3 := HQ9.out wr hbk 0 1 (by omega) (by omega)
                  have g4 := HQ9.out wr hbk 2 1 (by omega) (by omega)
                  rw [HQs.out 2 0] at g2
                  simp only [Nat.reduceMul, Nat.reduceAdd] at g1 g2 g3 g4
                  have ht := HQt.out 2 0 1
                  obtain ⟨b1, hb1'⟩ : ∃ c, q 2 0 = c := ⟨_, rfl⟩
                  obtain ⟨c1, hc1⟩ : ∃ c, q 0 1 = c := ⟨_, rfl⟩
                  obtain ⟨d1, hd1⟩ : ∃ c, q 2 1 = c := ⟨_, rfl⟩
                  rw [hb1', hc1, hd1] at ht
                  rw [hb1'] at g1 g2
                  rw [hc1] at g3
                  rw [hd1] at g4
                  clear hb1' hc1 hd1
                  cases b1
                  · clear ht
                    go_wp2_with fail
                    go_quiet (fail)
                    go_wp2_with fail
                    exact ⟨⟨0 + 1, by go_num, by omega, ⟨hbk.os, hbk.tape, hbk.output, hbk.size, hbk.block⟩⟩, by simp [intOf]⟩
                  · cases c1
                    · clear ht
                      go_wp2_with fail
                      go_quiet (fail)
                      go_wp2_with fail
                      exact ⟨⟨0 + 1, by go_num, by omega, ⟨hbk.os, hbk.tape, hbk.output, hbk.size, hbk.block⟩⟩, by simp [intOf]⟩
                    · have hd := ht rfl rfl
                      subst hd
                      clear ht
                      go_wp2_with fail
                      go_quiet (fail)
                      go_wp2_with fail
                      exact ⟨⟨0 + 1, by go_num, by omega, ⟨hbk.os, hbk.tape, hbk.output, hbk.size, hbk.block⟩⟩, by simp [intOf]⟩
                · have g1 := HQ9.out wr hbk 2 1 (by omega) (by omega)
                  have g2 := HQ9.out wr hbk 1 2 (by omega) (by omega)
                  have g4 := HQ9.out wr hbk 2 2 (by omega) (by omega)
                  rw [HQs.out 2 1] at g2
                  rw [HQr.out 2] at g4
                  simp only [Nat.reduceMul, Nat.reduceAdd] at g1 g2 g4
                  obtain ⟨b1, hb1'⟩ : ∃ c, q 2 1 = c := ⟨_, rfl⟩
                  rw [hb1'] at g1 g2
                  clear hb1'
                  cases b1
                  · go_wp2_with fail
                    go_quiet (fail)
                    go_wp2_with fail
                    exact ⟨⟨1 + 1, by go_num, by omega, ⟨hbk.os, hbk.tape, hbk.output, hbk.size, hbk.block⟩⟩, by simp [intOf]⟩
                  · go_wp2_with fail
                    go_quiet (fail)
                    go_wp2_with fail
                    exact ⟨⟨1 + 1, by go_num, by omega, ⟨hbk.os, hbk.tape, hbk.output, hbk.size, hbk.block⟩⟩, by simp [intOf]⟩
                · have g1 := HQ9.out wr hbk 2 2 (by omega) (by omega)
                  have g2 := HQ9.out wr hbk 2 2 (by omega) (by omega)
                  have g3 := HQ9.out wr hbk 2 0 (by omega) (by omega)
                  have g4 := HQ9.out wr hbk 2 0 (by omega) (by omega)
                  rw [HQr.out 2] at g1 g2
                  simp only [Nat.reduceMul, Nat.reduceAdd] at g1 g2 g3 g4
                  obtain ⟨c1, hc1⟩ : ∃ c, q 2 0 = c := ⟨_, rfl⟩
                  rw [hc1] at g3 g4
                  clear hc1
                  cases c1
                  · go_wp2_with fail
                    go_quiet (fail)
                    go_wp2_with fail
                    exact ⟨⟨2 + 1, by go_num, by omega, ⟨hbk.os, hbk.tape, hbk.output, hbk.size, hbk.block⟩⟩, by simp [intOf]⟩
                  · go_wp2_with fail
                    go_quiet (fail)
                    go_wp2_with fail
                    exact ⟨⟨2 + 1, by go_num, by omega, ⟨hbk.os, hbk.tape, hbk.output, hbk.size, hbk.block⟩⟩, by simp [intOf]⟩
              · obtain rfl : k = 3 := by omega
                go_wp2_with fail
                exact ⟨⟨i + 1, by go_num, by omega, hbk⟩, by simp [intOf]; omega⟩
          · obtain rfl : i = 3 := by omega
            go_wp2_with fail
            refine (CAw.out _).mono ?_
            rintro e wz ⟨rfl, hbz⟩
            go_wp2_with fail
            go_ret
            exact ⟨rfl, below_step (below_step HB0.out (below_step HBW.out hbq)) hbz⟩
  · go_wp2_with fail
    refine (CAw.out _).mono ?_
    rintro e wz ⟨rfl, hbz⟩
    go_wp2_with fail
    go_ret
    exact ⟨rfl, below_step hw1 hbz⟩
-- MARK9
end Go.Proofs.Ytbkkmcfpjpbhaaa
