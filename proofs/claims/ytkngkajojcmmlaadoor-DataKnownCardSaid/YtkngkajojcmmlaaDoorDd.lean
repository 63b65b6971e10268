import Derived.Test.YtkngkajojcmmlaaDoorDb
import Derived.RangeFuncNested
import Derived.Laws.EntriesVeiled
import Derived.Test.YtkngkajojcmmlaaDoorDa
import Derived.Test.YtkngkajojcmmlaaDoorDc
import Derived.Deep.RegionHeld
/- Ends of all subtrees: the closure that walks. -/
namespace Go.Proofs.YtkngkajojcmmlaaDoor
open Go.RowKit Go.PlainAid

/-- The closure that walks. -/
def walkF (B : Nat) : Value := .func (.func 89) #[] #[.pointer (some ⟨B + 3, 0, none⟩), .pointer (some ⟨B, 0, none⟩), .pointer (some ⟨B + 4, 0, none⟩), .pointer (some ⟨B + 1, 0, none⟩)]
/-- The variables of endsOf, from block B on: the numbers of children, the ends (the box and the array), the next node, the closure. -/
structure WInv (B n : Nat) (kv : Value) (W : World) (i : Nat) (es : List Nat) : Prop where
  kids : Boxed W B 30 kv
  ends : Boxed W (B + 1) 30 (.slice (some ⟨B + 2, 0, none⟩) n n)
  row : W.ownsRow B 3 1 (.slice (some ⟨B + 2, 0, none⟩) n n) n (natV es)
  next : Boxed W (B + 3) 3 (.int .i64 (i : Int))
  walk : Boxed W (B + 4) 24 (walkF B)
theorem WInv.setNext {B n : Nat} {kv : Value} {W : World} {i : Nat} {es : List Nat} (h : WInv B n kv W i es) (q : Nat) : WInv B n kv (W.setCell ⟨B + 3, 0, none⟩ (.int .i64 (q : Int))) q es :=
  ⟨h.kids.other (by omega) _, h.ends.other (by omega) _, ownsRow_setCell_other h.row (by simp [Value.ownBlock]) _, h.next.set _, h.walk.other (by omega) _⟩
theorem WInv.setEnd {B n : Nat} {kv : Value} {W : World} {i : Nat} {es : List Nat} (h : WInv B n kv W i es) (j q : Nat) : WInv B n kv (W.setCell ⟨B + 2, j, none⟩ (.int .i64 (q : Int))) i (es.set j q) := by
  obtain ⟨h1, h2⟩ := h.row.stored j (.int .i64 (q : Int))
  rw [natV_set] at h1
  exact ⟨h.kids.kept h2 (by simp), h.ends.kept h2 (by simp), h1, h.next.kept h2 (by simp), h.walk.kept h2 (by simp)⟩
theorem WInv.endCell {B n : Nat} {kv : Value} {W : World} {i : Nat} {es : List Nat} (h : WInv B n kv W i es) (j : Nat) : W.frozen? ⟨B + 2, j, none⟩ = false := h.row.frozenAt j

set_option maxRecDepth 50000 in
set_option maxHeartbeats 3200000 in
theorem walk_any (B n c : Nat) (a : Option Addr) (ks : List Nat) (w0 : World) (hn : ks.length = n) (hl : n ≤ 2000)
    (HK : Hid (0 < n → ∃ g o, a = some ⟨g, o, none⟩ ∧ g < B ∧ ∀ (j q : Nat), ks[j]? = some q → w0.cell? ⟨g, o + j, none⟩ = some (.int .i64 (q : Int)))) :
    ∀ (f i : Nat) (es : List Nat) (W : World), n - i ≤ f → i ≤ n → es.length = n → Hid (WInv B n (.slice a n c) W i es) → Below B w0 W →
    Calls Tryd.prog 89 #[.pointer (some ⟨B + 3, 0, none⟩), .pointer (some ⟨B, 0, none⟩), .pointer (some ⟨B + 4, 0, none⟩), .pointer (some ⟨B + 1, 0, none⟩)] W fun e w' =>
      e = .returned (.bool (eat (ks.drop i) 1).isSome) ∧ Below B w0 w' ∧ ∃ p es', Hid (WInv B n (.slice a n c) w' p es') ∧ es'.length = n ∧ p ≤ n ∧ Hid ((eat (ks.drop i) 1).isSome = true → p = endN ks i ∧ EndsOk ks i p es es') := by
  have HN := Lib.hid hn
  clear hn
  intro f
  induction f with
  | zero =>
    intro i es W hf hi hes HW hb
    obtain rfl : i = n := by omega
    have HE : Hid ((eat (ks.drop i) 1).isSome = false) := Lib.hid (walk_out (by rw [HN.out]; exact Nat.le_refl _))
    have c1 := HW.out.next.cell
    have c2 := HW.out.kids.cell
    clear hf HK
    go_enter Tryd.func89, Tryd.ntmps89
    go_wp2
    go_ret
    exact ⟨ret_bool (by rw [HE.out]), hb, i, es, HW, hes, Nat.le_refl _, Lib.hid (fun h => by rw [HE.out] at h; cases h)⟩
  | succ f ih =>
    intro i es W hf hi hes HW hb
    by_cases hin : i = n
    · subst hin
      have HE : Hid ((eat (ks.drop i) 1).isSome = false) := Lib.hid (walk_out (by rw [HN.out]; exact Nat.le_refl _))
      have c1 := HW.out.next.cell
      have c2 := HW.out.kids.cell
      clear hf HK ih
      go_enter Tryd.func89, Tryd.ntmps89
      go_wp2
      go_ret
      exact ⟨ret_bool (by rw [HE.out]), hb, i, es, HW, hes, Nat.le_refl _, Lib.hid (fun h => by rw [HE.out] at h; cases h)⟩
    · obtain ⟨q, hq⟩ : ∃ q, ks[i]? = some q := ⟨_, List.getElem?_eq_getElem (by rw [HN.out]; omega)⟩
      obtain ⟨g, o, hag, hg, hc⟩ := HK.out (by omega)
      have hcell := hc i q hq
      have IH := Lib.hid ih
      have HQ := Lib.hid hq
      have W1 := Lib.hid (HW.out.setNext (i + 1))
      have hb1 : Below B w0 (W.setCell ⟨B + 3, 0, none⟩ (.int .i64 ((i + 1 : Nat) : Int))) := hb.setCell (by show B ≤ B + 3; omega) _
      have e1 : (((i + 1 : Nat)) : Int) = (i : Int) + 1 := by omega
      have c1 := HW.out.next.cell
      have f1 := HW.out.next.frozen
      have c2 := HW.out.kids.cell
      have c3 := W1.out.kids.cell
      have c4 := (hb1.cell (p := ⟨g, o + i, none⟩) hg).trans hcell
      rw [e1] at c3 c4 hb1
      have H1 : Hid (∀ W', W' = W.setCell ⟨B + 3, 0, none⟩ (.int .i64 ((i : Int) + 1)) → WInv B n (.slice a n c) W' (i + 1) es ∧ Below B w0 W') := Lib.hid fun W' e => by
        rw [e, ← e1]; exact ⟨W1.out, by rw [e1]; exact hb1⟩
      have hi1 : (i : Int) < (n : Int) := by omega
      have hi0 : (0 : Int) ≤ (i : Int) := Int.natCast_nonneg _
      have hie : ((i : Int) == (n : Int)) = false := beq_eq_false_iff_ne.2 (by omega)
      subst hag
      clear ih hq hcell hc W1 e1 hb1 HK hin
      go_enter Tryd.func89, Tryd.ntmps89
      go_wp2_with fail
      -- MARK1
      go_loopw [17] (fun x wr => ∃ (k p : Nat) (es1 : List Nat), x = .int .i64 (k : Int) ∧ k ≤ q ∧ k ≤ 2000 ∧ Hid (WInv B n (.slice (some ⟨g, o, none⟩) n c) wr p es1) ∧ Hid (WalkAt ks (i + 1) k p) ∧ Hid (EndsOk ks (i + 1) p es es1) ∧ es1.length = n ∧ Below B w0 wr) (fun x _ => q - (intOf x).toNat)
      case atStart => exact ⟨0, i + 1, es, rfl, Nat.zero_le _, by omega, Lib.hid (H1.out _ rfl).1, Lib.hid (walkAt_start (by rw [HN.out]; omega)), Lib.hid (EndsOk.refl _ _ _), hes, (H1.out _ rfl).2⟩
      case round =>
        obtain ⟨k, p, es1, rfl, hk, hk2, HW1, HA, HE1, hes1, hbr⟩ := hrel
        have hp : i + 1 + k ≤ p := walkAt_le (by rw [HN.out]; omega) HA.out
        have hpn : p ≤ n := by rw [← HN.out]; exact HA.out.1
        by_cases hlt : k < q
        · have d1 := HW1.out.walk.cell
          unfold walkF at d1
          have C := Lib.hid (IH.out p es1 wr (by omega) hpn hes1 HW1 hbr)
          obtain ⟨b, hbE⟩ : ∃ b, (eat (ks.drop p) 1).isSome = b := ⟨_, rfl⟩
          rw [hbE] at C
          have HBE := Lib.hid hbE
          clear hbE
          cases b with
          | true =>
            go_wp2_with (go_at_call 89; refine C.out.mono ?_; rintro e w1 ⟨rfl, hb1, p2, es2, HW2, hes2, hp2, HR⟩)
            -- MARK2
            obtain ⟨hp2e, hE2⟩ := HR.out trivial
            have hA2 := walkAt_one (by rw [HN.out]; exact hpn) HBE.out
            rw [← hp2e] at hA2
            have hq2 := walkAt_le (by rw [HN.out]; exact hpn) hA2
            have HA2 := Lib.hid (walkAt_step HA.out hA2)
            have HE3 := Lib.hid (HE1.out.trans hE2 (by omega) (by omega))
            clear hA2 hE2 hp2e
            go_roundw
            case rel => exact ⟨k + 1, p2, es2, by go_num, by omega, by omega, HW2, HA2, HE3, hes2, hb1⟩
            case measure => simp [intOf]; omega
          | false =>
            have HF := Lib.hid (walk_none HQ.out hlt HA.out HBE.out)
            go_wp2_with (go_at_call 89; refine C.out.mono ?_; rintro e w1 ⟨rfl, hb1, p2, es2, HW2, hes2, hp2, HR⟩)
            -- MARK3
            go_ret
            exact ⟨ret_bool (by rw [HF.out]), hb1, p2, es2, HW2, hes2, hp2, Lib.hid (fun h => by rw [HF.out] at h; cases h)⟩
        · obtain rfl : k = q := by omega
          have hW := walkAt_list HQ.out HA.out
          have hE := walkAt_end (by rw [HN.out]; omega) hW
          have HT : Hid ((eat (ks.drop i) 1).isSome = true) := Lib.hid (by rw [hW.2]; rfl)
          have d1 := HW1.out.ends.cell
          have d2 := HW1.out.next.cell
          have f2 := HW1.out.endCell i
          obtain ⟨z, hz⟩ : ∃ z, es1[i]? = some z := ⟨_, List.getElem?_eq_getElem (by omega)⟩
          have d3 := own_cell HW1.out.row (natV_at hz)
          clear hz
          have HW2 := Lib.hid (HW1.out.setEnd i p)
          have HR := Lib.hid (HE1.out.close (by omega) (by omega) hE)
          have HEe := Lib.hid hE
          clear hE hW IH
          go_wp2_with fail
          -- MARK4
          go_ret
          exact ⟨ret_bool (by rw [HT.out]), hbr.setCell (by show B ≤ B + 2; omega) _, p, _, HW2, by rw [List.length_set]; exact hes1, hpn, Lib.hid fun _ => ⟨HEe.out.symm, HR.out⟩⟩
end Go.Proofs.YtkngkajojcmmlaaDoor

/- Ends of all subtrees; Shape. -/
namespace Go.Proofs.YtkngkajojcmmlaaDoor
open Go.RowKit Go.PlainAid

theorem results_boxL {fn : Func} {p t : Tmp} (h : fn.results = #[.cell p 30, .tmp t]) (tmps : Array Value) (W : World) (n : Nat) (v : Value) (hp : tmps.getD p undef = .pointer (some ⟨n, 0, none⟩)) (c0 : W.cell? ⟨n, 0, none⟩ = some v) :
    (results fn tmps).run Tryd.prog W = .ok (.tuple #[v, tmps.getD t undef]) W := by
  have hp' : tmps[p]?.getD undef = .pointer (some ⟨n, 0, none⟩) := by simpa using hp
  simp [results, h, hp', go_sem, c0]
/-- Whether the numbers are those of one flat tree. -/
def trB (ks : List Nat) : Bool := decide (eat ks 1 = some [])
/-- What endsOf returns. -/
def EndV (ks : List Nat) (w : World) (e : Ending) (w' : World) : Prop :=
  ∃ v, e = .returned (.tuple #[v, .bool (trB ks)]) ∧ (trB ks = true → ∃ g, v = .slice (some ⟨g, 0, none⟩) ks.length ks.length ∧ w.heap.size ≤ g ∧ g < w'.heap.size ∧ ∀ (j q : Nat), (endsL ks)[j]? = some q → w'.cell? ⟨g, j, none⟩ = some (.int .i64 (q : Int))) ∧ (trB ks = false → v = .slice none 0 0) ∧ Below w.heap.size w w'
theorem natV_rep (n : Nat) : natV (List.replicate n 0) = List.replicate n (.int .i64 0) := by unfold natV; rw [List.map_replicate]; rfl
theorem trB_none {ks : List Nat} (h : (eat ks 1).isSome = false) : trB ks = false := by
  unfold trB; rw [decide_eq_false]; intro e; rw [e] at h; cases h
theorem trB_less {ks : List Nat} (h : endN ks 0 < ks.length) : trB ks = false := by
  unfold trB; rw [decide_eq_false]; intro e; rw [Tr.end_0 e] at h; omega
theorem trB_all {ks : List Nat} (h : (eat ks 1).isSome = true) (he : endN ks 0 = ks.length) : trB ks = true := by
  unfold trB; rw [decide_eq_true_iff]
  cases hq : eat ks 1 with
  | none => rw [hq] at h; cases h
  | some r =>
    have h3 := (endN_of (ks := ks) (p := 0) (r := r) (Nat.zero_le _) (by rw [List.drop_zero]; exact hq)).2.2
    rw [he, List.drop_length] at h3
    rw [h3]

theorem made_ints (n : Nat) : (madeCells #[.int .i64 0] n).toList = natV (List.replicate n 0) := by
  rw [natV_rep]
  apply List.ext_getElem
  · simp [size_madeCells]
  · intro j h1 h2
    simp [madeCells, Nat.mod_one]
theorem make_ints (u : World) (n : Nat) (hn : n ≤ 1000000) : (Instr.makeSlice 30 (.int .i64 (n : Int)) (.int .i64 (n : Int))).run Tryd.prog u = .ok (.slice (some ⟨u.heap.size, 0, none⟩) n n) (u.alloc (.cells (natV (List.replicate n 0)).toArray 3)) := by
  obtain ⟨i0, hi, hz0, hz1, hz2⟩ := info_parts2 infoSk
  have := run_makeSlice (P := Tryd.prog) u 30 3 i0 (.int .i64 0) Tryd.underlying30 hi hz0 .i64 .i64 n n (by omega) (by omega) (by rw [hz1]; omega) (by rw [hz2]; omega) (by omega)
  rw [← made_ints]
  simpa [hz1, Value.cells] using this
theorem own_ints (u : World) (n : Nat) (hn : n ≤ 1000000) {B : Nat} (hB : B ≤ u.heap.size) : (u.alloc (.cells (natV (List.replicate n 0)).toArray 3)).ownsRow B 3 1 (.slice (some ⟨u.heap.size, 0, none⟩) n n) n (natV (List.replicate n 0)) := by
  have h := own_mk u (natV (List.replicate n 0)) 3 n (by rw [natV_len, List.length_replicate]) (by unfold maxLen; omega)
  exact own_mono h hB

theorem winv_new (w : World) (a : Option Addr) (n c : Nat) (hn : n ≤ 1000000) (W : World)
    (hW : W = (((((w.alloc (.cells #[.slice a n c] 30)).alloc (.cells #[.slice (some ⟨w.heap.size + 1 + 1, 0, none⟩) n n] 30)).alloc (.cells (natV (List.replicate n 0)).toArray 3)).alloc (.cells #[.int .i64 0] 3)).alloc
      (.cells #[.func (.func 89) #[] #[.pointer (some ⟨w.heap.size + 1 + 1 + 1, 0, none⟩), .pointer (some ⟨w.heap.size, 0, none⟩), .pointer (some ⟨w.heap.size + 1 + 1 + 1 + 1, 0, none⟩), .pointer (some ⟨w.heap.size + 1, 0, none⟩)]] 24))) :
    WInv w.heap.size n (.slice a n c) W 0 (List.replicate n 0) ∧ Below w.heap.size w W := by
  subst hW
  refine ⟨⟨?_, ?_, ?_, ?_, ?_⟩, ?_⟩
  · exact ((((Boxed.new w _ _).alloc _).alloc _).alloc _).alloc _
  · have h := Boxed.new (w.alloc (.cells #[.slice a n c] 30)) 30 (.slice (some ⟨w.heap.size + 1 + 1, 0, none⟩) n n)
    rw [World.size_alloc] at h
    exact ((h.alloc _).alloc _).alloc _
  · have h := own_ints ((w.alloc (.cells #[.slice a n c] 30)).alloc (.cells #[.slice (some ⟨w.heap.size + 1 + 1, 0, none⟩) n n] 30)) n hn (B := w.heap.size) (by simp only [World.size_alloc]; omega)
    rw [World.size_alloc, World.size_alloc] at h
    exact (h.alloc _).alloc _
  · have h := Boxed.new (((w.alloc (.cells #[.slice a n c] 30)).alloc (.cells #[.slice (some ⟨w.heap.size + 1 + 1, 0, none⟩) n n] 30)).alloc (.cells (natV (List.replicate n 0)).toArray 3)) 3 (.int .i64 0)
    rw [World.size_alloc, World.size_alloc, World.size_alloc] at h
    exact h.alloc _
  · have h := Boxed.new ((((w.alloc (.cells #[.slice a n c] 30)).alloc (.cells #[.slice (some ⟨w.heap.size + 1 + 1, 0, none⟩) n n] 30)).alloc (.cells (natV (List.replicate n 0)).toArray 3)).alloc (.cells #[.int .i64 0] 3)) 24 (walkF w.heap.size)
    rw [World.size_alloc, World.size_alloc, World.size_alloc, World.size_alloc] at h
    exact h
  · exact (((((Below.refl _ w).alloc (Nat.le_refl _) _).alloc (by simp only [World.size_alloc]; omega) _).alloc (by simp only [World.size_alloc]; omega) _).alloc (by simp only [World.size_alloc]; omega) _).alloc (by simp only [World.size_alloc]; omega) _

set_option maxRecDepth 50000 in
set_option maxHeartbeats 3200000 in
theorem endsOf_any (a : Option Addr) (n c : Nat) (ks : List Nat) (w : World) (hn : ks.length = n) (hl : n ≤ 2000)
    (HK : Hid (0 < n → ∃ g o, a = some ⟨g, o, none⟩ ∧ g < w.heap.size ∧ ∀ (j q : Nat), ks[j]? = some q → w.cell? ⟨g, o + j, none⟩ = some (.int .i64 (q : Int)))) :
    Calls Tryd.prog 70 #[.slice a n c] w (EndV ks w) := by
  have hmk := Lib.hid (fun u => make_ints u n (by omega))
  have h0 := Lib.hid hn
  have hm1 := hmk.out ((w.alloc (.cells #[.slice a n c] 30)).alloc (.cells #[.slice none 0 0] 30))
  have hmf : ∀ (fn : Fn) (first cap : Array Value) (w : World), (Instr.makeFunc fn first cap).run Tryd.prog w = .ok (.func fn first cap) w := fun _ _ _ _ => rfl
  clear hn
  go_enter Tryd.func70, Tryd.ntmps70
  go_wp2_with fail
  -- MARK1
  obtain ⟨W5, hW5⟩ : ∃ W5, W5 = (((((w.alloc (.cells #[.slice a n c] 30)).alloc (.cells #[.slice (some ⟨w.heap.size + 1 + 1, 0, none⟩) n n] 30)).alloc (.cells (natV (List.replicate n 0)).toArray 3)).alloc (.cells #[.int .i64 0] 3)).alloc
      (.cells #[.func (.func 89) #[] #[.pointer (some ⟨w.heap.size + 1 + 1 + 1, 0, none⟩), .pointer (some ⟨w.heap.size, 0, none⟩), .pointer (some ⟨w.heap.size + 1 + 1 + 1 + 1, 0, none⟩), .pointer (some ⟨w.heap.size + 1, 0, none⟩)]] 24)) := ⟨_, rfl⟩
  obtain ⟨hI, hbI⟩ := winv_new w a n c (by omega) W5 hW5
  rw [← hW5]
  have C := Lib.hid (walk_any w.heap.size n c a ks w h0.out hl HK n 0 (List.replicate n 0) W5 (by omega) (Nat.zero_le _) (List.length_replicate ..) (Lib.hid hI) hbI)
  clear hm1 hmk hW5 hI hbI
  refine C.out.mono ?_
  rintro e w1 ⟨rfl, hb1, p, es', HW, hes', hp, HR⟩
  rw [List.drop_zero] at HR ⊢
  have c1 : w1.cell? ⟨w.heap.size + 1 + 1 + 1, 0, none⟩ = some (.int .i64 (p : Int)) := HW.out.next.cell
  have c2 := HW.out.kids.cell
  have c3 := HW.out.ends.cell
  have f3 := HW.out.ends.frozen
  have hlt3 := HW.out.ends.lt
  obtain ⟨b, hb⟩ : ∃ b, (eat ks 1).isSome = b := ⟨_, rfl⟩
  rw [hb] at HR ⊢
  have HB := Lib.hid hb
  clear hb
  cases b with
  | false =>
    have HT := Lib.hid (trB_none HB.out)
    clear HR
    go_wp2_with fail
    -- MARK2
    refine bodyPost_ret (results_boxL rfl _ _ (w.heap.size + 1) _ rfl (World.cell?_setCell_same _ _ _ c3)) rfl ?_
    exact ⟨_, by rw [HT.out]; rfl, fun h => (by rw [HT.out] at h; cases h), fun _ => rfl, hb1.setCell (by show w.heap.size ≤ w.heap.size + 1; omega) _⟩
  | true =>
    by_cases hpn : p < n
    · have HT : Hid (trB ks = false) := Lib.hid (trB_less (by rw [← (HR.out rfl).1, h0.out]; exact hpn))
      have hd : decide ((p : Int) < (n : Int)) = true := decide_eq_true (by omega)
      clear HR
      go_wp2_with fail
      -- MARK3
      refine bodyPost_ret (results_boxL rfl _ _ (w.heap.size + 1) _ rfl (World.cell?_setCell_same _ _ _ c3)) rfl ?_
      exact ⟨_, by rw [HT.out]; rfl, fun h => (by rw [HT.out] at h; cases h), fun _ => rfl, hb1.setCell (by show w.heap.size ≤ w.heap.size + 1; omega) _⟩
    · obtain rfl : p = n := by omega
      have HT : Hid (trB ks = true) := Lib.hid (trB_all HB.out (by rw [← (HR.out rfl).1, h0.out]))
      have HE : Hid (es' = endsL ks) := Lib.hid (by
        have h1 := (HR.out rfl).2
        rw [← h0.out] at h1
        exact h1.whole (by rw [List.length_replicate, h0.out]))
      have hd : decide ((p : Int) < (p : Int)) = false := decide_eq_false (by omega)
      have HRow := Lib.hid HW.out.row
      clear HR
      go_wp2_with fail
      -- MARK4
      refine bodyPost_ret (results_boxL rfl _ _ (w.heap.size + 1) _ rfl (World.cell?_setCell_same _ _ _ c3)) rfl ?_
      have hrow := ownsRow_setCell_other HRow.out (a := ⟨w.heap.size + 1, 0, none⟩) (by simp [Value.ownBlock]) (.slice (some ⟨w.heap.size + 2, 0, none⟩) p p)
      refine ⟨_, by rw [HT.out]; rfl, fun _ => ⟨w.heap.size + 2, by rw [h0.out], by omega, ?_, fun j q hj => ?_⟩, fun h => (by rw [HT.out] at h; cases h), hb1.setCell (by show w.heap.size ≤ w.heap.size + 1; omega) _⟩
      · rcases own_form hrow with ⟨hv, _⟩ | ⟨g, c, hv, _, hg⟩
        · cases hv
        · cases hv; exact hg
      · rw [← HE.out] at hj
        exact own_cell hrow (natV_at hj)
end Go.Proofs.YtkngkajojcmmlaaDoor

/- Trees: treeOf, treeWith. -/
namespace Go.Proofs.YtkngkajojcmmlaaDoor
open Go.RowKit Go.PlainAid

theorem box_facts {W : World} {n : Nat} {x y : Value} {t : TypeId} (h : W.heap[n]? = some (.cells #[x, y] t (0, 0))) :
    W.cell? ⟨n, 0, none⟩ = some x ∧ W.cell? ⟨n, 1, none⟩ = some y ∧ W.frozen? ⟨n, 0, none⟩ = false ∧ W.frozen? ⟨n, 1, none⟩ = false := by
  refine ⟨?_, ?_, ?_, ?_⟩ <;> simp [World.cell?, World.frozen?, h]
theorem set_two {B : Nat} {w W : World} {n i j : Nat} {x y : Value} (h : Below B w W) (hn : B ≤ n) : Below B w ((W.setCell ⟨n, i, none⟩ x).setCell ⟨n, j, none⟩ y) := (h.setCell hn _).setCell hn _
theorem set_both {W : World} {n : Nat} {x y : Value} {t : TypeId} {fr : Nat × Nat} (x' y' : Value) (h : W.heap[n]? = some (.cells #[x, y] t fr)) : ((W.setCell ⟨n, 0, none⟩ x').setCell ⟨n, 1, none⟩ y').heap[n]? = some (.cells #[x', y'] t fr) := by
  simp [World.setCell, Array.getElem?_modify, h]
/-- The first k numbers of children, and zeros. -/
def fillL (ks : List Nat) (k : Nat) : List Nat := ks.take k ++ List.replicate (ks.length - k) 0
theorem fillL_0 (ks : List Nat) : fillL ks 0 = List.replicate ks.length 0 := by unfold fillL; rw [List.take_zero, Nat.sub_zero]; rfl
theorem fillL_all (ks : List Nat) : fillL ks ks.length = ks := by unfold fillL; rw [List.take_length, Nat.sub_self]; simp
theorem fillL_len {ks : List Nat} {k : Nat} (h : k ≤ ks.length) : (fillL ks k).length = ks.length := by unfold fillL; rw [List.length_append, List.length_take, List.length_replicate]; omega
theorem fillL_set {ks : List Nat} {k q : Nat} (h : ks[k]? = some q) : (fillL ks k).set k q = fillL ks (k + 1) := by
  obtain ⟨hk, hq⟩ := List.getElem?_eq_some_iff.1 h
  unfold fillL
  rw [List.set_append, if_neg (by rw [List.length_take]; omega), List.length_take, Nat.min_eq_left (by omega), Nat.sub_self, show ks.length - k = (ks.length - (k + 1)) + 1 by omega, List.replicate_succ, List.set_cons_zero, List.take_succ_eq_append_getElem hk, hq]
  simp
/-- The ends of all subtrees lie there, at or beyond block B. -/
def EndsAt (B : Nat) (w : World) (v : Value) (t : List Nd) : Prop := ∃ g, v = .slice (some ⟨g, 0, none⟩) t.length t.length ∧ B ≤ g ∧ g < w.heap.size ∧ ∀ (j q : Nat), (endsL (kidsL t))[j]? = some q → w.cell? ⟨g, j, none⟩ = some (.int .i64 (q : Int))
theorem EndsAt.below {B : Nat} {w w' : World} {v : Value} {t : List Nd} (h : EndsAt B w v t) (hb : Below w.heap.size w w') : EndsAt B w' v t := by
  obtain ⟨g, e, hB, hg, hc⟩ := h
  exact ⟨g, e, hB, Nat.lt_of_lt_of_le hg hb.size, fun j q hj => (hb.cell (p := ⟨g, j, none⟩) hg).trans (hc j q hj)⟩
def zeroTree : Value := .agg #[.slice none 0 0, .slice none 0 0]
/-- What treeOf returns. -/
def TreeV (sy : List UInt8 → Bool) (t : List Nd) (v : Value) (w : World) (e : Ending) (w' : World) : Prop :=
  ((chkT sy t).2 ≠ 0 → e = .returned (.tuple #[zeroTree, .int .i64 (chkT sy t).2])) ∧ ((chkT sy t).2 = 0 → ∃ ve, e = .returned (.tuple #[.agg #[v, ve], .int .i64 0]) ∧ EndsAt w.heap.size w' ve t) ∧ Below w.heap.size w w'
theorem results_tree {fn : Func} {p t : Tmp} (h : fn.results = #[.cell p 72, .tmp t]) (tmps : Array Value) (W : World) (n : Nat) (x y : Value) (tt : TypeId) (hp : tmps.getD p undef = .pointer (some ⟨n, 0, none⟩)) (b : W.heap[n]? = some (.cells #[x, y] tt (0, 0))) :
    (results fn tmps).run Tryd.prog W = .ok (.tuple #[.agg #[x, y], tmps.getD t undef]) W := by
  have c0 : W.cell? ⟨n, 0, none⟩ = some x := by simp [World.cell?, b]
  have c1 : W.cell? ⟨n, 1, none⟩ = some y := by simp [World.cell?, b]
  have hp' : tmps[p]?.getD undef = .pointer (some ⟨n, 0, none⟩) := by simpa using hp
  simp [results, h, hp', go_sem, c0, c1]

set_option maxRecDepth 50000 in
set_option maxHeartbeats 3200000 in
theorem treeOf_bad (sy : List UInt8 → Bool) (v : Value) (t : List Nd) (w : World) (h : NdsAt w v t) (HS : Hid (SymAll 16 sy w)) (KB : Hid (KidsB t)) (hc : (chkT sy t).2 ≠ 0) :
    Calls Tryd.prog 61 #[v] w (TreeV sy t v w) := by
  obtain ⟨W1, hW1⟩ : ∃ W1, W1 = w.alloc (.cells #[.slice none 0 0, .slice none 0 0] 72) := ⟨_, rfl⟩
  have hb1 : Below w.heap.size w W1 := by rw [hW1]; exact below_b1 _ _
  have hbk : W1.heap[w.heap.size]? = some (.cells #[.slice none 0 0, .slice none 0 0] 72 (0, 0)) := by rw [hW1]; exact World.alloc_heap_new _ _
  have C := Lib.hid (Check_any sy v t W1 (h.below hb1 (Nat.le_refl _)) (Lib.hid (HS.out.below hb1)) KB)
  unfold chkTV at C
  obtain ⟨i, e, hie⟩ : ∃ i e, chkT sy t = (i, e) := ⟨_, _, rfl⟩
  rw [hie] at C hc
  have HE := Lib.hid hie
  have hne : (e != 0) = true := bne_iff_ne.2 hc
  have hc' := Lib.hid hc
  clear h hie hc
  go_enter Tryd.func61, Tryd.ntmps61
  go_wp2_with fail
  -- MARK1
  rw [← hW1]
  clear hW1
  refine C.out.mono ?_
  rintro e' w2 ⟨rfl, hb2⟩
  have hbk2 := (hb2.block w.heap.size (Array.getElem?_eq_some_iff.1 hbk).1).trans hbk
  obtain ⟨d0, d1, f0, f1⟩ := box_facts hbk2
  have hB2 := hb1.trans (hb2.mono hb1.size)
  go_wp2_with fail
  -- MARK2
  refine bodyPost_ret (results_tree rfl _ _ w.heap.size _ _ _ rfl (set_both _ _ hbk2)) rfl ?_
  exact ⟨fun _ => by rw [HE.out]; rfl, fun h => (by rw [HE.out] at h; exact absurd h hc'.out), set_two hB2 (Nat.le_refl _)⟩

set_option maxRecDepth 50000 in
set_option maxHeartbeats 3200000 in
theorem treeOf_ok (sy : List UInt8 → Bool) (v : Value) (t : List Nd) (w : World) (h : NdsAt w v t) (HS : Hid (SymAll 16 sy w)) (KB : Hid (KidsB t)) (hc : (chkT sy t).2 = 0) :
    Calls Tryd.prog 61 #[v] w (TreeV sy t v w) := by
  obtain ⟨t1, t2, t3, t4, t5⟩ := chkT_ok hc
  have hK0 := Lib.hid (chkT_kids hc)
  have C0 := Lib.hid (fun (W : World) (hb : Below w.heap.size w W) => Check_any sy v t W (h.below hb (Nat.le_refl _)) (Lib.hid (HS.out.below hb)) KB)
  rcases h with ⟨_, _, rfl, rfl⟩ | ⟨g, off, cap, rfl, hg, hcl⟩
  · exact absurd rfl t2
  obtain ⟨W1, hW1⟩ : ∃ W1, W1 = w.alloc (.cells #[.slice none 0 0, .slice none 0 0] 72) := ⟨_, rfl⟩
  have hb1 : Below w.heap.size w W1 := by rw [hW1]; exact below_b1 _ _
  have hsz1 : W1.heap.size = w.heap.size + 1 := by rw [hW1, World.size_alloc]
  have hbk : W1.heap[w.heap.size]? = some (.cells #[.slice none 0 0, .slice none 0 0] 72 (0, 0)) := by rw [hW1]; exact World.alloc_heap_new _ _
  have C := Lib.hid (C0.out W1 hb1)
  unfold chkTV at C
  rw [t5] at C
  obtain ⟨n, hn⟩ : ∃ n, t.length = n := ⟨_, rfl⟩
  rw [hn] at C t3
  have hkl : (kidsL t).length = n := by rw [kidsL_len, hn]
  have HN := Lib.hid hn
  have HKL := Lib.hid hkl
  have HT1 := Lib.hid t1
  have HC := Lib.hid hcl
  have HE := Lib.hid hc
  have hpos : 0 < n := by rw [← hn]; exact List.length_pos_iff.2 t2
  rw [hn]
  clear hn hkl t1 t2 t4 t5 hcl hc C0 HS
  go_enter Tryd.func61, Tryd.ntmps61
  go_wp2_with fail
  -- MARK3
  rw [← hW1]
  clear hW1
  refine C.out.mono ?_
  rintro e' w2 ⟨rfl, hb2⟩
  have hbk2 := Lib.hid ((hb2.block w.heap.size (Array.getElem?_eq_some_iff.1 hbk).1).trans hbk)
  have hB2 := hb1.trans (hb2.mono hb1.size)
  have hsz2 : w.heap.size + 1 ≤ w2.heap.size := by have := hb2.size; omega
  have hm1 := make_ints w2 n (by omega)
  have HOwn0 := Lib.hid (own_ints w2 n (by omega) (B := w.heap.size + 1) hsz2)
  clear hbk
  go_wp2_with fail
  -- MARK4
  obtain ⟨W3, hW3⟩ : ∃ W3, W3 = w2.alloc (.cells (natV (List.replicate n 0)).toArray 3) := ⟨_, rfl⟩
  rw [← hW3] at HOwn0 ⊢
  have hB3 : Below w.heap.size w W3 := by rw [hW3]; exact hB2.alloc hB2.size _
  have hbk3 : Hid (W3.heap[w.heap.size]? = some (.cells #[.slice none 0 0, .slice none 0 0] 72 (0, 0))) := Lib.hid (by
    rw [hW3]; exact (Below.heap_alloc _ _ _ (by omega)).trans hbk2.out)
  obtain ⟨g0, hg0⟩ : ∃ g0, w2.heap.size = g0 := ⟨_, rfl⟩
  rw [hg0] at HOwn0 hsz2 ⊢
  clear hm1 hW3 hg0 hb2 hB2 hbk2 C
  go_loopw [25] (fun x wr => ∃ k : Nat, x = .int .i64 k ∧ k ≤ n ∧ Hid (wr.ownsRow (w.heap.size + 1) 3 1 (.slice (some ⟨g0, 0, none⟩) n n) n (natV (fillL (kidsL t) k))) ∧ Hid (wr.heap[w.heap.size]? = some (.cells #[.slice none 0 0, .slice none 0 0] 72 (0, 0))) ∧ Below w.heap.size w wr) (fun x _ => n - (intOf x).toNat)
  case atStart => exact ⟨0, rfl, Nat.zero_le _, Lib.hid (by rw [fillL_0, HKL.out]; exact HOwn0.out), hbk3, hB3⟩
  case round =>
    obtain ⟨k, rfl, hk, HO, HBk, hb⟩ := hrel
    by_cases hlt : k < n
    · obtain ⟨x, hx⟩ : ∃ x, t[k]? = some x := ⟨_, List.getElem?_eq_getElem (by rw [HN.out]; exact hlt)⟩
      obtain ⟨c, hcE⟩ : ∃ c : Nat, x.2.1 = (c : Int) := ⟨x.2.1.toNat, by have := hK0.out x (List.mem_of_getElem? hx); omega⟩
      have hkc : (kidsL t)[k]? = some c := by unfold kidsL; rw [List.getElem?_map, hx, Option.map_some, hcE, Int.toNat_natCast]
      have hold : (fillL (kidsL t) k)[k]? = some 0 := by
        unfold fillL
        rw [List.getElem?_append_right (by rw [List.length_take]; omega), List.length_take, HKL.out, Nat.min_eq_left hk, Nat.sub_self, List.getElem?_replicate, if_pos (by omega)]
      have HSet := Lib.hid (fillL_set hkc)
      obtain ⟨d0, d1, d2, d3⟩ := dcs_at t hx
      have c0 : wr.cell? ⟨g, off + k * 4, none⟩ = some (.int .i64 x.1) := (hb.cell (p := ⟨g, off + k * 4, none⟩) hg).trans (HC.out _ _ d0)
      have c1 : wr.cell? ⟨g, off + k * 4 + 1, none⟩ = some (.int .i64 x.2.1) := (hb.cell (p := ⟨g, off + k * 4 + 1, none⟩) hg).trans (HC.out _ _ d1)
      have c2 : wr.cell? ⟨g, off + k * 4 + 2, none⟩ = some (.int .i64 x.2.2.1) := (hb.cell (p := ⟨g, off + k * 4 + 2, none⟩) hg).trans (HC.out _ _ d2)
      have c3 : wr.cell? ⟨g, off + k * 4 + 3, none⟩ = some (.string (str x.2.2.2)) := (hb.cell (p := ⟨g, off + k * 4 + 3, none⟩) hg).trans (HC.out _ _ d3)
      rw [hcE] at c1
      obtain ⟨x0, x1, x2, x3⟩ := x
      simp only at c0 c1 c2 c3
      have hgr : g0 < wr.heap.size := by
        rcases own_form HO.out with ⟨hv, _⟩ | ⟨g', c', hv, _, hg'⟩
        · cases hv
        · cases hv; exact hg'
      have e0 : wr.cell? ⟨g0, k, none⟩ = some (.int .i64 0) := own_cell HO.out (natV_at hold)
      have e1 : wr.frozen? ⟨g0, k, none⟩ = false := HO.out.frozenAt k
      have hk0 : (0 : Int) ≤ (k : Int) := Int.natCast_nonneg _
      have hk1 : (k : Int) < (n : Int) := by omega
      clear hx hcE hkc hold d0 d1 d2 d3
      have hgne : g0 ≠ wr.heap.size := by omega
      go_wp2_with fail
      -- MARK5
      have hown2 := (HO.out.stored k (.int .i64 (c : Int))).1
      rw [natV_set, HSet.out] at hown2
      have hsz5 : (wr.setCell ⟨g0, k, none⟩ (.int .i64 (c : Int))).heap.size = wr.heap.size := World.size_setCell _ _ _
      have hbk5 := (Below.heap_alloc (wr.setCell ⟨g0, k, none⟩ (.int .i64 (c : Int))) (.cells #[.int .i64 x0, .int .i64 (c : Int), .int .i64 x2, .string (str x3)] 48) w.heap.size (by rw [hsz5]; exact (Array.getElem?_eq_some_iff.1 HBk.out).1)).trans ((Below.heap_setCell wr ⟨g0, k, none⟩ (.int .i64 (c : Int)) w.heap.size (by show w.heap.size ≠ g0; omega)).trans HBk.out)
      go_roundw
      case rel => exact ⟨k + 1, by go_num, by omega, Lib.hid (hown2.alloc _), Lib.hid hbk5, (hb.setCell (p := ⟨g0, k, none⟩) (by show w.heap.size ≤ g0; omega) _).alloc (by rw [hsz5]; exact hb.size) _⟩
      case measure => simp [intOf]; omega
    · obtain rfl : k = n := by omega
      have HO2 : Hid (wr.ownsRow (w.heap.size + 1) 3 1 (.slice (some ⟨g0, 0, none⟩) k k) k (natV (kidsL t))) := Lib.hid (by have h1 := HO.out; rw [← HKL.out, fillL_all, HKL.out] at h1; exact h1)
      have hgr : g0 < wr.heap.size := by
        rcases own_form HO.out with ⟨hv, _⟩ | ⟨g', c', hv, _, hg'⟩
        · cases hv
        · cases hv; exact hg'
      have C2 := Lib.hid (endsOf_any (some ⟨g0, 0, none⟩) k k (kidsL t) wr HKL.out (by omega) (Lib.hid fun _ => ⟨g0, 0, rfl, hgr, fun j q hj => by rw [Nat.zero_add]; exact own_cell HO2.out (natV_at hj)⟩))
      have HTB : Hid (trB (kidsL t) = true) := Lib.hid (by unfold trB; exact decide_eq_true HT1.out)
      clear HO
      go_wp2_with fail
      -- MARK6
      refine C2.out.mono ?_
      rintro e' w4 ⟨ve, rfl, hve, _, hb4⟩
      obtain ⟨ge, rfl, hge1, hge2, hgc⟩ := hve HTB.out
      have hbk4 := (hb4.block w.heap.size (Array.getElem?_eq_some_iff.1 HBk.out).1).trans HBk.out
      obtain ⟨d0, d1, f0, f1⟩ := box_facts hbk4
      have hB4 := hb.trans (hb4.mono hb.size)
      rw [HTB.out, HKL.out]
      have HGC := Lib.hid hgc
      have hgw : ge ≠ w.heap.size := by have := (Array.getElem?_eq_some_iff.1 HBk.out).1; omega
      clear hgc hve hb4 HBk
      go_wp2_with fail
      -- MARK7
      refine bodyPost_ret (results_tree rfl _ _ w.heap.size _ _ _ rfl (set_both _ _ hbk4)) rfl ?_
      refine ⟨fun h => absurd HE.out h, fun _ => ⟨_, rfl, ge, by rw [HN.out], by have := hb.size; omega, ?_, fun j q hj => ?_⟩, set_two hB4 (Nat.le_refl _)⟩
      · simp only [World.size_setCell]; exact hge2
      · rw [World.cell?_setCell_far _ _ _ _ (by show w.heap.size ≠ ge; omega), World.cell?_setCell_far _ _ _ _ (by show w.heap.size ≠ ge; omega)]
        exact HGC.out j q hj
end Go.Proofs.YtkngkajojcmmlaaDoor

/- Trees with a node: treeWith, Size; Shape. -/
namespace Go.Proofs.YtkngkajojcmmlaaDoor
open Go.RowKit Go.PlainAid

theorem treeOf_any (sy : List UInt8 → Bool) (v : Value) (t : List Nd) (w : World) (h : NdsAt w v t) (HS : Hid (SymAll 16 sy w)) (KB : Hid (KidsB t)) :
    Calls Tryd.prog 61 #[v] w (TreeV sy t v w) := by
  by_cases hc : (chkT sy t).2 = 0
  · exact treeOf_ok sy v t w h HS KB hc
  · exact treeOf_bad sy v t w h HS KB hc
theorem NdsAt.slice {w : World} {v : Value} {t : List Nd} (h : NdsAt w v t) : ∃ a c, v = .slice a t.length c := by
  rcases h with ⟨a, c, rfl, rfl⟩ | ⟨g, off, cap, rfl, _, _⟩
  · exact ⟨a, c, rfl⟩
  · exact ⟨_, _, rfl⟩
/-- The error of a datum and a node. -/
def atE (sy : List UInt8 → Bool) (t : List Nd) (i : Int) : Int := if (chkT sy t).2 ≠ 0 then (chkT sy t).2 else if i < 0 ∨ (t.length : Int) ≤ i then 4 else 0
theorem atE_bad {sy : List UInt8 → Bool} {t : List Nd} {i : Int} (h : (chkT sy t).2 ≠ 0) : atE sy t i = (chkT sy t).2 := by unfold atE; rw [if_pos h]
theorem atE_out {sy : List UInt8 → Bool} {t : List Nd} {i : Int} (h : (chkT sy t).2 = 0) (hi : i < 0 ∨ (t.length : Int) ≤ i) : atE sy t i = 4 := by unfold atE; rw [if_neg (by rw [h]; simp), if_pos hi]
theorem atE_in {sy : List UInt8 → Bool} {t : List Nd} {i : Int} (h : (chkT sy t).2 = 0) (hi : ¬(i < 0 ∨ (t.length : Int) ≤ i)) : atE sy t i = 0 := by unfold atE; rw [if_neg (by rw [h]; simp), if_neg hi]
theorem atE_0 {sy : List UInt8 → Bool} {t : List Nd} {i : Int} (h : atE sy t i = 0) : (chkT sy t).2 = 0 ∧ 0 ≤ i ∧ i < (t.length : Int) := by
  unfold atE at h
  split at h
  · rename_i h1; exact absurd h h1
  · rename_i h1
    split at h
    · cases h
    · rename_i h2; exact ⟨Decidable.not_not.1 h1, by omega, by omega⟩
/-- What treeWith returns. -/
def TreeWV (sy : List UInt8 → Bool) (t : List Nd) (i : Int) (v : Value) (w : World) (e : Ending) (w' : World) : Prop :=
  (atE sy t i ≠ 0 → e = .returned (.tuple #[zeroTree, .int .i64 (atE sy t i)])) ∧ (atE sy t i = 0 → ∃ ve, e = .returned (.tuple #[.agg #[v, ve], .int .i64 0]) ∧ EndsAt w.heap.size w' ve t) ∧ Below w.heap.size w w'

theorem set_alloc {W : World} {n : Nat} {x y : Value} {t : TypeId} {fr : Nat × Nat} (x' y' : Value) (o : Obj) (h : W.heap[n]? = some (.cells #[x, y] t fr)) : ((((W.setCell ⟨n, 0, none⟩ x').setCell ⟨n, 1, none⟩ y').alloc o).heap[n]? = some (.cells #[x', y'] t fr)) :=
  (Below.heap_alloc _ _ _ (by simp only [World.size_setCell]; exact (Array.getElem?_eq_some_iff.1 h).1)).trans (set_both x' y' h)
theorem below_sa {w W : World} {i j : Nat} {x y : Value} {o : Obj} (h : Below w.heap.size w W) : Below w.heap.size w (((W.setCell ⟨w.heap.size, i, none⟩ x).setCell ⟨w.heap.size, j, none⟩ y).alloc o) :=
  (set_two h (Nat.le_refl _)).alloc (by simp only [World.size_setCell]; exact h.size) o

set_option maxRecDepth 50000 in
set_option maxHeartbeats 3200000 in
theorem treeWith_any (sy : List UInt8 → Bool) (v : Value) (t : List Nd) (i : Int) (w : World) (h : NdsAt w v t) (HS : Hid (SymAll 16 sy w)) (KB : Hid (KidsB t)) :
    Calls Tryd.prog 55 #[v, .int .i64 i] w (TreeWV sy t i v w) := by
  obtain ⟨a, c, hv⟩ := h.slice
  obtain ⟨n, hn⟩ : ∃ n, t.length = n := ⟨_, rfl⟩
  rw [hn] at hv
  obtain ⟨W1, hW1⟩ : ∃ W1, W1 = w.alloc (.cells #[.slice none 0 0, .slice none 0 0] 72) := ⟨_, rfl⟩
  have hb1 : Below w.heap.size w W1 := by rw [hW1]; exact below_b1 _ _
  have hbk : W1.heap[w.heap.size]? = some (.cells #[.slice none 0 0, .slice none 0 0] 72 (0, 0)) := by rw [hW1]; exact World.alloc_heap_new _ _
  have C := Lib.hid (treeOf_any sy v t W1 (h.below hb1 (Nat.le_refl _)) (Lib.hid (HS.out.below hb1)) KB)
  subst hv
  clear h HS KB
  by_cases hc : (chkT sy t).2 = 0
  · have HC := Lib.hid hc
    have HN := Lib.hid hn
    by_cases hi : i < 0 ∨ (n : Int) ≤ i
    · have HE : Hid (atE sy t i = 4) := Lib.hid (atE_out hc (by rw [hn]; exact hi))
      have hor : decide (i < 0) = true ∨ (decide (i < 0) = false ∧ decide ((n : Int) ≤ i) = true) := by
        by_cases h1 : i < 0
        · exact .inl (decide_eq_true h1)
        · exact .inr ⟨decide_eq_false h1, decide_eq_true (by omega)⟩
      clear hc hn hi
      rcases hor with g1 | ⟨g1, g2⟩ <;> (
        go_enter Tryd.func55, Tryd.ntmps55
        go_wp2_with fail
        rw [← hW1]
        clear hW1
        refine C.out.mono ?_
        rintro e' w2 ⟨_, hok, hb2⟩
        obtain ⟨ve, rfl, hve⟩ := hok HC.out
        have hbk2 := (hb2.block w.heap.size (Array.getElem?_eq_some_iff.1 hbk).1).trans hbk
        have hlt2 := (Array.getElem?_eq_some_iff.1 hbk2).1
        obtain ⟨d0, d1, f0, f1⟩ := box_facts hbk2
        have hB2 := hb1.trans (hb2.mono hb1.size)
        obtain ⟨ge, rfl, _, _, _⟩ := hve
        clear hok
        go_wp2_with fail
        -- MARK1
        refine bodyPost_ret (results_tree rfl _ _ w.heap.size _ _ _ rfl (set_alloc _ _ _ hbk2)) rfl ?_
        exact ⟨fun _ => by rw [HE.out]; rfl, fun h => (by rw [HE.out] at h; cases h), below_sa hB2⟩)
    · have HE : Hid (atE sy t i = 0) := Lib.hid (atE_in hc (by rw [hn]; exact hi))
      have g1 : decide (i < 0) = false := decide_eq_false (by omega)
      have g2 : decide ((n : Int) ≤ i) = false := decide_eq_false (by omega)
      clear hc hn hi
      go_enter Tryd.func55, Tryd.ntmps55
      go_wp2_with fail
      rw [← hW1]
      clear hW1
      refine C.out.mono ?_
      rintro e' w2 ⟨_, hok, hb2⟩
      obtain ⟨ve, rfl, hve⟩ := hok HC.out
      have hbk2 := (hb2.block w.heap.size (Array.getElem?_eq_some_iff.1 hbk).1).trans hbk
      have hlt2 := (Array.getElem?_eq_some_iff.1 hbk2).1
      obtain ⟨d0, d1, f0, f1⟩ := box_facts hbk2
      have hB2 := hb1.trans (hb2.mono hb1.size)
      obtain ⟨ge, rfl, hgb, hge, hgc⟩ := hve
      have hgne : Hid (ge ≠ w.heap.size) := Lib.hid (by have := (Array.getElem?_eq_some_iff.1 hbk).1; omega)
      have HGC := Lib.hid hgc
      clear hok hgc
      go_wp2_with fail
      -- MARK2
      refine bodyPost_ret (results_tree rfl _ _ w.heap.size _ _ _ rfl (set_alloc _ _ _ hbk2)) rfl ?_
      refine ⟨fun h => absurd HE.out h, fun _ => ⟨_, rfl, ge, rfl, by have := (Array.getElem?_eq_some_iff.1 hbk).1; omega, ?_, fun j q hj => ?_⟩, below_sa hB2⟩
      · simp only [World.size_setCell, World.size_alloc]; omega
      · rw [World.cell?_alloc_lt _ _ _ (by simp only [World.size_setCell]; exact hge), World.cell?_setCell_far _ _ _ _ (by show w.heap.size ≠ ge; exact hgne.out.symm), World.cell?_setCell_far _ _ _ _ (by show w.heap.size ≠ ge; exact hgne.out.symm)]
        exact HGC.out j q hj
  · have HC := Lib.hid hc
    have HE : Hid (atE sy t i = (chkT sy t).2) := Lib.hid (atE_bad hc)
    have hne : ((chkT sy t).2 != 0) = true := bne_iff_ne.2 hc
    clear hc hn
    go_enter Tryd.func55, Tryd.ntmps55
    go_wp2_with fail
    rw [← hW1]
    clear hW1
    refine C.out.mono ?_
    rintro e' w2 ⟨hbad, _, hb2⟩
    obtain rfl := hbad HC.out
    have hbk2 := (hb2.block w.heap.size (Array.getElem?_eq_some_iff.1 hbk).1).trans hbk
    have hlt2 := (Array.getElem?_eq_some_iff.1 hbk2).1
    obtain ⟨d0, d1, f0, f1⟩ := box_facts hbk2
    have hB2 := hb1.trans (hb2.mono hb1.size)
    unfold zeroTree
    clear hbad
    go_wp2_with fail
    -- MARK3
    refine bodyPost_ret (results_tree rfl _ _ w.heap.size _ _ _ rfl (set_alloc _ _ _ hbk2)) rfl ?_
    exact ⟨fun _ => by rw [HE.out]; rfl, fun h => (by rw [HE.out] at h; exact absurd h HC.out), below_sa hB2⟩

/-- What Size returns. -/
def sizeV (sy : List UInt8 → Bool) (t : List Nd) (i : Int) : Value := .tuple #[.int .i64 (if atE sy t i = 0 then (endN (kidsL t) i.toNat : Int) - i else 0), .int .i64 (atE sy t i)]
set_option maxRecDepth 50000 in
set_option maxHeartbeats 3200000 in
theorem Size_any (sy : List UInt8 → Bool) (v : Value) (t : List Nd) (i : Int) (w : World) (h : NdsAt w v t) (HS : Hid (SymAll 16 sy w)) (KB : Hid (KidsB t)) :
    Calls Tryd.prog 18 #[v, .int .i64 i] w fun e w' => e = .returned (sizeV sy t i) ∧ Below w.heap.size w w' := by
  have C := Lib.hid (treeWith_any sy v t i w h HS KB)
  obtain ⟨a, c, rfl⟩ := h.slice
  clear h HS KB
  by_cases hz : atE sy t i = 0
  · obtain ⟨h1, h2, h3⟩ := atE_0 hz
    obtain ⟨n, rfl⟩ : ∃ n : Nat, i = (n : Int) := ⟨i.toNat, by omega⟩
    obtain ⟨k1, k2, k3, _, _⟩ := chkT_ok h1
    have hnt : n < (kidsL t).length := by rw [kidsL_len]; omega
    obtain ⟨b1, b2⟩ := k1.end_bd hnt
    obtain ⟨q, hq⟩ : ∃ q, endN (kidsL t) n = q := ⟨_, rfl⟩
    have HAt : Hid ((endsL (kidsL t))[n]? = some q) := Lib.hid (by rw [← hq]; exact endsL_at hnt)
    have HV : Hid (sizeV sy t (n : Int) = .tuple #[.int .i64 ((q : Int) - (n : Int)), .int .i64 0]) := Lib.hid (by unfold sizeV; rw [hz, if_pos rfl, Int.toNat_natCast, hq])
    rw [hq] at b1 b2
    rw [kidsL_len] at b2
    have HZ := Lib.hid hz
    have hn0 : (0 : Int) ≤ (n : Int) := Int.natCast_nonneg _
    have hn1 : (n : Int) < (t.length : Int) := by omega
    clear hz h1 h2 h3 k1 k2 hnt hq
    go_enter Tryd.func18, Tryd.ntmps18
    go_wp2_with fail
    refine C.out.mono ?_
    rintro e' w2 ⟨_, hok, hb2⟩
    obtain ⟨ve, rfl, ge, rfl, hge, hgl, hgc⟩ := hok HZ.out
    have d0 := hgc n q HAt.out
    have d1 : ∀ o, (w2.alloc o).cell? ⟨ge, n, none⟩ = some (.int .i64 (q : Int)) := fun o => (World.cell?_alloc_lt _ _ _ hgl).trans d0
    clear hok hgc
    go_wp2_with fail
    -- MARK4
    go_ret2
    exact ⟨(congrArg Ending.returned HV.out).symm, hb2.alloc hb2.size _⟩
  · have HV : Hid (sizeV sy t i = .tuple #[.int .i64 0, .int .i64 (atE sy t i)]) := Lib.hid (by unfold sizeV; rw [if_neg hz])
    have hne : (atE sy t i != 0) = true := bne_iff_ne.2 hz
    have HZ := Lib.hid hz
    clear hz
    go_enter Tryd.func18, Tryd.ntmps18
    go_wp2_with fail
    refine C.out.mono ?_
    rintro e' w2 ⟨hbad, _, hb2⟩
    obtain rfl := hbad HZ.out
    unfold zeroTree
    clear hbad
    go_wp2_with fail
    -- MARK5
    go_ret2
    exact ⟨(congrArg Ending.returned HV.out).symm, hb2.alloc hb2.size _⟩
end Go.Proofs.YtkngkajojcmmlaaDoor

/- Trees: parent, placeOf; Shape. -/
namespace Go.Proofs.YtkngkajojcmmlaaDoor
open Go.RowKit Go.PlainAid

set_option maxRecDepth 50000 in
set_option maxHeartbeats 3200000 in
theorem parent_any (v : Value) (t : List Nd) (ge i : Nat) (w : World) (a : Option Addr) (n c : Nat) (hv : v = .slice a n c) (hn : t.length = n) (hT : Tr (kidsL t)) (hi : i < n) (h0 : 0 < i) (hl : n ≤ 400) (hg : ge < w.heap.size)
    (hc : ∀ (j q : Nat), (endsL (kidsL t))[j]? = some q → w.cell? ⟨ge, j, none⟩ = some (.int .i64 (q : Int))) :
    Calls Tryd.prog 60 #[.agg #[v, .slice (some ⟨ge, 0, none⟩) n n], .int .i64 (i : Int)] w fun e w' => e = .returned (.int .i64 (parN (kidsL t) i : Int)) ∧ Below w.heap.size w w' := by
  subst hv
  have hkl : (kidsL t).length = n := by rw [kidsL_len, hn]
  have HE : Hid (∀ p, p < n → w.cell? ⟨ge, p, none⟩ = some (.int .i64 (endN (kidsL t) p : Int))) := Lib.hid fun p hp => hc p _ (endsL_at (by rw [hkl]; exact hp))
  have HP : Hid (∀ p, parGo (kidsL t) i (p + 1) = if i < endN (kidsL t) p then p else parGo (kidsL t) i p) := Lib.hid fun p => rfl
  have HZ : Hid (endN (kidsL t) 0 = n) := Lib.hid (by rw [hT.end_0, hkl])
  have HB : Hid (∀ p, p < n → endN (kidsL t) p ≤ n) := Lib.hid fun p hp => by rw [← hkl]; exact (hT.end_bd (by rw [hkl]; exact hp)).2
  have HN : Hid (parN (kidsL t) i = parGo (kidsL t) i i) := Lib.hid rfl
  clear hc hT hkl hn
  go_enter Tryd.func60, Tryd.ntmps60
  go_wp2_with fail
  -- MARK1
  obtain ⟨_, d0, _, _⟩ := box_facts (World.alloc_heap_new w (.cells #[.slice a n c, .slice (some ⟨ge, 0, none⟩) n n] 72))
  go_loop [5] (fun x => ∃ p : Nat, x = .int .i64 (p : Int) ∧ p < i ∧ Hid (parGo (kidsL t) i (p + 1) = parGo (kidsL t) i i)) (fun x => (intOf x).toNat)
  case atStart => exact ⟨i - 1, by congr 1; omega, by omega, Lib.hid (by rw [show i - 1 + 1 = i by omega])⟩
  case round =>
    obtain ⟨p, rfl, hp, HR⟩ := hrel
    obtain ⟨q, hq⟩ : ∃ q, endN (kidsL t) p = q := ⟨_, rfl⟩
    have e0 := HE.out p (by omega)
    have hqn := HB.out p (by omega)
    rw [hq] at e0 hqn
    have HQ := Lib.hid hq
    have e1 : ∀ o, (w.alloc o).cell? ⟨ge, p, none⟩ = some (.int .i64 (q : Int)) := fun o => (World.cell?_alloc_lt _ _ _ hg).trans e0
    have hp0 : (0 : Int) ≤ (p : Int) := Int.natCast_nonneg _
    have hp1 : (p : Int) < (n : Int) := by omega
    clear hq
    by_cases hle : q ≤ i
    · have hpos : 0 < p := by
        rcases Nat.eq_zero_or_pos p with e | e
        · have h1 := HQ.out; rw [e, HZ.out] at h1; omega
        · exact e
      have HR2 : Hid (parGo (kidsL t) i (p - 1 + 1) = parGo (kidsL t) i i) := Lib.hid (by
        rw [show p - 1 + 1 = p by omega, ← HR.out, HP.out, if_neg (by rw [HQ.out]; omega)])
      have hd : decide ((q : Int) ≤ (i : Int)) = true := decide_eq_true (by omega)
      go_wp2_with fail
      -- MARK2
      go_round
      case rel => exact ⟨p - 1, by congr 1; omega, by omega, HR2⟩
      case measure => simp [intOf]; omega
    · have HF : Hid (parN (kidsL t) i = p) := Lib.hid (by rw [HN.out, ← HR.out, HP.out, if_pos (by rw [HQ.out]; omega)])
      have hd : decide ((q : Int) ≤ (i : Int)) = false := decide_eq_false (by omega)
      go_wp2_with fail
      -- MARK3
      go_ret
      exact ⟨ret_int (by rw [HF.out]), (Below.refl _ w).alloc (Nat.le_refl _) _⟩

set_option maxRecDepth 50000 in
set_option maxHeartbeats 1600000 in
theorem placeOf_at (v : Value) (l : List Int) (x : Int) (j : Nat) (w : World) (h : IntRow w v l) (hj : l[j]? = some x) (hno : ∀ (k : Nat) (y : Int), k < j → l[k]? = some y → y ≠ x) (hl : l.length ≤ 1000000) :
    Calls Tryd.prog 63 #[v, .int .i64 x] w fun e w' => e = .returned (.int .i64 (j : Int)) ∧ w = w' := by
  obtain ⟨a, c, rfl, hA⟩ := h
  have hjl := (List.getElem?_eq_some_iff.1 hj).1
  rcases hA with hnil | ⟨g, off, rfl, hg, hc⟩
  · rw [hnil] at hj; cases hj
  obtain ⟨n, hn⟩ : ∃ n, l.length = n := ⟨_, rfl⟩
  rw [hn] at hjl hl
  rw [hn]
  have HC := Lib.hid hc
  have HNo := Lib.hid hno
  have HJ := Lib.hid hj
  have HN := Lib.hid hn
  clear hc hno hj hn
  go_enter Tryd.func63, Tryd.ntmps63
  go_wp2_with fail
  go_loop [9] (fun s => ∃ k : Nat, s = .int .i64 (k : Int) ∧ k ≤ j) (fun s => n - (intOf s).toNat)
  case atStart => exact ⟨0, rfl, Nat.zero_le _⟩
  case round =>
    obtain ⟨k, rfl, hk⟩ := hrel
    have hk0 : (0 : Int) ≤ (k : Int) := Int.natCast_nonneg _
    have hk1 : (k : Int) < (n : Int) := by omega
    have hlt : k < n := by omega
    by_cases e : k = j
    · subst e
      have d0 := HC.out k x HJ.out
      go_wp2_with fail
      go_ret
      exact ⟨rfl, rfl⟩
    · obtain ⟨y, hy⟩ : ∃ y, l[k]? = some y := ⟨_, List.getElem?_eq_getElem (by rw [HN.out]; exact hlt)⟩
      have d0 := HC.out k y hy
      have hne : (y == x) = false := beq_eq_false_iff_ne.2 (HNo.out k y (by omega) hy)
      clear hy
      go_wp2_with fail
      go_round
      case rel => exact ⟨k + 1, by go_num, by omega⟩
      case measure => simp [intOf]; omega
end Go.Proofs.YtkngkajojcmmlaaDoor
