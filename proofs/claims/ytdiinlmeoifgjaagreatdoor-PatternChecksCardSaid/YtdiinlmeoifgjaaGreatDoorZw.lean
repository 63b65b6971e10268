import Derived.Test.YtdiinlmeoifgjaaGreatDoorZv
import Derived.RangeFuncNested
import Derived.Laws.EntriesVeiled
/- Ends of all subtrees: the closure that walks. -/
namespace Go.Proofs.YtdiinlmeoifgjaaGreatDoor
open Go.RowKit Go.PlainAid

/-- The closure that walks. -/
def walkF (B : Nat) : Value := .func (.func 54) #[] #[.pointer (some ⟨B + 3, 0, none⟩), .pointer (some ⟨B, 0, none⟩), .pointer (some ⟨B + 4, 0, none⟩), .pointer (some ⟨B + 1, 0, none⟩)]
/-- The variables of endsOf, from block B on: the numbers of children, the ends (the box and the array), the next node, the closure. -/
structure WInv (B n : Nat) (kv : Value) (W : World) (i : Nat) (es : List Nat) : Prop where
  kids : Boxed W B 68 kv
  ends : Boxed W (B + 1) 68 (.slice (some ⟨B + 2, 0, none⟩) n n)
  row : W.ownsRow B 3 1 (.slice (some ⟨B + 2, 0, none⟩) n n) n (natV es)
  next : Boxed W (B + 3) 3 (.int .i64 (i : Int))
  walk : Boxed W (B + 4) 26 (walkF B)
theorem WInv.setNext {B n : Nat} {kv : Value} {W : World} {i : Nat} {es : List Nat} (h : WInv B n kv W i es) (q : Nat) : WInv B n kv (W.setCell ⟨B + 3, 0, none⟩ (.int .i64 (q : Int))) q es :=
  ⟨h.kids.other (by omega) _, h.ends.other (by omega) _, ownsRow_setCell_other h.row (by simp [Value.ownBlock]) _, h.next.set _, h.walk.other (by omega) _⟩
theorem WInv.setEnd {B n : Nat} {kv : Value} {W : World} {i : Nat} {es : List Nat} (h : WInv B n kv W i es) (j q : Nat) : WInv B n kv (W.setCell ⟨B + 2, j, none⟩ (.int .i64 (q : Int))) i (es.set j q) := by
  obtain ⟨h1, h2⟩ := h.row.stored j (.int .i64 (q : Int))
  rw [natV_set] at h1
  exact ⟨h.kids.kept h2 (by simp), h.ends.kept h2 (by simp), h1, h.next.kept h2 (by simp), h.walk.kept h2 (by simp)⟩
theorem WInv.endCell {B n : Nat} {kv : Value} {W : World} {i : Nat} {es : List Nat} (h : WInv B n kv W i es) (j : Nat) : W.frozen? ⟨B + 2, j, none⟩ = false := h.row.frozenAt j

set_option maxRecDepth 50000 in
set_option maxHeartbeats 3200000 in
theorem walk_any (B n c : Nat) (a : Option Addr) (ks : List Nat) (w0 : World) (hn : ks.length = n) (hl : n ≤ 2000)
    (HK : Hid (0 < n → ∃ g o, a = some ⟨g, o, none⟩ ∧ g < B ∧ ∀ (j q : Nat), ks[j]? = some q → w0.cell? ⟨g, o + j, none⟩ = some (.int .i64 (q : Int)))) :
    ∀ (f i : Nat) (es : List Nat) (W : World), n - i ≤ f → i ≤ n → es.length = n → Hid (WInv B n (.slice a n c) W i es) → Below B w0 W →
    Calls Tryz.prog 54 #[.pointer (some ⟨B + 3, 0, none⟩), .pointer (some ⟨B, 0, none⟩), .pointer (some ⟨B + 4, 0, none⟩), .pointer (some ⟨B + 1, 0, none⟩)] W fun e w' =>
      e = .returned (.bool (eat (ks.drop i) 1).isSome) ∧ Below B w0 w' ∧ ∃ p es', Hid (WInv B n (.slice a n c) w' p es') ∧ es'.length = n ∧ p ≤ n ∧ Hid ((eat (ks.drop i) 1).isSome = true → p = endN ks i ∧ EndsOk ks i p es es') := by
  have HN := Lib.hid hn
  clear hn
  intro f
  induction f with
  | zero =>
    intro i es W hf hi hes HW hb
    obtain rfl : i = n := by omega
    have HE : Hid ((eat (ks.drop i) 1).isSome = false) := Lib.hid (walk_out (by rw [HN.out]; exact Nat.le_refl _))
    have c1 := HW.out.next.cell
    have c2 := HW.out.kids.cell
    clear hf HK
    go_enter Tryz.func54, Tryz.ntmps54
    go_wp2
    go_ret
    exact ⟨ret_bool (by rw [HE.out]), hb, i, es, HW, hes, Nat.le_refl _, Lib.hid (fun h => by rw [HE.out] at h; cases h)⟩
  | succ f ih =>
    intro i es W hf hi hes HW hb
    by_cases hin : i = n
    · subst hin
      have HE : Hid ((eat (ks.drop i) 1).isSome = false) := Lib.hid (walk_out (by rw [HN.out]; exact Nat.le_refl _))
      have c1 := HW.out.next.cell
      have c2 := HW.out.kids.cell
      clear hf HK ih
      go_enter Tryz.func54, Tryz.ntmps54
      go_wp2
      go_ret
      exact ⟨ret_bool (by rw [HE.out]), hb, i, es, HW, hes, Nat.le_refl _, Lib.hid (fun h => by rw [HE.out] at h; cases h)⟩
    · obtain ⟨q, hq⟩ : ∃ q, ks[i]? = some q := ⟨_, List.getElem?_eq_getElem (by rw [HN.out]; omega)⟩
      obtain ⟨g, o, hag, hg, hc⟩ := HK.out (by omega)
      have hcell := hc i q hq
      have IH := Lib.hid ih
      have HQ := Lib.hid hq
      have W1 := Lib.hid (HW.out.setNext (i + 1))
      have hb1 : Below B w0 (W.setCell ⟨B + 3, 0, none⟩ (.int .i64 ((i + 1 : Nat) : Int))) := hb.setCell (by show B ≤ B + 3; omega) _
      have e1 : (((i + 1 : Nat)) : Int) = (i : Int) + 1 := by omega
      have c1 := HW.out.next.cell
      have f1 := HW.out.next.frozen
      have c2 := HW.out.kids.cell
      have c3 := W1.out.kids.cell
      have c4 := (hb1.cell (p := ⟨g, o + i, none⟩) hg).trans hcell
      rw [e1] at c3 c4 hb1
      have H1 : Hid (∀ W', W' = W.setCell ⟨B + 3, 0, none⟩ (.int .i64 ((i : Int) + 1)) → WInv B n (.slice a n c) W' (i + 1) es ∧ Below B w0 W') := Lib.hid fun W' e => by
        rw [e, ← e1]; exact ⟨W1.out, by rw [e1]; exact hb1⟩
      have hi1 : (i : Int) < (n : Int) := by omega
      have hi0 : (0 : Int) ≤ (i : Int) := Int.natCast_nonneg _
      have hie : ((i : Int) == (n : Int)) = false := beq_eq_false_iff_ne.2 (by omega)
      subst hag
      clear ih hq hcell hc W1 e1 hb1 HK hin
      go_enter Tryz.func54, Tryz.ntmps54
      go_wp2_with fail
      -- MARK1
      go_loopw [17] (fun x wr => ∃ (k p : Nat) (es1 : List Nat), x = .int .i64 (k : Int) ∧ k ≤ q ∧ k ≤ 2000 ∧ Hid (WInv B n (.slice (some ⟨g, o, none⟩) n c) wr p es1) ∧ Hid (WalkAt ks (i + 1) k p) ∧ Hid (EndsOk ks (i + 1) p es es1) ∧ es1.length = n ∧ Below B w0 wr) (fun x _ => q - (intOf x).toNat)
      case atStart => exact ⟨0, i + 1, es, rfl, Nat.zero_le _, by omega, Lib.hid (H1.out _ rfl).1, Lib.hid (walkAt_start (by rw [HN.out]; omega)), Lib.hid (EndsOk.refl _ _ _), hes, (H1.out _ rfl).2⟩
      case round =>
        obtain ⟨k, p, es1, rfl, hk, hk2, HW1, HA, HE1, hes1, hbr⟩ := hrel
        have hp : i + 1 + k ≤ p := walkAt_le (by rw [HN.out]; omega) HA.out
        have hpn : p ≤ n := by rw [← HN.out]; exact HA.out.1
        by_cases hlt : k < q
        · have d1 := HW1.out.walk.cell
          unfold walkF at d1
          have C := Lib.hid (IH.out p es1 wr (by omega) hpn hes1 HW1 hbr)
          obtain ⟨b, hbE⟩ : ∃ b, (eat (ks.drop p) 1).isSome = b := ⟨_, rfl⟩
          rw [hbE] at C
          have HBE := Lib.hid hbE
          clear hbE
          cases b with
          | true =>
            go_wp2_with (go_at_call 54; refine C.out.mono ?_; rintro e w1 ⟨rfl, hb1, p2, es2, HW2, hes2, hp2, HR⟩)
            -- MARK2
            obtain ⟨hp2e, hE2⟩ := HR.out trivial
            have hA2 := walkAt_one (by rw [HN.out]; exact hpn) HBE.out
            rw [← hp2e] at hA2
            have hq2 := walkAt_le (by rw [HN.out]; exact hpn) hA2
            have HA2 := Lib.hid (walkAt_step HA.out hA2)
            have HE3 := Lib.hid (HE1.out.trans hE2 (by omega) (by omega))
            clear hA2 hE2 hp2e
            go_roundw
            case rel => exact ⟨k + 1, p2, es2, by go_num, by omega, by omega, HW2, HA2, HE3, hes2, hb1⟩
            case measure => simp [intOf]; omega
          | false =>
            have HF := Lib.hid (walk_none HQ.out hlt HA.out HBE.out)
            go_wp2_with (go_at_call 54; refine C.out.mono ?_; rintro e w1 ⟨rfl, hb1, p2, es2, HW2, hes2, hp2, HR⟩)
            -- MARK3
            go_ret
            exact ⟨ret_bool (by rw [HF.out]), hb1, p2, es2, HW2, hes2, hp2, Lib.hid (fun h => by rw [HF.out] at h; cases h)⟩
        · obtain rfl : k = q := by omega
          have hW := walkAt_list HQ.out HA.out
          have hE := walkAt_end (by rw [HN.out]; omega) hW
          have HT : Hid ((eat (ks.drop i) 1).isSome = true) := Lib.hid (by rw [hW.2]; rfl)
          have d1 := HW1.out.ends.cell
          have d2 := HW1.out.next.cell
          have f2 := HW1.out.endCell i
          obtain ⟨z, hz⟩ : ∃ z, es1[i]? = some z := ⟨_, List.getElem?_eq_getElem (by omega)⟩
          have d3 := own_cell HW1.out.row (natV_at hz)
          clear hz
          have HW2 := Lib.hid (HW1.out.setEnd i p)
          have HR := Lib.hid (HE1.out.close (by omega) (by omega) hE)
          have HEe := Lib.hid hE
          clear hE hW IH
          go_wp2_with fail
          -- MARK4
          go_ret
          exact ⟨ret_bool (by rw [HT.out]), hbr.setCell (by show B ≤ B + 2; omega) _, p, _, HW2, by rw [List.length_set]; exact hes1, hpn, Lib.hid fun _ => ⟨HEe.out.symm, HR.out⟩⟩
end Go.Proofs.YtdiinlmeoifgjaaGreatDoor

/- Ends of all subtrees; Shape. -/
namespace Go.Proofs.YtdiinlmeoifgjaaGreatDoor
open Go.RowKit Go.PlainAid

theorem results_boxL {fn : Func} {p t : Tmp} (h : fn.results = #[.cell p 68, .tmp t]) (tmps : Array Value) (W : World) (n : Nat) (v : Value) (hp : tmps.getD p undef = .pointer (some ⟨n, 0, none⟩)) (c0 : W.cell? ⟨n, 0, none⟩ = some v) :
    (results fn tmps).run Tryz.prog W = .ok (.tuple #[v, tmps.getD t undef]) W := by
  have hp' : tmps[p]?.getD undef = .pointer (some ⟨n, 0, none⟩) := by simpa using hp
  simp [results, h, hp', go_sem, c0]
/-- Whether the numbers are those of one flat tree. -/
def trB (ks : List Nat) : Bool := decide (eat ks 1 = some [])
/-- What endsOf returns. -/
def EndV (ks : List Nat) (w : World) (e : Ending) (w' : World) : Prop :=
  ∃ v, e = .returned (.tuple #[v, .bool (trB ks)]) ∧ (trB ks = true → ∃ g, v = .slice (some ⟨g, 0, none⟩) ks.length ks.length ∧ w.heap.size ≤ g ∧ g < w'.heap.size ∧ ∀ (j q : Nat), (endsL ks)[j]? = some q → w'.cell? ⟨g, j, none⟩ = some (.int .i64 (q : Int))) ∧ (trB ks = false → v = .slice none 0 0) ∧ Below w.heap.size w w'
theorem natV_rep (n : Nat) : natV (List.replicate n 0) = List.replicate n (.int .i64 0) := by unfold natV; rw [List.map_replicate]; rfl
theorem trB_none {ks : List Nat} (h : (eat ks 1).isSome = false) : trB ks = false := by
  unfold trB; rw [decide_eq_false]; intro e; rw [e] at h; cases h
theorem trB_less {ks : List Nat} (h : endN ks 0 < ks.length) : trB ks = false := by
  unfold trB; rw [decide_eq_false]; intro e; rw [Tr.end_0 e] at h; omega
theorem trB_all {ks : List Nat} (h : (eat ks 1).isSome = true) (he : endN ks 0 = ks.length) : trB ks = true := by
  unfold trB; rw [decide_eq_true_iff]
  cases hq : eat ks 1 with
  | none => rw [hq] at h; cases h
  | some r =>
    have h3 := (endN_of (ks := ks) (p := 0) (r := r) (Nat.zero_le _) (by rw [List.drop_zero]; exact hq)).2.2
    rw [he, List.drop_length] at h3
    rw [h3]

theorem made_ints (n : Nat) : (madeCells #[.int .i64 0] n).toList = natV (List.replicate n 0) := by
  rw [natV_rep]
  apply List.ext_getElem
  · simp [size_madeCells]
  · intro j h1 h2
    simp [madeCells, Nat.mod_one]
theorem make_ints (u : World) (n : Nat) (hn : n ≤ 1000000) : (Instr.makeSlice 68 (.int .i64 (n : Int)) (.int .i64 (n : Int))).run Tryz.prog u = .ok (.slice (some ⟨u.heap.size, 0, none⟩) n n) (u.alloc (.cells (natV (List.replicate n 0)).toArray 3)) := by
  obtain ⟨i0, hi, hz0, hz1, hz2⟩ := info_parts2 infoSk
  have := run_makeSlice (P := Tryz.prog) u 68 3 i0 (.int .i64 0) Tryz.underlying68 hi hz0 .i64 .i64 n n (by omega) (by omega) (by rw [hz1]; omega) (by rw [hz2]; omega) (by omega)
  rw [← made_ints]
  simpa [hz1, Value.cells] using this
theorem own_ints (u : World) (n : Nat) (hn : n ≤ 1000000) {B : Nat} (hB : B ≤ u.heap.size) : (u.alloc (.cells (natV (List.replicate n 0)).toArray 3)).ownsRow B 3 1 (.slice (some ⟨u.heap.size, 0, none⟩) n n) n (natV (List.replicate n 0)) := by
  have h := own_mk u (natV (List.replicate n 0)) 3 n (by rw [natV_len, List.length_replicate]) (by unfold maxLen; omega)
  exact own_mono h hB

theorem winv_new (w : World) (a : Option Addr) (n c : Nat) (hn : n ≤ 1000000) (W : World)
    (hW : W = (((((w.alloc (.cells #[.slice a n c] 68)).alloc (.cells #[.slice (some ⟨w.heap.size + 1 + 1, 0, none⟩) n n] 68)).alloc (.cells (natV (List.replicate n 0)).toArray 3)).alloc (.cells #[.int .i64 0] 3)).alloc
      (.cells #[.func (.func 54) #[] #[.pointer (some ⟨w.heap.size + 1 + 1 + 1, 0, none⟩), .pointer (some ⟨w.heap.size, 0, none⟩), .pointer (some ⟨w.heap.size + 1 + 1 + 1 + 1, 0, none⟩), .pointer (some ⟨w.heap.size + 1, 0, none⟩)]] 26))) :
    WInv w.heap.size n (.slice a n c) W 0 (List.replicate n 0) ∧ Below w.heap.size w W := by
  subst hW
  refine ⟨⟨?_, ?_, ?_, ?_, ?_⟩, ?_⟩
  · exact ((((Boxed.new w _ _).alloc _).alloc _).alloc _).alloc _
  · have h := Boxed.new (w.alloc (.cells #[.slice a n c] 68)) 68 (.slice (some ⟨w.heap.size + 1 + 1, 0, none⟩) n n)
    rw [World.size_alloc] at h
    exact ((h.alloc _).alloc _).alloc _
  · have h := own_ints ((w.alloc (.cells #[.slice a n c] 68)).alloc (.cells #[.slice (some ⟨w.heap.size + 1 + 1, 0, none⟩) n n] 68)) n hn (B := w.heap.size) (by simp only [World.size_alloc]; omega)
    rw [World.size_alloc, World.size_alloc] at h
    exact (h.alloc _).alloc _
  · have h := Boxed.new (((w.alloc (.cells #[.slice a n c] 68)).alloc (.cells #[.slice (some ⟨w.heap.size + 1 + 1, 0, none⟩) n n] 68)).alloc (.cells (natV (List.replicate n 0)).toArray 3)) 3 (.int .i64 0)
    rw [World.size_alloc, World.size_alloc, World.size_alloc] at h
    exact h.alloc _
  · have h := Boxed.new ((((w.alloc (.cells #[.slice a n c] 68)).alloc (.cells #[.slice (some ⟨w.heap.size + 1 + 1, 0, none⟩) n n] 68)).alloc (.cells (natV (List.replicate n 0)).toArray 3)).alloc (.cells #[.int .i64 0] 3)) 26 (walkF w.heap.size)
    rw [World.size_alloc, World.size_alloc, World.size_alloc, World.size_alloc] at h
    exact h
  · exact (((((Below.refl _ w).alloc (Nat.le_refl _) _).alloc (by simp only [World.size_alloc]; omega) _).alloc (by simp only [World.size_alloc]; omega) _).alloc (by simp only [World.size_alloc]; omega) _).alloc (by simp only [World.size_alloc]; omega) _

set_option maxRecDepth 50000 in
set_option maxHeartbeats 3200000 in
theorem endsOf_any (a : Option Addr) (n c : Nat) (ks : List Nat) (w : World) (hn : ks.length = n) (hl : n ≤ 2000)
    (HK : Hid (0 < n → ∃ g o, a = some ⟨g, o, none⟩ ∧ g < w.heap.size ∧ ∀ (j q : Nat), ks[j]? = some q → w.cell? ⟨g, o + j, none⟩ = some (.int .i64 (q : Int)))) :
    Calls Tryz.prog 48 #[.slice a n c] w (EndV ks w) := by
  have hmk := Lib.hid (fun u => make_ints u n (by omega))
  have h0 := Lib.hid hn
  have hm1 := hmk.out ((w.alloc (.cells #[.slice a n c] 68)).alloc (.cells #[.slice none 0 0] 68))
  have hmf : ∀ (fn : Fn) (first cap : Array Value) (w : World), (Instr.makeFunc fn first cap).run Tryz.prog w = .ok (.func fn first cap) w := fun _ _ _ _ => rfl
  clear hn
  go_enter Tryz.func48, Tryz.ntmps48
  go_wp2_with fail
  -- MARK1
  obtain ⟨W5, hW5⟩ : ∃ W5, W5 = (((((w.alloc (.cells #[.slice a n c] 68)).alloc (.cells #[.slice (some ⟨w.heap.size + 1 + 1, 0, none⟩) n n] 68)).alloc (.cells (natV (List.replicate n 0)).toArray 3)).alloc (.cells #[.int .i64 0] 3)).alloc
      (.cells #[.func (.func 54) #[] #[.pointer (some ⟨w.heap.size + 1 + 1 + 1, 0, none⟩), .pointer (some ⟨w.heap.size, 0, none⟩), .pointer (some ⟨w.heap.size + 1 + 1 + 1 + 1, 0, none⟩), .pointer (some ⟨w.heap.size + 1, 0, none⟩)]] 26)) := ⟨_, rfl⟩
  obtain ⟨hI, hbI⟩ := winv_new w a n c (by omega) W5 hW5
  rw [← hW5]
  have C := Lib.hid (walk_any w.heap.size n c a ks w h0.out hl HK n 0 (List.replicate n 0) W5 (by omega) (Nat.zero_le _) (List.length_replicate ..) (Lib.hid hI) hbI)
  clear hm1 hmk hW5 hI hbI
  refine C.out.mono ?_
  rintro e w1 ⟨rfl, hb1, p, es', HW, hes', hp, HR⟩
  rw [List.drop_zero] at HR ⊢
  have c1 : w1.cell? ⟨w.heap.size + 1 + 1 + 1, 0, none⟩ = some (.int .i64 (p : Int)) := HW.out.next.cell
  have c2 := HW.out.kids.cell
  have c3 := HW.out.ends.cell
  have f3 := HW.out.ends.frozen
  have hlt3 := HW.out.ends.lt
  obtain ⟨b, hb⟩ : ∃ b, (eat ks 1).isSome = b := ⟨_, rfl⟩
  rw [hb] at HR ⊢
  have HB := Lib.hid hb
  clear hb
  cases b with
  | false =>
    have HT := Lib.hid (trB_none HB.out)
    clear HR
    go_wp2_with fail
    -- MARK2
    refine bodyPost_ret (results_boxL rfl _ _ (w.heap.size + 1) _ rfl (World.cell?_setCell_same _ _ _ c3)) rfl ?_
    exact ⟨_, by rw [HT.out]; rfl, fun h => (by rw [HT.out] at h; cases h), fun _ => rfl, hb1.setCell (by show w.heap.size ≤ w.heap.size + 1; omega) _⟩
  | true =>
    by_cases hpn : p < n
    · have HT : Hid (trB ks = false) := Lib.hid (trB_less (by rw [← (HR.out rfl).1, h0.out]; exact hpn))
      have hd : decide ((p : Int) < (n : Int)) = true := decide_eq_true (by omega)
      clear HR
      go_wp2_with fail
      -- MARK3
      refine bodyPost_ret (results_boxL rfl _ _ (w.heap.size + 1) _ rfl (World.cell?_setCell_same _ _ _ c3)) rfl ?_
      exact ⟨_, by rw [HT.out]; rfl, fun h => (by rw [HT.out] at h; cases h), fun _ => rfl, hb1.setCell (by show w.heap.size ≤ w.heap.size + 1; omega) _⟩
    · obtain rfl : p = n := by omega
      have HT : Hid (trB ks = true) := Lib.hid (trB_all HB.out (by rw [← (HR.out rfl).1, h0.out]))
      have HE : Hid (es' = endsL ks) := Lib.hid (by
        have h1 := (HR.out rfl).2
        rw [← h0.out] at h1
        exact h1.whole (by rw [List.length_replicate, h0.out]))
      have hd : decide ((p : Int) < (p : Int)) = false := decide_eq_false (by omega)
      have HRow := Lib.hid HW.out.row
      clear HR
      go_wp2_with fail
      -- MARK4
      refine bodyPost_ret (results_boxL rfl _ _ (w.heap.size + 1) _ rfl (World.cell?_setCell_same _ _ _ c3)) rfl ?_
      have hrow := ownsRow_setCell_other HRow.out (a := ⟨w.heap.size + 1, 0, none⟩) (by simp [Value.ownBlock]) (.slice (some ⟨w.heap.size + 2, 0, none⟩) p p)
      refine ⟨_, by rw [HT.out]; rfl, fun _ => ⟨w.heap.size + 2, by rw [h0.out], by omega, ?_, fun j q hj => ?_⟩, fun h => (by rw [HT.out] at h; cases h), hb1.setCell (by show w.heap.size ≤ w.heap.size + 1; omega) _⟩
      · rcases own_form hrow with ⟨hv, _⟩ | ⟨g, c, hv, _, hg⟩
        · cases hv
        · cases hv; exact hg
      · rw [← HE.out] at hj
        exact own_cell hrow (natV_at hj)
end Go.Proofs.YtdiinlmeoifgjaaGreatDoor

/- Shape. -/
namespace Go.Proofs.YtdiinlmeoifgjaaGreatDoor
open Go.RowKit Go.PlainAid

/-- What Shape returns. -/
def shapeS (l : List Int) : List Nat × Int := if 2000 < l.length then ([], 3) else if l.any (fun x => decide (x < 0)) then ([], 7) else if trB (l.map Int.toNat) then (endsL (l.map Int.toNat), 0) else ([], 6)
def ShapeV (l : List Int) (w : World) (e : Ending) (w' : World) : Prop :=
  ∃ v, e = .returned (.tuple #[v, .int .i64 (shapeS l).2]) ∧ IntRow w' v ((shapeS l).1.map fun q : Nat => (q : Int)) ∧ Below w.heap.size w w'
theorem shape_long {l : List Int} (h : 2000 < l.length) : shapeS l = ([], 3) := by unfold shapeS; rw [if_pos h]
theorem shape_neg {l : List Int} (h : ¬ 2000 < l.length) {k : Nat} {x : Int} (hk : l[k]? = some x) (hx : x < 0) : shapeS l = ([], 7) := by
  unfold shapeS
  rw [if_neg h, if_pos (List.any_eq_true.2 ⟨x, List.mem_of_getElem? hk, decide_eq_true hx⟩)]
theorem shape_else {l : List Int} (h : ¬ 2000 < l.length) (hx : ∀ (k : Nat) (x : Int), l[k]? = some x → 0 ≤ x) : shapeS l = if trB (l.map Int.toNat) then (endsL (l.map Int.toNat), 0) else ([], 6) := by
  unfold shapeS
  have : l.any (fun x => decide (x < 0)) = false := by
    rw [List.any_eq_false]
    intro x hm
    obtain ⟨k, hk⟩ := List.getElem?_of_mem hm
    have := hx k x hk
    simp; omega
  rw [if_neg h, this, if_neg (by decide)]
theorem row_nil (w : World) : IntRow w (.slice none 0 0) [] := ⟨none, 0, rfl, .inl rfl⟩

set_option maxRecDepth 50000 in
set_option maxHeartbeats 3200000 in
theorem Shape_any (v : Value) (l : List Int) (w : World) (h : IntRow w v l) : Calls Tryz.prog 41 #[v] w (ShapeV l w) := by
  obtain ⟨a, c, rfl, hA⟩ := h
  by_cases hlong : 2000 < l.length
  · have HV := Lib.hid (shape_long hlong)
    obtain ⟨n, hn⟩ : ∃ n, l.length = n := ⟨_, rfl⟩
    have hd : decide ((2000 : Int) < (n : Int)) = true := decide_eq_true (by omega)
    rw [hn]
    clear hA hlong hn
    go_enter Tryz.func41, Tryz.ntmps41
    go_wp2_with fail
    go_ret2
    exact ⟨_, by rw [HV.out]; rfl, by rw [HV.out]; exact row_nil _, Below.refl _ _⟩
  · have HL := Lib.hid hlong
    have HA := Lib.hid hA
    obtain ⟨n, hn⟩ : ∃ n, l.length = n := ⟨_, rfl⟩
    have HN := Lib.hid hn
    have hd : decide ((2000 : Int) < (n : Int)) = false := decide_eq_false (by omega)
    have hn2 : n ≤ 2000 := by omega
    rw [hn]
    clear hA hlong hn
    go_enter Tryz.func41, Tryz.ntmps41
    go_wp2_with fail
    -- MARK1
    go_loop [12] (fun x => ∃ k : Nat, x = .int .i64 (k : Int) ∧ k ≤ n ∧ Hid (∀ (j : Nat) (x : Int), j < k → l[j]? = some x → 0 ≤ x)) (fun x => n - (intOf x).toNat)
    case atStart => exact ⟨0, rfl, Nat.zero_le _, Lib.hid (fun j x h => by omega)⟩
    case round =>
      obtain ⟨k, rfl, hk, HP⟩ := hrel
      have hk0 : (0 : Int) ≤ (k : Int) := Int.natCast_nonneg _
      by_cases hlt : k < n
      · obtain ⟨x, hx⟩ : ∃ x, l[k]? = some x := ⟨_, List.getElem?_eq_getElem (by rw [HN.out]; exact hlt)⟩
        rcases HA.out with hnil | ⟨g, off, rfl, hg, hc⟩
        · rw [hnil] at hx; cases hx
        have d0 := hc k x hx
        have HX := Lib.hid hx
        have hk1 : (k : Int) < (n : Int) := by omega
        clear hx hc
        by_cases hneg : x < 0
        · have HV := Lib.hid (shape_neg HL.out HX.out hneg)
          have hd2 : decide (x < 0) = true := decide_eq_true hneg
          clear hneg
          go_wp2_with fail
          go_ret2
          exact ⟨_, by rw [HV.out]; rfl, by rw [HV.out]; exact row_nil _, Below.refl _ _⟩
        · have hd2 : decide (x < 0) = false := decide_eq_false hneg
          have HP2 : Hid (∀ (j : Nat) (x : Int), j < k + 1 → l[j]? = some x → 0 ≤ x) := Lib.hid fun j y hj hy => by
            by_cases e : j = k
            · subst e; rw [HX.out] at hy; have := Option.some.inj hy; omega
            · exact HP.out j y (by omega) hy
          clear hneg
          go_wp2_with fail
          go_round
          case rel => exact ⟨k + 1, by go_num, by omega, HP2⟩
          case measure => simp [intOf]; omega
      · obtain rfl : k = n := by omega
        have HV := Lib.hid (shape_else HL.out fun j x hj => HP.out j x (by rw [← HN.out]; exact (List.getElem?_eq_some_iff.1 hj).1) hj)
        have hkl : (l.map Int.toNat).length = k := by rw [List.length_map, HN.out]
        have C := Lib.hid (endsOf_any a k c (l.map Int.toNat) w hkl hn2 (Lib.hid fun hpos => by
          rcases HA.out with hnil | ⟨g, off, e, hg, hc⟩
          · have := HN.out; rw [hnil] at this; simp at this; omega
          · refine ⟨g, off, e, hg, fun j q hj => ?_⟩
            rw [List.getElem?_map] at hj
            cases hq : l[j]? with
            | none => rw [hq] at hj; cases hj
            | some x =>
              rw [hq] at hj
              have hx0 := HP.out j x (by rw [← HN.out]; exact (List.getElem?_eq_some_iff.1 hq).1) hq
              have hxq : x.toNat = q := Option.some.inj hj
              rw [hc j x hq]
              congr 2; omega))
        have HKL := Lib.hid hkl
        clear hkl
        go_wp2_with fail
        -- MARK2
        refine C.out.mono ?_
        rintro e w1 ⟨ve, rfl, hyes, hno, hb⟩
        obtain ⟨b, hbE⟩ : ∃ b, trB (l.map Int.toNat) = b := ⟨_, rfl⟩
        rw [hbE] at hyes hno ⊢
        have HBE := Lib.hid hbE
        clear hbE C
        cases b with
        | true =>
          obtain ⟨ge, rfl, _, hgl, hgc⟩ := hyes rfl
          have HGC := Lib.hid hgc
          clear hgc hyes hno
          rw [HKL.out]
          go_wp2_with fail
          go_ret2
          refine ⟨_, by rw [HV.out, HBE.out]; rfl, ?_, hb⟩
          rw [HV.out, HBE.out]
          refine ⟨_, _, by rw [if_pos rfl]; show _ = Value.slice _ (List.map _ (endsL _)).length _; rw [List.length_map, endsL_len, HKL.out]; rfl, .inr ⟨ge, 0, rfl, hgl, fun j x hj => ?_⟩⟩
          rw [if_pos rfl] at hj
          replace hj : ((endsL (l.map Int.toNat)).map fun q : Nat => (q : Int))[j]? = some x := hj
          rw [List.getElem?_map] at hj
          cases hq : (endsL (l.map Int.toNat))[j]? with
          | none => rw [hq] at hj; cases hj
          | some q =>
            rw [hq] at hj
            rw [Nat.zero_add, HGC.out j q hq]
            cases hj; rfl
        | false =>
          obtain rfl := hno rfl
          clear hyes hno
          go_wp2_with fail
          go_ret2
          refine ⟨_, by rw [HV.out, HBE.out]; rfl, ?_, hb⟩
          rw [HV.out, HBE.out]
          exact row_nil _
end Go.Proofs.YtdiinlmeoifgjaaGreatDoor
