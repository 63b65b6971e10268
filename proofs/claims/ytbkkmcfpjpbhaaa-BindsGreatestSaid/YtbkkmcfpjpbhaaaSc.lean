/- scopes.Check. -/
import Derived.Test.YtbkkmcfpjpbhaaaSe
namespace Go.Proofs.Ytbkkmcfpjpbhaaa
open Go.RowKit Go.Shelf Go.PlainAid

attribute [local go_sem] Oper.semAt_some

theorem set_block {W : World} {b i : Nat} {c : Array Value} {t : TypeId} {fr : Nat × Nat} (v : Value) (h : W.heap[b]? = some (.cells c t fr)) :
    (W.setCell ⟨b, i, none⟩ v).heap[b]? = some (.cells (c.setIfInBounds i v) t fr) := by
  simp [World.setCell, Array.getElem?_modify, h]
theorem set_other {W : World} {b i k : Nat} (v : Value) (h : k ≠ b) : (W.setCell ⟨b, i, none⟩ v).heap[k]? = W.heap[k]? := Below.heap_setCell _ _ _ k h
theorem tooMany_any (n : Int) (w : World) : Calls Try.prog 55 #[.int .i64 n] w fun e w' => e = .returned (.bool (decide (10000 < n))) ∧ w' = w := by
  go_enter Try.func55, Try.ntmps55
  go_wp2_with fail
  go_ret
  exact ⟨rfl, rfl⟩
/-- The last scope so far. -/
def lastV (pre : List Nat) : Int := match pre.getLast? with | some x => (x : Int) | none => -1
theorem lastV_app (pre : List Nat) (x : Nat) : lastV (pre ++ [x]) = (x : Int) := by unfold lastV; simp
theorem asc_app {pre : List Nat} {x : Nat} (h : asc pre) : asc (pre ++ [x]) ↔ lastV pre < (x : Int) := by
  unfold lastV
  cases hp : pre.getLast? with
  | none =>
    obtain rfl : pre = [] := List.getLast?_eq_none_iff.1 hp
    simp [asc_one]; omega
  | some y =>
    obtain ⟨q, rfl⟩ := List.getLast?_eq_some_iff.1 hp
    obtain ⟨h1, _, h3⟩ := List.pairwise_append.1 h
    simp only
    constructor
    · intro h4
      have := (List.pairwise_append.1 h4).2.2 y (by simp) x (by simp)
      omega
    · intro h4
      refine List.pairwise_append.2 ⟨h, asc_one x, fun z hz u hu => ?_⟩
      obtain rfl : u = x := by simpa using hu
      rcases List.mem_append.1 hz with hz | hz
      · have := h3 z hz y (by simp); omega
      · obtain rfl : z = y := by simpa using hz
        omega
theorem asc_pre {pre l : List Nat} (h : asc l) (hp : pre <+: l) : asc pre := List.Pairwise.sublist hp.sublist h
theorem lastV_bd {pre l : List Nat} (hp : pre <+: l) (hl : ∀ x ∈ l, x < 65536) : -1 ≤ lastV pre ∧ lastV pre < 65536 := by
  unfold lastV
  cases h : pre.getLast? with
  | none => simp
  | some x => have := hl x (hp.subset (List.mem_of_getLast? h)); simp only; omega
/-- In the loop. -/
def CkI (A : Nat) (w : World) (pre : List Nat) (W : World) : Prop :=
  asc pre ∧ W.heap[A]? = some (.cells #[.int .i64 0] 27 (0, 0)) ∧ W.heap[A + 1]? = some (.cells #[.int .i64 (lastV pre)] 3 (0, 0)) ∧ Below A w W
def CkX (A : Nat) (w : World) (c : Code) (pre : List Nat) (W : World) : Prop :=
  c = .ret ∧ ¬ asc pre ∧ W.heap[A]? = some (.cells #[.int .i64 6] 27 (0, 0)) ∧ Below A w W
theorem ckI_bears (A : Nat) (w : World) : Bears (A + 3) (A + 3 + 2 + 0) (CkI A w) := by
  intro pre W W' row h hg hr
  obtain ⟨h0, h1, h2, h3⟩ := h
  exact ⟨h0, (hg.block A (Array.getElem?_eq_some_iff.1 h1).1 fun e => by have := hr _ e.symm; omega).trans h1, (hg.block (A + 1) (Array.getElem?_eq_some_iff.1 h2).1 fun e => by have := hr _ e.symm; omega).trans h2,
    h3.grown hg (Nat.le_of_lt (Array.getElem?_eq_some_iff.1 h1).1) (fun k e => by have := hr _ e; omega)⟩
theorem ckX_bears (A : Nat) (w : World) (c : Code) : Bears (A + 3) (A + 3 + 2 + 0) (CkX A w c) := by
  intro pre W W' row h hg hr
  obtain ⟨h0, h0', h1, h3⟩ := h
  exact ⟨h0, h0', (hg.block A (Array.getElem?_eq_some_iff.1 h1).1 fun e => by have := hr _ e.symm; omega).trans h1,
    h3.grown hg (Nat.le_of_lt (Array.getElem?_eq_some_iff.1 h1).1) (fun k e => by have := hr _ e; omega)⟩
def CkA (A : Nat) (w : World) (pre : List Nat) (x : Nat) (a : Act) (W : World) : Prop :=
  CkI A w pre W ∧ ∃ u0 u1 u5 u6 u7 u8 u9 u10 u11 u12 u13 u14 u15 u16 u17 u18 u19 : Value,
    a = { tmps := #[u0, u1, .pointer (some ⟨A, 0, none⟩), .pointer (some ⟨A + 1, 0, none⟩), .int .i64 (x : Int), u5, u6, u7, u8, u9, u10, u11, u12, u13, u14, u15, u16, u17, u18, u19], defers := [] }
theorem ckA_bears (A : Nat) (w : World) (pre : List Nat) (x : Nat) : Bears (A + 3) (A + 3 + 2 + 0) (CkA A w pre x) := by
  intro a W W' row h hg hr
  exact ⟨ckI_bears A w pre W W' row h.1 hg hr, h.2⟩

set_option maxRecDepth 50000 in
set_option maxHeartbeats 1600000 in
theorem check_even (l : List Nat) (w : World) (hx : ∀ x ∈ l, x < 65536) (hL : l.length ≤ 1000000) :
    CallsIn Fence.wide 5 Try.prog 46 #[.string (str (setL l))] w fun e w' => e = .returned (.int .i64 (chkE (setL l))) ∧ Below w.heap.size w w' := by
  obtain ⟨m, hm⟩ : ∃ m, l.length = m := ⟨_, rfl⟩
  have HS : Hid ((str (setL l)).size = 2 * m) := Lib.hid (by rw [str_size, setL_len, hm])
  have HX := Lib.hid hx
  have hmb : m ≤ 1000000 := by omega
  have hseqA := Lib.hid (fun (W0 : World) (A : Nat) (hsz : W0.heap.size = A + 3) (hv : W0.heap[A + 2]? = some (.cells #[.string (str (setL l))] 9 (0, 0))) =>
    each_seq (5 - 1) (A + 2) (fun k => k = A + 2) l W0 (by omega) hx hL (fun k hk => by omega) rfl hv)
  have HV1 : Hid (¬ asc l → chkE (setL l) = 6) := Lib.hid (fun h => chkE_no (by rw [ids_set l hx]; exact h))
  have HV2 : Hid (asc l → chkE (setL l) = if 10000 < m then 3 else 0) := Lib.hid (fun h => by rw [chkE_set h hx, hm])
  obtain ⟨S, hS⟩ : ∃ S, str (setL l) = S := ⟨_, rfl⟩
  rw [hS] at HS hseqA
  have e0 : (S.size : Int) = 2 * (m : Int) := by rw [HS.out]; omega
  have e1 : ((S.size : Int).tmod 2 != 0) = false := by rw [e0]; simp
  rw [hS]
  clear hx hS hm
  refine callsIn_of_wp_marks Try.func46 rfl trivial ?_ rfl
  simp only [Try.ntmps46, List.size_toArray, List.length_cons, List.length_nil, Nat.reduceAdd, Nat.reduceSub, Array.replicate_succ, Array.replicate_zero, List.push_toArray, List.append_toArray, List.nil_append, List.cons_append]
  gi_wp2
  -- MARK1
  refine ⟨trivial, (callsIn_wide.2 (each_any S _)).mono ?_⟩
  rintro e w1 ⟨rfl, rfl⟩
  gi_wp2
  obtain ⟨W0, hW0⟩ : ∃ W0, W0 = ((w.alloc (.cells #[.int .i64 0] 27)).alloc (.cells #[.int .i64 (-1)] 3)).alloc (.cells #[.string S] 9) := ⟨_, rfl⟩
  rw [← hW0]
  obtain ⟨A, hA⟩ : ∃ A, w.heap.size = A := ⟨_, rfl⟩
  have hsz : W0.heap.size = A + 3 := by rw [hW0, ← hA]; simp
  have hbel : Below A w W0 := by
    rw [hW0, ← hA]
    exact (((Below.refl _ w).alloc (Nat.le_refl _) _).alloc (by simp only [World.size_alloc]; omega) _).alloc (by simp only [World.size_alloc]; omega) _
  have ha0 : W0.heap[A]? = some (.cells #[.int .i64 0] 27 (0, 0)) := by
    rw [hW0, ← hA]; exact (Below.heap_alloc _ _ _ (by simp only [World.size_alloc]; omega)).trans ((Below.heap_alloc _ _ _ (by simp only [World.size_alloc]; omega)).trans (World.alloc_heap_new _ _))
  have ha1 : W0.heap[A + 1]? = some (.cells #[.int .i64 (-1)] 3 (0, 0)) := by
    rw [hW0, ← hA]
    refine (Below.heap_alloc _ _ _ (by simp only [World.size_alloc]; omega)).trans ?_
    have := World.alloc_heap_new (w.alloc (.cells #[.int .i64 0] 27)) (.cells #[.int .i64 (-1)] 3); rwa [World.size_alloc] at this
  have ha2 : W0.heap[A + 2]? = some (.cells #[.string S] 9 (0, 0)) := by
    rw [hW0, ← hA]
    have := World.alloc_heap_new ((w.alloc (.cells #[.int .i64 0] 27)).alloc (.cells #[.int .i64 (-1)] 3)) (.cells #[.string S] 9); rwa [World.size_alloc, World.size_alloc] at this
  clear hW0
  rw [hA]
  have hseq := hseqA.out W0 A hsz ha2
  refine wpIn_rangeB (by omega) rfl (enters_of Try.func58 (by kernel_rfl) rfl) hseq (Below.refl _ _) (fun k hk => by omega) (fun _ => rfl) (CkI A w) (CkX A w) (by rw [hsz]; exact ckI_bears A w) (fun c => by rw [hsz]; exact ckX_bears A w c) ?_ (CkA A w) (fun pre x => by rw [hsz]; exact ckA_bears A w pre x) ?_ ?_ ?_ ?_
  · exact ⟨asc_nil, ha0, ha1, hbel⟩
  · intro l pre x W K hI hW hK
    rw [hsz] at hW hK
    simp only [encN]
    gi_wp2
    exact hK _ _ (KeepsB.refl _ _ _ _) ⟨hI, _, _, _, _, _, _, _, _, _, _, _, _, _, _, _, _, _, rfl⟩
  · intro l' pre x a' W hAx hW hlen
    rw [hsz] at hW
    obtain ⟨⟨r0, r1, r2, r3⟩, u0, u1, u5, u6, u7, u8, u9, u10, u11, u12, u13, u14, u15, u16, u17, u18, u19, rfl⟩ := hAx
    have hc0 : W.cell? ⟨A, 0, none⟩ = some (.int .i64 0) := by simp [World.cell?, r1]
    have hz0 : W.frozen? ⟨A, 0, none⟩ = false := by simp [World.frozen?, r1]
    have hc1 : W.cell? ⟨A + 1, 0, none⟩ = some (.int .i64 (lastV pre)) := by simp [World.cell?, r2]
    have hz1 : W.frozen? ⟨A + 1, 0, none⟩ = false := by simp [World.frozen?, r2]
    have HA2 := Lib.hid (asc_app (x := x) r0)
    have HLv := Lib.hid (lastV_app pre x)
    obtain ⟨lv, hlv⟩ : ∃ lv, lastV pre = lv := ⟨_, rfl⟩
    rw [hlv] at hc1 HA2
    rw [hsz]
    clear hlv
    by_cases hle : (x : Int) ≤ lv
    · have hd : decide ((x : Int) ≤ lv) = true := decide_eq_true hle
      gi_wp2
      -- MARK2
      refine ⟨⟨(KeepsWalks.setCell W _ _).size, fun k hk => set_other _ (by rcases hk with hk | hk <;> omega)⟩, rfl, ?_, ?_, r3.setCell (Nat.le_refl A) _⟩
      · rw [HA2.out]; omega
      · exact set_block _ r1
    · have hd : decide ((x : Int) ≤ lv) = false := decide_eq_false hle
      gi_wp2
      -- MARK3
      refine ⟨⟨(KeepsWalks.setCell W _ _).size, fun k hk => set_other _ (by rcases hk with hk | hk <;> omega)⟩, HA2.out.2 (by omega), ?_, ?_, r3.setCell (Nat.le_succ A) _⟩
      · exact (set_other _ (by omega)).trans r1
      · have := set_block (i := 0) (.int .i64 (x : Int)) r2
        rw [this, HLv.out]; rfl
  · intro xs W hSS hI hD
    rw [hsz] at hD
    subst hSS
    obtain ⟨r0, r1, r2, r3⟩ := hI
    have HV := HV2.out r0
    have hc0 : W.cell? ⟨A, 0, none⟩ = some (.int .i64 0) := by simp [World.cell?, r1]
    have hz0 : W.frozen? ⟨A, 0, none⟩ = false := by simp [World.frozen?, r1]
    have C := Lib.hid (tooMany_any (m : Int) W)
    rw [hsz]
    have e2 : IntKind.i64.wrap ((2 * (m : Int)).tdiv 2) = (m : Int) := by rw [Int.mul_tdiv_cancel_left _ (by decide), IntKind.wrap_i64]; omega
    gi_wp2
    -- MARK4
    refine ⟨trivial, (callsIn_wide.2 C.out).mono ?_⟩
    rintro e w3 ⟨rfl, rfl⟩
    have hfin : ∀ u0 : Value, (w3.setCell ⟨A, 0, none⟩ u0).heap[A + 3]? = some (.deferred (some [])) := fun u0 => (set_other _ (by omega)).trans hD
    have hres : ∀ u0 : Value, ((w3.setCell ⟨A, 0, none⟩ u0).putObj (A + 3) (.deferred none)).cell? ⟨A, 0, none⟩ = some u0 ∧ Below A w ((w3.setCell ⟨A, 0, none⟩ u0).putObj (A + 3) (.deferred none)) := by
      intro u0
      have g0 : (w3.setCell ⟨A, 0, none⟩ u0).heap[A]? = some (.cells #[u0] 27 (0, 0)) := set_block _ r1
      refine ⟨?_, ?_⟩
      · rw [World.cell?_of_block (World.putObj_heap_other (by show A ≠ A + 3; omega))]; simp [World.cell?, g0]
      · exact (r3.setCell (Nat.le_refl A) _).grown (grownBy_putObj' _ _ _) (by have := Array.getElem?_eq_some_iff.1 g0; exact Nat.le_of_lt this.1) (fun k e => by cases e; omega)
    by_cases hm : 10000 < m
    · have hd : decide ((10000 : Int) < (m : Int)) = true := decide_eq_true (by omega)
      rw [if_pos hm] at HV
      gi_wp2
      obtain ⟨q0, q2⟩ := hres (.int .i64 3)
      refine ⟨by simp, .inl ⟨_, _, rfl, run_takeDeferred (hfin _), ?_⟩⟩
      refine ⟨.int .i64 3, by simp [results, Try.results46, go_sem, q0], ?_, ?_⟩
      · rw [HV]
      · rw [hA]; exact q2
    · have hd : decide ((10000 : Int) < (m : Int)) = false := decide_eq_false (by omega)
      rw [if_neg hm] at HV
      gi_wp2
      obtain ⟨q0, q2⟩ := hres (.int .i64 0)
      refine ⟨by simp, .inl ⟨_, _, rfl, run_takeDeferred (hfin _), ?_⟩⟩
      refine ⟨.int .i64 0, by simp [results, Try.results46, go_sem, q0], ?_, ?_⟩
      · rw [HV]
      · rw [hA]; exact q2
  · intro c pre W hSp hIx hD
    rw [hsz] at hD
    rw [hsz]
    obtain ⟨rfl, h1, r0, r1⟩ := hIx
    have HV := HV1.out (fun h => h1 (asc_pre h hSp))
    have q0 : (W.putObj (A + 3) (.deferred none)).cell? ⟨A, 0, none⟩ = some (.int .i64 6) := by
      rw [World.cell?_of_block (World.putObj_heap_other (by show A ≠ A + 3; omega))]; simp [World.cell?, r0]
    gi_wp2
    -- MARK5
    refine ⟨by simp, .inl ⟨_, _, rfl, run_takeDeferred hD, ?_⟩⟩
    refine ⟨.int .i64 6, by simp [results, Try.results46, go_sem, q0], ?_, ?_⟩
    · rw [HV]
    · rw [hA]; exact r1.grown (grownBy_putObj' _ _ _) (Nat.le_of_lt (Array.getElem?_eq_some_iff.1 r0).1) (fun k e => by cases e; omega)

set_option maxRecDepth 50000 in
set_option maxHeartbeats 1600000 in
theorem check_odd (L : List UInt8) (w : World) (h : L.length % 2 ≠ 0) : Calls Try.prog 46 #[.string (str L)] w fun e w' => e = .returned (.int .i64 (chkE L)) ∧ Below w.heap.size w w' := by
  have HV := Lib.hid (chkE_odd h)
  obtain ⟨S, hS⟩ : ∃ S, str L = S := ⟨_, rfl⟩
  have e1 : ((S.size : Int) % 2 != 0) = true := by
    rw [bne_iff_ne, ← hS, str_size]; omega
  rw [hS]
  clear hS h
  go_enter Try.func46, Try.ntmps46
  go_wp2
  -- MARK6
  obtain ⟨W1, hW1⟩ : ∃ W1, W1 = (w.alloc (.cells #[.int .i64 6] 27)) := ⟨_, rfl⟩
  have g0 : W1.heap[w.heap.size]? = some (.cells #[.int .i64 6] 27 (0, 0)) := by rw [hW1]; exact World.alloc_heap_new _ _
  have hb1 : Below w.heap.size w W1 := by rw [hW1]; exact (Below.refl _ w).alloc (Nat.le_refl _) _
  rw [← hW1]
  clear hW1
  have q0 : W1.cell? ⟨w.heap.size, 0, none⟩ = some (.int .i64 6) := by simp [World.cell?, g0]
  exact bodyPost_ret (v := .int .i64 6) (by simp [results, Try.results46, go_sem, q0]) rfl ⟨by rw [HV.out], hb1⟩
theorem check_any (L : List UInt8) (w : World) (hL : L.length ≤ 1000000) : Calls Try.prog 46 #[.string (str L)] w fun e w' => e = .returned (.int .i64 (chkE L)) ∧ Below w.heap.size w w' := by
  by_cases h : L.length % 2 = 0
  · have := callsIn_wide.1 (check_even (idsL L) w (ids_lt L) (by rw [ids_len]; omega))
    rw [set_ids L h] at this; exact this
  · exact check_odd L w h
end Go.Proofs.Ytbkkmcfpjpbhaaa
