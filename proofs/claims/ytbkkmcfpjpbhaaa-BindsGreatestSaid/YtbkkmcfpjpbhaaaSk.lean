/- scopes.merge: two sets, scope by scope. (Written by tools/gen_sk.py.) -/
import Derived.Test.YtbkkmcfpjpbhaaaSj
import Derived.ScopeJumps
import Derived.BigQuiet
import Derived.Deep.RegionHeld3
import Derived.Deep.RegionWith
import Derived.Deep.DeepCutAuto
import Derived.Lib.Strings
import Derived.Laws.Cover1
namespace Go.Proofs.Ytbkkmcfpjpbhaaa
open Go.RowKit Go.PlainAid

def choV (f b s : Bool) : Value := .agg #[.bool f, .bool b, .bool s]
def szV : Value → Nat
  | .string s => s.size
  | _ => 0
theorem ext_str (s : ByteArray) (f k : Nat) : s.extract f k = str ((s.data.toList.drop f).take (k - f)) := by
  rw [← str_data (s.extract f k), Lib.extract_data]
theorem cut_head (x : Nat) (l : List Nat) : (str (setL (x :: l))).extract 0 2 = str [hiB x, loB x] ∧ (str (setL (x :: l))).extract 2 (str (setL (x :: l))).size = str (setL l) := by
  constructor
  · rw [ext_str, str_list]; rfl
  · rw [ext_str, str_list, str_size]
    congr 1
    show List.take _ (setL l) = setL l
    rw [List.take_of_length_le]
    show (setL l).length ≤ (setL (x :: l)).length - 2
    rw [setL]; simp
/-- A scope whose label stands before its body: the body is walked once. -/
theorem wp_scope_once {P : Program} {Q : Exit → Act → World → Prop} {a : Act} {w : World} {c body : Code} (l : Nat) (J : Act → World → Prop) (μ : Act → World → Nat) (hf : findLabel c l = some (Code.seq .skip body))
    (first : (∀ a w, J a w → body.wp P (Exit.jump l J Q) a w) → c.wp P (Exit.jump l J Q) a w)
    (pass : ∀ a w, J a w → body.wp P (Exit.jump l (fun a' w' => J a' w' ∧ μ a' w' < μ a w) Q) a w) : (Code.scope c).wp P Q a w := by
  refine wp_scope_jumps l J μ hf (first fun a w h => Code.wp_mono ?_ (pass a w h)) fun a w h => wp_seq (wp_skip (pass a w h))
  rintro e a1 w1 h
  cases e with
  | goto t => exact ⟨h.1, h.2.1⟩
  | _ => exact h
/-- What merge has made, and what is left. -/
structure MgOk (f b s : Bool) (l m lc mc X : List Nat) : Prop where
  sum : mg f b s l m = X ++ mg f b s lc mc
  l64 : ∀ x ∈ lc, x < 65536
  m64 : ∀ x ∈ mc, x < 65536
  len : X.length + lc.length + mc.length ≤ 200000
/-- The state at the label. -/
def MgJ (f b s : Bool) (l m : List Nat) (w : World) (a' : Act) (w' : World) : Prop :=
  ∃ (lc mc X : List Nat) (S T : ByteArray) (v : Value) (u2 u3 u4 u8 u9 u10 u11 u12 u13 u14 u15 u16 u17 u18 u19 u20 u21 u22 u23 u24 u25 u26 u27 u28 u29 u30 u31 u32 u33 u34 u35 u36 u37 u38 u39 u40 u41 u42 u43 u44 u45 u46 u47 u48 u49 u50 u51 u52 u53 u54 u55 u56 u57 u58 u59 u60 u61 u62 u63 : Value), MgOk f b s l m lc mc X ∧ S = str (setL lc) ∧ T = str (setL mc) ∧
    a' = { tmps := #[.string S, .string T, u2, u3, u4, .pointer (some ⟨w.heap.size, 0, none⟩), .string ⟨#[]⟩, v, u8, u9, u10, u11, u12, u13, u14, u15, u16, u17, u18, u19, u20, u21, u22, u23, u24, u25, u26, u27, u28, u29, u30, u31, u32, u33, u34, u35, u36, u37, u38, u39, u40, u41, u42, u43, u44, u45, u46, u47, u48, u49, u50, u51, u52, u53, u54, u55, u56, u57, u58, u59, u60, u61, u62, u63], defers := [] } ∧
    w'.ownsRow (w.heap.size + 1) 5 1 v (setL X).length ((setL X).map bc) ∧ w'.heap[w.heap.size]? = some (.cells #[.bool f, .bool b, .bool s] 88 (0, 0)) ∧ Below w.heap.size w w'
/-- What appendIf keeps. -/
def MgSt (f b s : Bool) (w : World) (v : Value) (Y : List UInt8) (W : World) : Prop :=
  W.ownsRow (w.heap.size + 1) 5 1 v Y.length (Y.map bc) ∧ W.heap[w.heap.size]? = some (.cells #[.bool f, .bool b, .bool s] 88 (0, 0)) ∧ Below w.heap.size w W
theorem mgSt_app {f b s : Bool} {w : World} {v : Value} {Y : List UInt8} {W : World} (h : MgSt f b s w v Y W) (c : Bool) (z : List UInt8) (hl : Y.length + z.length ≤ 1000000000) :
    Calls Try.prog 62 #[.bool c, v, .string (str z)] W fun e w' => ∃ a n cp, e = .returned (.slice a n cp) ∧ MgSt f b s w (.slice a n cp) (Y ++ apS c z) w' := by
  obtain ⟨h1, h2, h3⟩ := h
  have hlt := (Array.getElem?_eq_some_iff.1 h2).1
  refine (appendIf_any c (w.heap.size + 1) v Y z W h1 hl hlt).mono ?_
  rintro e w' ⟨v', rfl, g1, g2⟩
  obtain ⟨a, n, cp, rfl⟩ := own_slice g1
  exact ⟨a, n, cp, rfl, g1, (g2.block _ hlt (fun e => by have := (h1.lt _ e.symm).1; omega)).trans h2, h3.grown g2 (Nat.le_of_lt hlt) (fun k e => by have := (h1.lt k e).1; omega)⟩
theorem MgSt.drew {f b s : Bool} {w : World} {v : Value} {Y : List UInt8} {W : World} (h : MgSt f b s w v Y W) : MgSt f b s w v Y W.drew := ⟨own_below h.1 (Below.refl _ _).drew, h.2.1, h.2.2.drew⟩
theorem MgSt.drewN {f b s : Bool} {w : World} {v : Value} {Y : List UInt8} {W : World} (h : MgSt f b s w v Y W) (k : Nat) : MgSt f b s w v Y (W.drewN k) := ⟨h.1, h.2.1, ⟨h.2.2.os, h.2.2.tape, h.2.2.output, h.2.2.size, h.2.2.block⟩⟩
theorem set_apS (X : List Nat) (c : Bool) (x : Nat) : setL (X ++ (if c then [x] else [])) = setL X ++ apS c [hiB x, loB x] := by
  rw [setL_app]; cases c <;> rfl
theorem if_len (c : Bool) (x : Nat) : (if c then [x] else [] : List Nat).length ≤ 1 := by cases c <;> simp
theorem MgSt.cells {f b s : Bool} {w : World} {v : Value} {Y : List UInt8} {W : World} (h : MgSt f b s w v Y W) : W.cell? ⟨w.heap.size, 0, none⟩ = some (.bool f) ∧ W.cell? ⟨w.heap.size, 1, none⟩ = some (.bool b) ∧ W.cell? ⟨w.heap.size, 2, none⟩ = some (.bool s) := by
  have := h.2.1
  refine ⟨?_, ?_, ?_⟩ <;> simp [World.cell?, this]
def MgM (a' : Act) (_ : World) : Nat := szV (a'.tmps.getD 0 undef) + szV (a'.tmps.getD 1 undef)
set_option maxRecDepth 100000 in
set_option maxHeartbeats 6400000 in
theorem merge_any (f b s : Bool) (l m : List Nat) (w : World) (hl : ∀ x ∈ l, x < 65536) (hm : ∀ x ∈ m, x < 65536) (hll : l.length ≤ 100000) (hml : m.length ≤ 100000) :
    Calls Try.prog 61 #[.string (str (setL l)), .string (str (setL m)), choV f b s] w fun e w' => e = .returned (.string (str (setL (mg f b s l m)))) ∧ Below w.heap.size w w' := by
  unfold choV
  go_enter Try.func61, Try.ntmps61
  go_wp2
  obtain ⟨W0, hW0⟩ : ∃ W0, W0 = w.alloc (.cells #[.bool f, .bool b, .bool s] 88) := ⟨_, rfl⟩
  have hb0 : Below w.heap.size w W0 := by rw [hW0]; exact (Below.refl _ w).alloc (Nat.le_refl _) _
  have hx0 : W0.heap[w.heap.size]? = some (.cells #[.bool f, .bool b, .bool s] 88 (0, 0)) := by rw [hW0]; exact World.alloc_heap_new _ _
  rw [← hW0]
  clear hW0
  have H0 : MgOk f b s l m l m [] := ⟨rfl, hl, hm, by simp only [List.length_nil]; omega⟩
  clear hl hm hll hml
  refine wp_scope_once 0 (MgJ f b s l m w) MgM rfl (fun hp => ?_) ?_
  · go_wp2
    go_step3
    rename_i K hK
    show K _ _
    refine hK _ _ (hp _ _ ?_)
    exact ⟨l, m, [], _, _, _, _, _, _, _, _, _, _, _, _, _, _, _, _, _, _, _, _, _, _, _, _, _, _, _, _, _, _, _, _, _, _, _, _, _, _, _, _, _, _, _, _, _, _, _, _, _, _, _, _, _, _, _, _, _, _, _, _, _, _, H0, rfl, rfl, rfl, ⟨rfl, .inl ⟨rfl, rfl⟩⟩, hx0, hb0⟩
  · rintro a' w' ⟨lc, mc, X, S, T, v, u2, u3, u4, u8, u9, u10, u11, u12, u13, u14, u15, u16, u17, u18, u19, u20, u21, u22, u23, u24, u25, u26, u27, u28, u29, u30, u31, u32, u33, u34, u35, u36, u37, u38, u39, u40, u41, u42, u43, u44, u45, u46, u47, u48, u49, u50, u51, u52, u53, u54, u55, u56, u57, u58, u59, u60, u61, u62, u63, hok, hS, hT, rfl, hown, hbox, hbel⟩
    dsimp only
    obtain ⟨P, hP⟩ : ∃ P, w.heap.size = P := ⟨_, rfl⟩
    have hst : MgSt f b s w v (setL X) w' := ⟨hown, hbox, hbel⟩
    obtain ⟨c0, c1, c2⟩ := hst.cells
    rw [hP] at c0 c1 c2
    have HSt := Lib.hid hst
    have HOk := Lib.hid hok
    have HXl : Hid ((setL X).length ≤ 400000) := Lib.hid (by rw [setL_len]; have := hok.len; omega)
    obtain ⟨va, vn, vc, rfl⟩ := own_slice hown
    rw [hP]
    clear hst hown hbox hbel hb0 hx0 H0 hok
    cases lc with
    | nil =>
      have e1 : S.toList.isEmpty = true := by rw [hS, empty_eq]; simp [str_size, setL]
      obtain ⟨lx, hlx⟩ : ∃ q, ([] : List Nat) = q := ⟨_, rfl⟩
      have HEnd : Hid (setL X ++ apS f (setL lx) ++ apS s (setL mc) = setL (mg f b s l m)) := Lib.hid (by rw [← hlx, HOk.out.sum]; exact by rw [mg_nil, setL_app, List.append_assoc]; congr 1; cases f <;> cases s <;> simp [apS, setL])
      have CA : Hid (∀ W, MgSt f b s w (.slice va vn vc) (setL X) W → Calls Try.prog 62 #[.bool f, .slice va vn vc, .string S] W fun e w' => ∃ a n cp, e = .returned (.slice a n cp) ∧ MgSt f b s w (.slice a n cp) (setL X ++ apS f (setL lx)) w') := Lib.hid fun W h => by
        have := mgSt_app h f (setL lx) (by have := HXl.out; have := HOk.out.len; rw [hlx] at this; rw [setL_len lx]; omega)
        rw [hS, hlx]; exact this
      have CB : Hid (∀ a n cp W, MgSt f b s w (.slice a n cp) (setL X ++ apS f (setL lx)) W → Calls Try.prog 62 #[.bool s, .slice a n cp, .string T] W fun e w' => ∃ a' n' cp', e = .returned (.slice a' n' cp') ∧ MgSt f b s w (.slice a' n' cp') (setL X ++ apS f (setL lx) ++ apS s (setL mc)) w') := Lib.hid fun a n cp W h => by
        have := mgSt_app h s (setL mc) (by
          have := HXl.out; have h2 := HOk.out.len; rw [hlx] at h2
          have : (apS f (setL lx)).length ≤ 2 * lx.length := by cases f <;> simp [apS, setL_len]
          rw [List.length_append, setL_len mc]; omega)
        rw [hT]; exact this
      clear hlx hS hT
      go_wp2_with fail
      refine (CA.out w' HSt.out).mono ?_
      rintro e w2 ⟨a2, n2, cp2, rfl, hst2⟩
      obtain ⟨_, _, q2⟩ := hst2.cells
      rw [hP] at q2
      go_wp2_with fail
      refine (CB.out a2 n2 cp2 w2 hst2).mono ?_
      rintro e w3 ⟨a3, n3, cp3, rfl, hst3⟩
      have HB3 := Lib.hid hst3.2.2
      have hcv := conv_own Try.underlying81 Try.underlying5 hst3.1 9 Try.underlying9
      rw [HEnd.out] at hcv
      go_wp2_with fail
      simp only [Exit.jump]
      go_ret
      exact ⟨rfl, HB3.out⟩
    | cons x lc =>
      cases mc with
      | nil =>
        have e1 : S.toList.isEmpty = false := by rw [hS, empty_eq]; simp [str_size, setL]
        have e2 : T.toList.isEmpty = true := by rw [hT, empty_eq]; simp [str_size, setL]
        obtain ⟨lx, hlx⟩ : ∃ q, x :: lc = q := ⟨_, rfl⟩
        have HEnd : Hid (setL X ++ apS f (setL lx) ++ apS s (setL []) = setL (mg f b s l m)) := Lib.hid (by rw [← hlx, HOk.out.sum]; exact by rw [mg_nil2, setL_app, List.append_assoc]; congr 1; cases f <;> cases s <;> simp [apS, setL])
        have CA : Hid (∀ W, MgSt f b s w (.slice va vn vc) (setL X) W → Calls Try.prog 62 #[.bool f, .slice va vn vc, .string S] W fun e w' => ∃ a n cp, e = .returned (.slice a n cp) ∧ MgSt f b s w (.slice a n cp) (setL X ++ apS f (setL lx)) w') := Lib.hid fun W h => by
          have := mgSt_app h f (setL lx) (by have := HXl.out; have := HOk.out.len; rw [hlx] at this; rw [setL_len lx]; omega)
          rw [hS, hlx]; exact this
        have CB : Hid (∀ a n cp W, MgSt f b s w (.slice a n cp) (setL X ++ apS f (setL lx)) W → Calls Try.prog 62 #[.bool s, .slice a n cp, .string T] W fun e w' => ∃ a' n' cp', e = .returned (.slice a' n' cp') ∧ MgSt f b s w (.slice a' n' cp') (setL X ++ apS f (setL lx) ++ apS s (setL [])) w') := Lib.hid fun a n cp W h => by
          have := mgSt_app h s (setL []) (by
            have := HXl.out; have h2 := HOk.out.len; rw [hlx] at h2
            have : (apS f (setL lx)).length ≤ 2 * lx.length := by cases f <;> simp [apS, setL_len]
            rw [List.length_append, setL_len ([] : List Nat)]; omega)
          rw [hT]; exact this
        clear hlx hS hT
        go_wp2_with fail
        refine (CA.out w' HSt.out).mono ?_
        rintro e w2 ⟨a2, n2, cp2, rfl, hst2⟩
        obtain ⟨_, _, q2⟩ := hst2.cells
        rw [hP] at q2
        go_wp2_with fail
        refine (CB.out a2 n2 cp2 w2 hst2).mono ?_
        rintro e w3 ⟨a3, n3, cp3, rfl, hst3⟩
        have HB3 := Lib.hid hst3.2.2
        have hcv := conv_own Try.underlying81 Try.underlying5 hst3.1 9 Try.underlying9
        rw [HEnd.out] at hcv
        go_wp2_with fail
        simp only [Exit.jump]
        go_ret
        exact ⟨rfl, HB3.out⟩
      | cons y mc =>
        have e1 : S.toList.isEmpty = false := by rw [hS, empty_eq]; simp [str_size, setL]
        have e2 : T.toList.isEmpty = false := by rw [hT, empty_eq]; simp [str_size, setL]
        have hx := HOk.out.l64 x (List.mem_cons_self ..)
        have hy := HOk.out.m64 y (List.mem_cons_self ..)
        have HS := Lib.hid hS
        have HT := Lib.hid hT
        have s1 : 2 ≤ S.size := by rw [hS, str_size, setL_len]; simp only [List.length_cons]; omega
        have t1 : 2 ≤ T.size := by rw [hT, str_size, setL_len]; simp only [List.length_cons]; omega
        obtain ⟨Sh, hSh⟩ : ∃ Z, str [hiB x, loB x] = Z := ⟨_, rfl⟩
        obtain ⟨Th, hTh⟩ : ∃ Z, str [hiB y, loB y] = Z := ⟨_, rfl⟩
        obtain ⟨Sr, hSr⟩ : ∃ Z, str (setL lc) = Z := ⟨_, rfl⟩
        obtain ⟨Tr, hTr⟩ : ∃ Z, str (setL mc) = Z := ⟨_, rfl⟩
        have x1 : S.extract 0 2 = Sh := by rw [hS, ← hSh]; exact (cut_head x lc).1
        have x2 : S.extract 2 S.size = Sr := by rw [hS, ← hSr]; exact (cut_head x lc).2
        have x3 : T.extract 0 2 = Th := by rw [hT, ← hTh]; exact (cut_head y mc).1
        have x4 : T.extract 2 T.size = Tr := by rw [hT, ← hTr]; exact (cut_head y mc).2
        have L1 : Op.bytesLess Sh.toList Th.toList = decide (x < y) := by rw [← hSh, ← hTh, ByteArray.toList_eq, ByteArray.toList_eq, str_list, str_list]; exact pair_less hx hy
        have L2 : (Sh.toList == Th.toList) = decide (x = y) := by rw [← hSh, ← hTh, ByteArray.toList_eq, ByteArray.toList_eq, str_list, str_list, Bool.eq_iff_iff, beq_iff_eq, decide_eq_true_iff]; exact pair_inj hx hy
        clear hS hT
        have CA : Hid (∀ (c : Bool) W, MgSt f b s w (.slice va vn vc) (setL X) W → Calls Try.prog 62 #[.bool c, .slice va vn vc, .string Sh] W fun e w' => ∃ a n cp, e = .returned (.slice a n cp) ∧ MgSt f b s w (.slice a n cp) (setL X ++ apS c [hiB x, loB x]) w') := Lib.hid fun c W h => by
          have := mgSt_app h c [hiB x, loB x] (by have := HXl.out; simp only [List.length_cons, List.length_nil]; omega)
          rw [hSh] at this; exact this
        have CB : Hid (∀ (c : Bool) W, MgSt f b s w (.slice va vn vc) (setL X) W → Calls Try.prog 62 #[.bool c, .slice va vn vc, .string Th] W fun e w' => ∃ a n cp, e = .returned (.slice a n cp) ∧ MgSt f b s w (.slice a n cp) (setL X ++ apS c [hiB y, loB y]) w') := Lib.hid fun c W h => by
          have := mgSt_app h c [hiB y, loB y] (by have := HXl.out; simp only [List.length_cons, List.length_nil]; omega)
          rw [hTh] at this; exact this
        have HSr := Lib.hid hSr
        have HTr := Lib.hid hTr
        have HM1 : Hid (Sr.size < S.size) := Lib.hid (by rw [HS.out, ← hSr, str_size, str_size, setL_len, setL_len]; simp)
        have HM2 : Hid (Tr.size < T.size) := Lib.hid (by rw [HT.out, ← hTr, str_size, str_size, setL_len, setL_len]; simp)
        clear hSh hTh hSr hTr
        rcases Nat.lt_trichotomy x y with hxy | hxy | hxy
        · have d1 : decide (x < y) = true := decide_eq_true hxy
          rw [d1] at L1
          have HOk2 : Hid (MgOk f b s l m lc (y :: mc) (X ++ (if f then [x] else []))) := Lib.hid ⟨by rw [HOk.out.sum, mg_lt hxy, List.append_assoc], fun z hz => HOk.out.l64 z (List.mem_cons_of_mem _ hz), HOk.out.m64, by
            have := HOk.out.len; have := if_len f x; rw [List.length_append]; simp only [List.length_cons] at *; omega⟩
          clear d1 L2
          go_wp2
          go_quiet (fail)
          go_wp2
          have k0 : (w'.drewN nq).cell? ⟨P, 0, none⟩ = some (.bool f) := c0
          go_region_with (refine (CA.out f _ (HSt.out.drewN nq).drew).mono ?_; rintro e w2 ⟨a2, n2, cp2, rfl, hst2⟩)
          all_goals go_wp2
          all_goals go_step3
          all_goals subst hP
          all_goals exact ⟨rfl, ⟨lc, y :: mc, X ++ (if f then [x] else []), _, _, _, _, _, _, _, _, _, _, _, _, _, _, _, _, _, _, _, _, _, _, _, _, _, _, _, _, _, _, _, _, _, _, _, _, _, _, _, _, _, _, _, _, _, _, _, _, _, _, _, _, _, _, _, _, _, _, _, _, _, _, HOk2.out, HSr.out.symm, HT.out, rfl, by rw [set_apS]; exact hst2.1, hst2.2.1, hst2.2.2⟩, by
            show Sr.size + T.size < S.size + T.size
            have := HM1.out; omega⟩
        · have d1 : decide (x < y) = false := decide_eq_false (by omega)
          have d2 : decide (x = y) = true := decide_eq_true hxy
          rw [d1] at L1
          rw [d2] at L2
          have HOk2 : Hid (MgOk f b s l m lc mc (X ++ (if b then [x] else []))) := Lib.hid ⟨by rw [HOk.out.sum, mg_eq hxy, List.append_assoc], fun z hz => HOk.out.l64 z (List.mem_cons_of_mem _ hz), fun z hz => HOk.out.m64 z (List.mem_cons_of_mem _ hz), by
            have := HOk.out.len; have := if_len b x; rw [List.length_append]; simp only [List.length_cons] at *; omega⟩
          clear d1 d2
          go_wp2
          go_quiet (fail)
          obtain ⟨w1, hw1⟩ : ∃ w1, w'.drewN nq = w1 := ⟨_, rfl⟩
          have HSt1 : Hid (MgSt f b s w (.slice va vn vc) (setL X) w1) := Lib.hid (by rw [← hw1]; exact HSt.out.drewN nq)
          have k1 : w1.cell? ⟨P, 1, none⟩ = some (.bool b) := by rw [← hw1]; exact c1
          rw [hw1]
          clear hw1 c0 c1 c2
          go_wp2
          go_quiet (fail)
          obtain ⟨w2, hw2⟩ : ∃ w2, w1.drewN nq = w2 := ⟨_, rfl⟩
          have HSt2 : Hid (MgSt f b s w (.slice va vn vc) (setL X) w2) := Lib.hid (by rw [← hw2]; exact HSt1.out.drewN nq)
          have k2 : w2.cell? ⟨P, 1, none⟩ = some (.bool b) := by rw [← hw2]; exact k1
          rw [hw2]
          clear hw2 k1
          go_wp2
          go_region_with (refine (CA.out b _ HSt2.out.drew).mono ?_; rintro e w3 ⟨a2, n2, cp2, rfl, hst2⟩)
          all_goals go_wp2
          all_goals have t2 : (2 : Int) ≤ (T.size : Int) := by omega
          all_goals go_quiet (fail)
          all_goals go_wp2
          all_goals go_step3
          all_goals subst hP
          all_goals (
            have hst3 := hst2.drewN nq
            exact ⟨rfl, ⟨lc, mc, X ++ (if b then [x] else []), _, _, _, _, _, _, _, _, _, _, _, _, _, _, _, _, _, _, _, _, _, _, _, _, _, _, _, _, _, _, _, _, _, _, _, _, _, _, _, _, _, _, _, _, _, _, _, _, _, _, _, _, _, _, _, _, _, _, _, _, _, _, HOk2.out, HSr.out.symm, HTr.out.symm, rfl, by rw [set_apS]; exact hst3.1, hst3.2.1, hst3.2.2⟩, by
              show Sr.size + Tr.size < S.size + T.size
              have := HM1.out; have := HM2.out; omega⟩)
        · have d1 : decide (x < y) = false := decide_eq_false (by omega)
          have d2 : decide (x = y) = false := decide_eq_false (by omega)
          rw [d1] at L1
          rw [d2] at L2
          have HOk2 : Hid (MgOk f b s l m (x :: lc) mc (X ++ (if s then [y] else []))) := Lib.hid ⟨by rw [HOk.out.sum, mg_gt hxy, List.append_assoc], HOk.out.l64, fun z hz => HOk.out.m64 z (List.mem_cons_of_mem _ hz), by
            have := HOk.out.len; have := if_len s y; rw [List.length_append]; simp only [List.length_cons] at *; omega⟩
          clear d1 d2
          go_wp2
          go_quiet (fail)
          obtain ⟨w1, hw1⟩ : ∃ w1, w'.drewN nq = w1 := ⟨_, rfl⟩
          have HSt1 : Hid (MgSt f b s w (.slice va vn vc) (setL X) w1) := Lib.hid (by rw [← hw1]; exact HSt.out.drewN nq)
          have k1 : w1.cell? ⟨P, 2, none⟩ = some (.bool s) := by rw [← hw1]; exact c2
          rw [hw1]
          clear hw1 c0 c1 c2
          go_wp2
          go_quiet (fail)
          obtain ⟨w2, hw2⟩ : ∃ w2, w1.drewN nq = w2 := ⟨_, rfl⟩
          have HSt2 : Hid (MgSt f b s w (.slice va vn vc) (setL X) w2) := Lib.hid (by rw [← hw2]; exact HSt1.out.drewN nq)
          have k2 : w2.cell? ⟨P, 2, none⟩ = some (.bool s) := by rw [← hw2]; exact k1
          rw [hw2]
          clear hw2 k1
          go_wp2
          go_region_with (refine (CB.out s _ HSt2.out.drew).mono ?_; rintro e w3 ⟨a2, n2, cp2, rfl, hst2⟩)
          all_goals go_wp2
          all_goals go_step3
          all_goals subst hP
          all_goals exact ⟨rfl, ⟨x :: lc, mc, X ++ (if s then [y] else []), _, _, _, _, _, _, _, _, _, _, _, _, _, _, _, _, _, _, _, _, _, _, _, _, _, _, _, _, _, _, _, _, _, _, _, _, _, _, _, _, _, _, _, _, _, _, _, _, _, _, _, _, _, _, _, _, _, _, _, _, _, _, HOk2.out, HS.out, HTr.out.symm, rfl, by rw [set_apS]; exact hst2.1, hst2.2.1, hst2.2.2⟩, by
            show S.size + Tr.size < S.size + T.size
            have := HM2.out; omega⟩
-- MARK9
end Go.Proofs.Ytbkkmcfpjpbhaaa
