import Derived.Test.YtkngkajojcmmlaaDoorDxs
import Derived.Test.YtkngkajojcmmlaaDoorDputs
/- Rename: mathematics. -/
namespace Go.Proofs.YtkngkajojcmmlaaDoor

/-- The error of Rename. -/
def renE (t : List Nd) (from' to : Ls) : Int :=
  if (chkT symS t).2 ≠ 0 then (chkT symS t).2 else if from'.length ≠ to.length then 2 else if (from'.all symS && to.all symS) = false then 6 else if ¬ from'.Nodup then 8 else 0
theorem renE_0 {t : List Nd} {f g : Ls} (h : renE t f g = 0) : (chkT symS t).2 = 0 ∧ f.length = g.length ∧ (∀ s ∈ f, symS s = true) ∧ (∀ s ∈ g, symS s = true) ∧ f.Nodup := by
  unfold renE at h
  split at h
  · rename_i h1; exact absurd h h1
  · rename_i h1
    split at h
    · cases h
    · rename_i h2
      split at h
      · cases h
      · rename_i h3
        split at h
        · cases h
        · rename_i h4
          rw [Bool.not_eq_false, Bool.and_eq_true, List.all_eq_true, List.all_eq_true] at h3
          exact ⟨Decidable.not_not.1 h1, Decidable.not_not.1 h2, h3.1, h3.2, Decidable.not_not.1 h4⟩
theorem renE_of {t : List Nd} {f g : Ls} (h1 : (chkT symS t).2 = 0) (h2 : f.length = g.length) (h3 : ∀ s ∈ f, symS s = true) (h4 : ∀ s ∈ g, symS s = true) (h5 : f.Nodup) : renE t f g = 0 := by
  unfold renE
  rw [if_neg (by rw [h1]; simp), if_neg (by simp [h2]), if_neg, if_neg (by simp [h5])]
  rw [Bool.not_eq_false, Bool.and_eq_true, List.all_eq_true, List.all_eq_true]
  exact ⟨h3, h4⟩
theorem symS_ne {s : List UInt8} (h : symS s = true) : s ≠ [] := by
  rintro rfl
  rw [sym_short (by simp)] at h
  cases h
/-- A node's string, where it is none of a symbol. -/
theorem okN_str {sy : List UInt8 → Bool} {x : Nd} (h : okN sy x) (h3 : x.1 ≠ 3) : x.2.2.2 = [] := by
  obtain ⟨h1, _⟩ := h
  unfold kindB at h1
  rw [if_neg h3] at h1
  split at h1
  · rw [Bool.and_eq_true] at h1; exact em_nil h1.2
  · split at h1
    · rw [Bool.and_eq_true, Bool.and_eq_true] at h1; exact em_nil h1.2
    · cases h1
theorem okN_sym {sy : List UInt8 → Bool} {x : Nd} (h : okN sy x) (h3 : x.1 = 3) : sy x.2.2.2 = true := by
  obtain ⟨_, h2⟩ := h
  unfold valE at h2
  rw [if_neg (by omega)] at h2
  cases hb : sy x.2.2.2 with
  | true => rfl
  | false => rw [hb, if_pos ⟨h3, rfl⟩] at h2; cases h2
theorem getD_mem {l : Ls} {j : Nat} (h : j < l.length) : l.getD j [] ∈ l := by
  rw [List.getD_eq_getElem?_getD, List.getElem?_eq_getElem h]; exact List.getElem_mem h
/-- What becomes of a node. -/
theorem renN_cases {f g : Ls} {x : Nd} (hf : ∀ s ∈ f, symS s = true) (hl : f.length = g.length) (h : okN symS x) : renN f g x = x ∧ x.2.2.2 ∉ f ∨ x.1 = 3 ∧ ∃ j : Nat, f[j]? = some x.2.2.2 ∧ j < g.length ∧ plcS f x.2.2.2 = (j : Int) ∧ renN f g x = (x.1, x.2.1, x.2.2.1, g.getD j []) := by
  rcases plcS_cases f x.2.2.2 with ⟨h1, h2⟩ | ⟨j, h1, h2, _⟩
  · left
    refine ⟨?_, h2⟩
    unfold renN
    rw [if_neg (by omega)]
  · right
    have h3 : x.1 = 3 := by
      refine Decidable.byContradiction fun h3 => ?_
      have := okN_str h h3
      rw [this] at h2
      exact symS_ne (hf _ (List.mem_of_getElem? h2)) rfl
    refine ⟨h3, j, h2, by rw [← hl]; exact (List.getElem?_eq_some_iff.1 h2).1, h1, ?_⟩
    unfold renN
    rw [if_pos (by omega), h1]; rfl
theorem renN_nd {f g : Ls} {x : Nd} (hf : ∀ s ∈ f, symS s = true) (hg : ∀ s ∈ g, symS s = true) (hl : f.length = g.length) (h : okN symS x) (d : Int) : ndE symS (renN f g x) d = ndE symS x d ∧ (renN f g x).2.1 = x.2.1 := by
  rcases renN_cases hf hl h with ⟨e, _⟩ | ⟨h3, j, h1, h2, _, e⟩
  · rw [e]; exact ⟨rfl, rfl⟩
  · rw [e]
    refine ⟨?_, rfl⟩
    have s1 := okN_sym h h3
    have s2 := hg _ (getD_mem h2)
    have hv := h.2
    unfold ndE nodeE
    simp only
    rw [h3, kind_3, kind_3, s1, s2]
theorem ren_chk {f g : Ls} {t : List Nd} (hf : ∀ s ∈ f, symS s = true) (hg : ∀ s ∈ g, symS s = true) (hl : f.length = g.length) (h : (chkT symS t).2 = 0) : (chkT symS (renL f g t)).2 = 0 := by
  obtain ⟨t1, t2, t3, t4, t5⟩ := chkT_ok h
  have key : ∀ (t : List Nd) (st : List Nat) (i : Nat), (∀ x ∈ t, okN symS x) → chkGo (ndE symS) st i (renL f g t) = chkGo (ndE symS) st i t := by
    intro t
    induction t with
    | nil => intro st i _; rfl
    | cons x t ih =>
      intro st i hx
      have hx0 := hx x (by simp)
      have e1 := (renN_nd hf hg hl hx0 ((st.length : Int) - 1)).1
      have e2 := (renN_nd hf hg hl hx0 0).2
      show chkGo (ndE symS) st i (renN f g x :: renL f g t) = _
      rw [chkGo, chkGo, e1, e2, ih _ _ (fun y hy => hx y (by simp [hy]))]
  unfold chkT chkD at h ⊢
  have hlen : (renL f g t).length = t.length := List.length_map _
  have hne : renL f g t ≠ [] := by intro e; rw [e] at hlen; exact t2 (List.length_eq_zero_iff.1 hlen.symm)
  rw [if_neg hne, hlen, if_neg (by omega), key t _ _ t4]
  rw [if_neg t2, if_neg (by omega)] at h
  exact h
/-- Renamed to other symbols, each once, none of which the datum has, and back. -/
theorem ren_back {f g : Ls} {t : List Nd} (h : renE t f g = 0) (hn : g.Nodup) (hd : ∀ s ∈ g, s ∉ symL t) : renE (renL f g t) g f = 0 ∧ renL g f (renL f g t) = t := by
  obtain ⟨h1, h2, h3, h4, h5⟩ := renE_0 h
  refine ⟨renE_of (ren_chk h3 h4 h2 h1) h2.symm h4 h3 hn, ?_⟩
  obtain ⟨_, _, _, t4, _⟩ := chkT_ok h1
  unfold renL
  rw [List.map_map]
  refine (List.map_congr_left fun x hx => ?_).trans (List.map_id t)
  have hx0 := t4 x hx
  show renN g f (renN f g x) = x
  rcases renN_cases h3 h2 hx0 with ⟨e, hno⟩ | ⟨k3, j, k1, k2, _, e⟩
  · rw [e]
    rcases renN_cases h4 h2.symm hx0 with ⟨e', _⟩ | ⟨k3, j, k1, _, _, _⟩
    · exact e'
    · exfalso
      refine hd _ (List.mem_of_getElem? k1) ?_
      unfold symL
      exact List.mem_map.2 ⟨x, List.mem_filter.2 ⟨hx, by simp [k3]⟩, rfl⟩
  · rw [e]
    have hgj : g[j]? = some (g.getD j []) := by rw [List.getD_eq_getElem?_getD, List.getElem?_eq_getElem k2]; rfl
    have hp : plcS g (g.getD j []) = (j : Int) := plcS_at hgj fun i hi hi2 => by
      obtain ⟨hi', e1⟩ := List.getElem?_eq_some_iff.1 hi2
      obtain ⟨_, e2⟩ := List.getElem?_eq_some_iff.1 hgj
      exact List.pairwise_iff_getElem.1 (List.nodup_iff_pairwise_ne.1 hn) i j hi' k2 hi (by rw [e1, e2])
    unfold renN
    simp only
    rw [hp, if_pos (by omega), Int.toNat_natCast, List.getD_eq_getElem?_getD, k1]
    rfl
end Go.Proofs.YtkngkajojcmmlaaDoor

/- placeOf of strings; what a renaming does step by step; Clone of nodes as a row of the call's own. -/
namespace Go.Proofs.YtkngkajojcmmlaaDoor
open Go.RowKit Go.PlainAid

theorem plc_step {s x : List UInt8} {l : Ls} {k : Nat} (h : l[k]? = some x) : plcF s (l.drop k) k = if x = s then (k : Int) else plcF s (l.drop (k + 1)) (k + 1) := by
  obtain ⟨hk, rfl⟩ := List.getElem?_eq_some_iff.1 h
  rw [List.drop_eq_getElem_cons hk]; rfl
theorem str_beq (x y : List UInt8) : ((str x).toList == (str y).toList) = decide (x = y) := by
  rw [ByteArray.toList_eq, ByteArray.toList_eq, str_list, str_list, Bool.eq_iff_iff, beq_iff_eq, decide_eq_true_eq]
set_option maxRecDepth 50000 in
set_option maxHeartbeats 1600000 in
theorem placeS_any (v : Value) (l : Ls) (s : List UInt8) (w : World) (h : StrRow w v l) (hl : l.length ≤ 1000000) :
    Calls Tryd.prog 76 #[v, .string (str s)] w fun e w' => e = .returned (.int .i64 (plcS l s)) ∧ w = w' := by
  obtain ⟨a, c, rfl, hA⟩ := h
  have HA := Lib.hid hA
  obtain ⟨n, hn⟩ : ∃ n, l.length = n := ⟨_, rfl⟩
  have HN := Lib.hid hn
  have HB := Lib.hid (fun x => str_beq x s)
  obtain ⟨z, hz⟩ : ∃ z, str s = z := ⟨_, rfl⟩
  rw [hz] at HB ⊢
  obtain ⟨R, hR⟩ : ∃ R, plcS l s = R := ⟨_, rfl⟩
  have HR := Lib.hid hR
  rw [hn] at hl ⊢
  rw [hR]
  clear hA hn hz hR
  go_enter Tryd.func76, Tryd.ntmps76
  go_wp2_with fail
  go_loop [9] (fun x => ∃ k : Nat, x = .int .i64 (k : Int) ∧ k ≤ n ∧ Hid (plcF s (l.drop k) k = R)) (fun x => n - (intOf x).toNat)
  case atStart => exact ⟨0, rfl, Nat.zero_le _, Lib.hid (by rw [List.drop_zero]; exact HR.out)⟩
  case round =>
    obtain ⟨k, rfl, hk, HE⟩ := hrel
    have hk0 : (0 : Int) ≤ (k : Int) := Int.natCast_nonneg _
    by_cases hlt : k < n
    · obtain ⟨x, hx⟩ : ∃ x, l[k]? = some x := ⟨_, List.getElem?_eq_getElem (by rw [HN.out]; exact hlt)⟩
      have hk1 : (k : Int) < (n : Int) := by omega
      rcases HA.out with hnil | ⟨g, off, rfl, hg, hc⟩
      · rw [hnil] at hx; cases hx
      have d0 := hc k x hx
      have hst := plc_step (s := s) hx
      rw [HE.out] at hst
      have HSt := Lib.hid hst
      have hbq := HB.out x
      obtain ⟨y, hy⟩ : ∃ y, str x = y := ⟨_, rfl⟩
      rw [hy] at d0 hbq
      clear hx hst hc hy
      by_cases h0 : x = s
      · rw [decide_eq_true h0] at hbq
        have HF : Hid (R = (k : Int)) := Lib.hid (by rw [HSt.out, if_pos h0])
        clear h0
        go_wp2_with fail
        go_ret
        exact ⟨by rw [HF.out]; rfl, rfl⟩
      · rw [decide_eq_false h0] at hbq
        have HE2 : Hid (plcF s (l.drop (k + 1)) (k + 1) = R) := Lib.hid (by rw [HSt.out, if_neg h0])
        clear h0
        go_wp2_with fail
        go_round
        case rel => exact ⟨k + 1, by go_num, by omega, HE2⟩
        case measure => simp [intOf]; omega
    · obtain rfl : k = n := by omega
      have HF : Hid (R = -1) := Lib.hid (by rw [← HE.out, List.drop_of_length_le (Nat.le_of_eq HN.out)]; rfl)
      go_wp2_with fail
      go_ret
      exact ⟨by rw [HF.out]; rfl, rfl⟩
/-- Renamed as far as node k. -/
def renK (f g : Ls) (t : List Nd) (k : Nat) : List Nd := renL f g (t.take k) ++ t.drop k
theorem renK_0 (f g : Ls) (t : List Nd) : renK f g t 0 = t := by unfold renK renL; rw [List.take_zero, List.drop_zero]; rfl
theorem renK_len (f g : Ls) (t : List Nd) (k : Nat) : (renK f g t k).length = t.length := by unfold renK renL; rw [List.length_append, List.length_map, ← List.length_append, List.take_append_drop]
theorem renK_all (f g : Ls) (t : List Nd) : renK f g t t.length = renL f g t := by unfold renK; rw [List.take_length, List.drop_length, List.append_nil]
theorem renK_at {f g : Ls} {t : List Nd} {k : Nat} {x : Nd} (h : t[k]? = some x) : (renK f g t k)[k]? = some x := by
  have hk := (List.getElem?_eq_some_iff.1 h).1
  unfold renK renL
  rw [List.getElem?_append_right (by rw [List.length_map, List.length_take]; omega), List.length_map, List.length_take, Nat.min_eq_left (by omega), Nat.sub_self, List.getElem?_drop, Nat.add_zero, h]
theorem renK_step {f g : Ls} {t : List Nd} {k : Nat} {x : Nd} (h : t[k]? = some x) : renK f g t (k + 1) = (renK f g t k).set k (renN f g x) := by
  obtain ⟨hk, hx⟩ := List.getElem?_eq_some_iff.1 h
  unfold renK renL
  rw [List.set_append, if_neg (by rw [List.length_map, List.length_take]; omega), List.length_map, List.length_take, Nat.min_eq_left (by omega), Nat.sub_self, List.drop_eq_getElem_cons hk, List.set_cons_zero, List.take_succ_eq_append_getElem hk, List.map_append, hx, List.append_assoc]
  rfl
theorem dcs_set3 : ∀ (l : List Nd) (k : Nat) (x : Nd) (s : List UInt8), l[k]? = some x → (dcs l).set (k * 4 + 3) (.string (str s)) = dcs (l.set k (x.1, x.2.1, x.2.2.1, s)) := by
  intro l
  induction l with
  | nil => intro k x s h; cases h
  | cons y l ih =>
    intro k x s h
    cases k with
    | zero => obtain rfl : y = x := by simpa using h
              rfl
    | succ k =>
      rw [List.set_cons_succ, dcs_cons, dcs_cons, show (k + 1) * 4 + 3 = k * 4 + 3 + 1 + 1 + 1 + 1 by omega, List.set_cons_succ, List.set_cons_succ, List.set_cons_succ, List.set_cons_succ, ih k x s (by simpa using h)]
set_option maxRecDepth 50000 in
set_option maxHeartbeats 1600000 in
theorem clone_own (g off c n : Nat) (l : List Nd) (w : World) (hn : l.length = n) (hl : n ≤ 100000) (hc : ∀ (j : Nat) (u : Value), (dcs l)[j]? = some u → w.cell? ⟨g, off + j, none⟩ = some u) (hg : g < w.heap.size) :
    Calls Tryd.prog 65 #[.slice (some ⟨g, off, none⟩) n c] w fun e w' => ∃ v, e = .returned v ∧ w'.ownsRow w.heap.size 48 4 v n (dcs l) ∧ Below w.heap.size w w' := by
  have HO := Lib.hid (own_empty w 48 4 w.heap.size (Nat.le_refl _))
  have hb1 := below_b1 w (.cells #[] 48)
  have HC : Hid (∀ (j : Nat) (u : Value), (dcs l)[j]? = some u → (w.alloc (.cells #[] 48)).cell? ((⟨g, off, none⟩ : Addr).add j) = some u) := Lib.hid fun j u hj => by
    rw [Go.WideShapes.add_plain, World.cell?_alloc_lt _ _ _ hg]; exact hc j u hj
  have HL := Lib.hid (show (dcs l).length = n * 4 by rw [dcs_len, hn])
  obtain ⟨i0, hi, hz0, hz1, hz2⟩ := info_parts2 infoNd
  have hsz := (World.size_alloc w (.cells #[] 48))
  have HSz := Lib.hid hsz
  have hnil : ∀ W, (binOp .eql 22 (.slice (some ⟨g, off, none⟩) n c) (.slice none 0 0)).run Tryd.prog W = .ok (.bool false) W := fun W => run_eql_slice_nil W 22 48 (some ⟨g, off, none⟩) n c Tryd.underlying22
  clear hc hn hsz
  go_enter Tryd.func65, Tryd.ntmps65
  go_wp2_with (at_builtin; refine wpList_append_own _ rfl _ _ 22 rfl w.heap.size 48 i0 zeroNd 4 40 Tryd.underlying22 hi hz0 hz1 hz2 rfl (by decide) _ _ _ rfl HO.out ⟨g, off, none⟩ n c (dcs l) rfl HL.out HC.out (one_dcs l) (by unfold maxLen; omega) (by omega) hb1.size ?_; intro v' w2 hown2 hgrow2 _)
  have hb2 : Below w.heap.size w w2 := hb1.grown hgrow2 hb1.size (fun i hi => (HO.out.lt i hi).1)
  rw [Nat.zero_add, List.nil_append] at hown2
  go_ret
  exact ⟨_, rfl, hown2, hb2⟩
end Go.Proofs.YtkngkajojcmmlaaDoor

/- Rename. -/
namespace Go.Proofs.YtkngkajojcmmlaaDoor
open Go.RowKit Go.PlainAid

/-- A list of nodes and an error. -/
def ansR (l : List Nd) (z : Int) (w : World) (e : Ending) (w' : World) : Prop := ∃ a c, e = .returned (.tuple #[.slice a l.length c, .int .i64 z]) ∧ NdsAt w' (.slice a l.length c) l ∧ Below w.heap.size w w'
theorem ansR_nil {w w' : World} {z : Int} (h : Below w.heap.size w w') : ansR [] z w (.returned (.tuple #[.slice none 0 0, .int .i64 z])) w' := ⟨none, 0, rfl, .inl ⟨_, _, rfl, rfl⟩, h⟩
def renU (t : List Nd) (f g : Ls) : List Nd := if renE t f g = 0 then renL f g t else []
theorem renU_bad {t : List Nd} {f g : Ls} {z : Int} (h : renE t f g = z) (hz : z ≠ 0) : renU t f g = [] := by unfold renU; rw [if_neg (by rw [h]; exact hz)]
theorem ren_ret {t : List Nd} {f g : Ls} {z : Int} {w w' : World} (h : renE t f g = z) (hz : z ≠ 0) (hb : Below w.heap.size w w') : ansR (renU t f g) (renE t f g) w (.returned (.tuple #[.slice none 0 0, .int .i64 z])) w' := by
  rw [renU_bad h hz, h]; exact ansR_nil hb
theorem StrRow.cellAt {w : World} {a : Option Addr} {n c : Nat} {l : Ls} (h : StrRow w (.slice a n c) l) {k : Nat} {s : List UInt8} (hk : l[k]? = some s) : ∃ g off, a = some ⟨g, off, none⟩ ∧ g < w.heap.size ∧ w.cell? ⟨g, off + k, none⟩ = some (.string (str s)) := by
  obtain ⟨a', c', e, hc⟩ := h
  obtain ⟨rfl, _, rfl⟩ := Value.slice.inj e
  rcases hc with rfl | ⟨g, off, rfl, hg, hcc⟩
  · cases hk
  · exact ⟨g, off, rfl, hg, hcc k s hk⟩
theorem own_cell4 {w : World} {B n : Nat} {e : TypeId} {g c : Nat} {xs : List Value} (h : w.ownsRow B e 4 (.slice (some ⟨g, 0, none⟩) n c) n xs) {j : Nat} {u : Value} (hj : xs[j]? = some u) : w.cell? ⟨g, j, none⟩ = some u := by
  have := h.cells (g := g) rfl j u hj
  rw [Go.WideShapes.add_plain, Nat.zero_add] at this; exact this
theorem renK_same {f g : Ls} {t : List Nd} {k : Nat} {x : Nd} (h : t[k]? = some x) (e : renN f g x = x) : renK f g t (k + 1) = renK f g t k := by
  obtain ⟨hk, he⟩ := List.getElem?_eq_some_iff.1 (renK_at (f := f) (g := g) h)
  rw [renK_step h, e, ← he]
  exact List.set_getElem_self hk
set_option maxRecDepth 50000 in
set_option maxHeartbeats 6400000 in
theorem Rename_any (v v1 v2 : Value) (t : List Nd) (f g : Ls) (w : World) (h : NdsAt w v t) (hf : StrRow w v1 f) (hg : StrRow w v2 g) (KB : KidsB t) (T : STabs w) (hfl : f.length ≤ 1000) :
    Calls Tryd.prog 43 #[v, v1, v2] w (ansR (renU t f g) (renE t f g) w) := by
  have C1 := Lib.hid (checkAll_any symS _ [t] _ (rows1 v t w 22 h) (Lib.hid (symAll_of (T.below (below_b1 w _)))) (Lib.hid (fun x hx => by rw [show x = t by simpa using hx]; exact KB)) (by simp))
  rw [chkAll_1] at C1
  have CSy := Lib.hid (fun (s : List UInt8) (W : World) (hW : Below w.heap.size w W) => symAll_of (T.below hW) s W (Below.refl _ _))
  have HFr := Lib.hid (fun (W : World) (hW : Below w.heap.size w W) => hf.below hW)
  have HGr := Lib.hid (fun (W : World) (hW : Below w.heap.size w W) => hg.below hW)
  have HRet := Lib.hid (fun (z : Int) (w' : World) (h : renE t f g = z) (hz : z ≠ 0) (hb : Below w.heap.size w w') => ren_ret h hz hb)
  obtain ⟨a1, c1, hv1, _⟩ := hf
  obtain ⟨a2, c2, hv2, _⟩ := hg
  subst hv1
  subst hv2
  obtain ⟨nf, hnf⟩ : ∃ n, f.length = n := ⟨_, rfl⟩
  obtain ⟨ng, hng⟩ : ∃ n, g.length = n := ⟨_, rfl⟩
  have HNf := Lib.hid hnf
  have HNg := Lib.hid hng
  rw [hnf] at HFr hfl ⊢
  rw [hng] at HGr ⊢
  obtain ⟨a0, c0, hv0⟩ := h.slice
  obtain ⟨n, hn⟩ : ∃ n, t.length = n := ⟨_, rfl⟩
  have HN := Lib.hid hn
  have HNd := Lib.hid h
  rw [hn] at hv0
  subst hv0
  obtain ⟨W1, hW1⟩ : ∃ W1, W1 = w.alloc (.cells #[.slice a0 n c0] 22) := ⟨_, rfl⟩
  have hb1 : Below w.heap.size w W1 := by rw [hW1]; exact below_b1 _ _
  rw [← hW1] at C1
  by_cases hc : (chkT symS t).2 = 0
  · have hc' := Lib.hid hc
    rw [hc] at C1
    clear h KB T hnf hng hn
    by_cases hlen : nf = ng
    · subst hlen
      have hne : ((nf : Int) != (nf : Int)) = false := by simp
      go_enter Tryd.func43, Tryd.ntmps43
      go_wp2_with fail
      rw [← hW1]
      refine C1.out.mono ?_
      rintro e w2 ⟨rfl, hb2⟩
      have hB2 := hb1.trans (hb2.mono hb1.size)
      clear hW1 hb1 hb2 C1 hc
      go_wp2_with fail
      -- MARK1
      go_loopw [27] (fun x27 wr => ∃ k : Nat, x27 = .int .i64 (k : Int) ∧ k ≤ nf ∧ Hid (∀ (j : Nat) s, j < k → (f[j]? = some s ∨ g[j]? = some s) → symS s = true) ∧ Below w.heap.size w wr) (fun x27 _ => nf - (intOf x27).toNat)
      case atStart => exact ⟨0, rfl, Nat.zero_le _, Lib.hid (fun j s hj => by omega), hB2⟩
      case round =>
        obtain ⟨k, rfl, hk, HSo, hbr⟩ := hrel
        have hk0 : (0 : Int) ≤ (k : Int) := Int.natCast_nonneg _
        by_cases hlt : k < nf
        · obtain ⟨x, hx⟩ : ∃ x, f[k]? = some x := ⟨_, List.getElem?_eq_getElem (by rw [HNf.out]; exact hlt)⟩
          obtain ⟨y, hy⟩ : ∃ y, g[k]? = some y := ⟨_, List.getElem?_eq_getElem (by rw [HNg.out]; exact hlt)⟩
          have hk1 : (k : Int) < (nf : Int) := by omega
          have hd : decide ((k : Int) < (nf : Int)) = true := decide_eq_true hk1
          obtain ⟨g1, o1, rfl, hg1, d1⟩ := (HFr.out wr hbr).cellAt hx
          have HGr2 := HGr
          obtain ⟨g2, o2, rfl, hg2, d2⟩ := (HGr.out wr hbr).cellAt hy
          have HBad : Hid ((symS x = false ∨ symS y = false) → renE t f g = 6) := Lib.hid fun hh => by
            unfold renE
            rw [if_neg (by rw [hc'.out]; simp), if_neg (by rw [HNf.out, HNg.out]; simp), if_pos]
            rw [Bool.and_eq_false_iff]
            rcases hh with hh | hh
            · exact .inl (List.all_eq_false.2 ⟨x, List.mem_of_getElem? hx, by rw [hh]; simp⟩)
            · exact .inr (List.all_eq_false.2 ⟨y, List.mem_of_getElem? hy, by rw [hh]; simp⟩)
          have CX := Lib.hid (CSy.out x wr hbr)
          have HXk := Lib.hid hx
          have HYk := Lib.hid hy
          obtain ⟨b1, hb1⟩ : ∃ b, symS x = b := ⟨_, rfl⟩
          obtain ⟨b2, hb2⟩ : ∃ b, symS y = b := ⟨_, rfl⟩
          have HB1 := Lib.hid hb1
          have HB2 := Lib.hid hb2
          rw [hb1] at CX
          clear hx hy hb1 hb2 HGr2
          go_wp2_with fail
          -- MARK2
          refine CX.out.mono ?_
          rintro e w3 ⟨rfl, hb3⟩
          have hbr3 := hbr.trans (hb3.mono hbr.size)
          cases b1 with
          | false =>
            go_wp2_with fail
            go_ret2
            exact HRet.out 6 _ (HBad.out (.inl HB1.out)) (by decide) hbr3
          | true =>
            have CY := Lib.hid (CSy.out y w3 hbr3)
            rw [HB2.out] at CY
            have d3 := (hb3.cell (p := ⟨g2, o2 + k, none⟩) hg2).trans d2
            go_wp2_with fail
            -- MARK3
            refine CY.out.mono ?_
            rintro e w4 ⟨rfl, hb4⟩
            have hbr4 := hbr3.trans (hb4.mono hbr3.size)
            cases b2 with
            | false =>
              go_wp2_with fail
              go_ret2
              exact HRet.out 6 _ (HBad.out (.inr HB2.out)) (by decide) hbr4
            | true =>
              have HSo2 : Hid (∀ (j : Nat) s, j < k + 1 → (f[j]? = some s ∨ g[j]? = some s) → symS s = true) := Lib.hid fun j s hj hs => by
                by_cases e : j = k
                · subst e
                  rcases hs with hs | hs
                  · rw [HXk.out] at hs; rw [← Option.some.inj hs]; exact HB1.out
                  · rw [HYk.out] at hs; rw [← Option.some.inj hs]; exact HB2.out
                · exact HSo.out j s (by omega) hs
              go_wp2_with fail
              go_roundw
              case rel => exact ⟨k + 1, by go_num, by omega, HSo2, hbr4⟩
              case measure => simp [intOf]; omega
        · obtain rfl : nf = k := by omega
          have hd : decide ((nf : Int) < (nf : Int)) = false := decide_eq_false (Int.lt_irrefl _)
          have HAll : Hid ((f.all symS && g.all symS) = true) := Lib.hid (by
            rw [Bool.and_eq_true, List.all_eq_true, List.all_eq_true]
            constructor
            · intro s hs
              obtain ⟨j, hj⟩ := List.getElem?_of_mem hs
              exact HSo.out j s (by rw [← HNf.out]; exact (List.getElem?_eq_some_iff.1 hj).1) (.inl hj)
            · intro s hs
              obtain ⟨j, hj⟩ := List.getElem?_of_mem hs
              exact HSo.out j s (by rw [← HNg.out]; exact (List.getElem?_eq_some_iff.1 hj).1) (.inr hj))
          have CT := Lib.hid (twice_any (.slice a1 nf c1) f wr (HFr.out wr hbr) (by rw [HNf.out]; exact hfl))
          clear HSo
          by_cases hnd : f.Nodup
          · have hE : renE t f g = 0 := by
              unfold renE
              rw [if_neg (by rw [hc'.out]; simp), if_neg (by rw [HNf.out, HNg.out]; simp), if_neg (by rw [HAll.out]; simp), if_neg (by simp [hnd])]
            have HE := Lib.hid hE
            have hU : renU t f g = renL f g t := by unfold renU; rw [if_pos hE]
            rw [decide_eq_false (by simp [hnd])] at CT
            have HU := Lib.hid hU
            obtain ⟨gt, ot, ct, hv, hgt, hcl⟩ := HNd.out.some (chkT_ok hc'.out).2.1
            rw [HN.out] at hv
            obtain ⟨rfl, _, rfl⟩ := Value.slice.inj hv
            have h400 : n ≤ 400 := by rw [← HN.out]; exact (chkT_ok hc'.out).2.2.1
            have HCl := Lib.hid hcl
            clear hcl hv hE hU hnd HAll
            go_wp2_with fail
            -- MARK4
            refine CT.out.mono ?_
            rintro e w3 ⟨rfl, hb3⟩
            have hbr3 := hbr.trans (hb3.mono hbr.size)
            have CC := Lib.hid (clone_own gt ot c0 n t w3 HN.out (by omega) (fun j u hj => (hbr3.cell (p := ⟨gt, ot + j, none⟩) hgt).trans (HCl.out j u hj)) (Nat.lt_of_lt_of_le hgt hbr3.size))
            clear CT hb3 hbr
            go_wp2_with fail
            -- MARK5
            refine CC.out.mono ?_
            rintro e w4 ⟨vu, rfl, ho4, hb4⟩
            have hbr4 := hbr3.trans (hb4.mono hbr3.size)
            have hpos : 0 < n := by rw [← HN.out]; exact List.length_pos_iff.2 (chkT_ok hc'.out).2.1
            obtain ⟨gu, cu, rfl, hgu1, hgu2⟩ : ∃ gu cu, vu = .slice (some ⟨gu, 0, none⟩) n cu ∧ w3.heap.size ≤ gu ∧ gu < w4.heap.size := by
              rcases own_form ho4 with ⟨_, h0⟩ | h0
              · omega
              · exact h0
            have hBg : w.heap.size ≤ gu := Nat.le_trans hbr3.size hgu1
            have HO4 : Hid (w4.ownsRow w3.heap.size 48 4 (.slice (some ⟨gu, 0, none⟩) n cu) n (dcs (renK f g t 0))) := Lib.hid (by rw [renK_0]; exact ho4)
            clear CC hb4 ho4
            go_wp2_with fail
            -- MARK6
            go_loopw [51] (fun x51 wr => ∃ k : Nat, x51 = .int .i64 (k : Int) ∧ k ≤ n ∧ Hid (wr.ownsRow w3.heap.size 48 4 (.slice (some ⟨gu, 0, none⟩) n cu) n (dcs (renK f g t k))) ∧ Below w.heap.size w wr ∧ gu < wr.heap.size) (fun x51 _ => n - (intOf x51).toNat)
            case atStart => exact ⟨0, rfl, Nat.zero_le _, HO4, hbr4, hgu2⟩
            case round =>
              obtain ⟨k, rfl, hk, HO, hbr, hgur⟩ := hrel
              have hk0 : (0 : Int) ≤ (k : Int) := Int.natCast_nonneg _
              by_cases hlt : k < n
              · obtain ⟨x, hx⟩ : ∃ x, t[k]? = some x := ⟨_, List.getElem?_eq_getElem (by rw [HN.out]; exact hlt)⟩
                have hk1 : (k : Int) < (n : Int) := by omega
                have hd : decide ((k : Int) < (n : Int)) = true := decide_eq_true hk1
                obtain ⟨p0, p1, p2, p3⟩ := dcs_at t hx
                have d0 := (hbr.cell (p := ⟨gt, ot + k * 4, none⟩) hgt).trans (HCl.out _ _ p0)
                have d1 := (hbr.cell (p := ⟨gt, ot + (k * 4 + 1), none⟩) hgt).trans (HCl.out _ _ p1)
                have d2 := (hbr.cell (p := ⟨gt, ot + (k * 4 + 2), none⟩) hgt).trans (HCl.out _ _ p2)
                have d3 := (hbr.cell (p := ⟨gt, ot + (k * 4 + 3), none⟩) hgt).trans (HCl.out _ _ p3)
                have e3 := own_cell4 HO.out (dcs_at _ (renK_at (f := f) (g := g) hx)).2.2.2
                have f3 := HO.out.frozenAt (k * 4 + 3)
                have HSt := Lib.hid (renK_step (f := f) (g := g) hx)
                have HSm := Lib.hid (renK_same (f := f) (g := g) hx)
                have HS3 := Lib.hid (fun s => dcs_set3 _ k x s (renK_at (f := f) (g := g) hx))
                have hcas := renN_cases (f := f) (g := g) (x := x) (renE_0 HE.out).2.2.1 (renE_0 HE.out).2.1 ((chkT_ok hc'.out).2.2.2.1 x (List.mem_of_getElem? hx))
                obtain ⟨x0, x1, x2, x3⟩ := x
                simp only [← Nat.add_assoc] at d0 d1 d2 d3 e3 HSt HS3 HSm hcas
                have CP : Hid (∀ W, Below w.heap.size w W → Calls Tryd.prog 76 #[.slice a1 nf c1, .string (str x3)] W fun e w' => e = .returned (.int .i64 (plcS f x3)) ∧ W = w') := Lib.hid fun W hW => placeS_any _ f x3 W (HFr.out W hW) (by rw [HNf.out]; omega)
                have hbx : Below w.heap.size w (wr.alloc (.cells #[.int .i64 x0, .int .i64 x1, .int .i64 x2, .string (str x3)] 48)) := hbr.alloc hbr.size _
                have hgx : gu ≠ wr.heap.size := by omega
                clear hx p0 p1 p2 p3
                rcases hcas with ⟨e0, hno⟩ | ⟨hk3, j, j1, j2, j3, e0⟩
                · rw [plcS_none hno] at CP
                  have hsm := HSm.out e0
                  have HSm2 := Lib.hid hsm
                  clear hsm hno e0
                  go_wp2_with (go_at_call 76; refine (CP.out _ hbx).mono ?_; rintro e w5 ⟨rfl, rfl⟩)
                  -- MARK7
                  exact ⟨⟨k + 1, by go_num, by omega, Lib.hid (by rw [HSm2.out]; exact HO.out.alloc _), hbx, by rw [World.size_alloc]; omega⟩, by simp [intOf]; omega⟩
                · obtain ⟨s', hs'⟩ : ∃ s', g[j]? = some s' := ⟨_, List.getElem?_eq_getElem j2⟩
                  obtain ⟨g2, o2, rfl, hg2, q2⟩ := (HGr.out wr hbr).cellAt hs'
                  have q3 := (World.cell?_alloc_lt wr (.cells #[.int .i64 x0, .int .i64 x1, .int .i64 x2, .string (str x3)] 48) ⟨g2, o2 + j, none⟩ hg2).trans q2
                  have hgd : g.getD j [] = s' := by rw [List.getD_eq_getElem?_getD, hs']; rfl
                  rw [j3] at CP
                  rw [e0, hgd] at HSt
                  have hst2 := HS3.out s'
                  rw [← HSt.out] at hst2
                  have HSt2 := Lib.hid hst2
                  have hjn : j < nf := by rw [← HNg.out]; exact j2
                  have hj0 : (0 : Int) ≤ (j : Int) := Int.natCast_nonneg _
                  have hj1 : (j : Int) < (nf : Int) := by omega
                  obtain ⟨r1, r2⟩ := HO.out.stored (k * 4 + 3) (.string (str s'))
                  rw [HSt2.out] at r1
                  have HR1 := Lib.hid r1
                  have e4 := (World.cell?_alloc_lt wr (.cells #[.int .i64 x0, .int .i64 x1, .int .i64 x2, .string (str x3)] 48) ⟨gu, k * 4 + 3, none⟩ hgur).trans e3
                  obtain ⟨z, hz⟩ : ∃ z, str s' = z := ⟨_, rfl⟩
                  rw [hz] at q3 HR1 q2
                  clear j1 j2 j3 e0 hs' hgd hst2 r1 r2 hz hk3
                  go_wp2_with (go_at_call 76; refine (CP.out _ hbx).mono ?_; rintro e w5 ⟨rfl, rfl⟩)
                  -- MARK8
                  exact ⟨⟨k + 1, by go_num, by omega, Lib.hid (HR1.out.alloc _), (hbr.setCell (p := ⟨gu, k * 4 + 3, none⟩) hBg _).alloc (by rw [World.size_setCell]; exact hbr.size) _, by rw [World.size_alloc, World.size_setCell]; omega⟩, by simp [intOf]; omega⟩
              · obtain rfl : k = n := by omega
                have hd : decide ((k : Int) < (k : Int)) = false := decide_eq_false (Int.lt_irrefl _)
                have hall : renK f g t k = renL f g t := by rw [← HN.out]; exact renK_all f g t
                have hO := HO.out
                rw [hall] at hO
                have hln : (renL f g t).length = k := by unfold renL; rw [List.length_map, HN.out]
                obtain ⟨a9, c9, hv9, hN9, _⟩ := nds_own hO hln
                have HN9 := Lib.hid hN9
                have HLn := Lib.hid hln
                obtain ⟨rfl, _, rfl⟩ := Value.slice.inj hv9
                clear hall hO hln hN9 hv9 HO
                go_wp2_with fail
                go_ret2
                rw [HU.out, HE.out]
                refine ⟨some ⟨gu, 0, none⟩, cu, ?_, ?_, hbr⟩
                · show _ = Ending.returned (.tuple #[.slice _ (renL f g t).length _, _])
                  -- MARK9
                  rw [HLn.out]; rfl
                · rw [HLn.out]; exact HN9.out
          · have HE8 : Hid (renE t f g = 8) := Lib.hid (by
              unfold renE
              rw [if_neg (by rw [hc'.out]; simp), if_neg (by rw [HNf.out, HNg.out]; simp), if_neg (by rw [HAll.out]; simp), if_pos (by simpa using hnd)])
            rw [decide_eq_true (by simpa using hnd)] at CT
            clear HAll hnd
            go_wp2_with fail
            refine CT.out.mono ?_
            rintro e w3 ⟨rfl, hb3⟩
            go_wp2_with fail
            go_ret2
            exact HRet.out 8 _ HE8.out (by decide) (hbr.trans (hb3.mono hbr.size))
    · have HE2 : Hid (renE t f g = 2) := Lib.hid (by
        unfold renE
        rw [if_neg (by rw [hc'.out]; simp), if_pos (by rw [HNf.out, HNg.out]; exact hlen)])
      have hne : ((nf : Int) != (ng : Int)) = true := bne_iff_ne.2 (by omega)
      clear hlen hc
      go_enter Tryd.func43, Tryd.ntmps43
      go_wp2_with fail
      rw [← hW1]
      refine C1.out.mono ?_
      rintro e w2 ⟨rfl, hb2⟩
      go_wp2_with fail
      go_ret2
      exact HRet.out 2 _ HE2.out (by decide) (hb1.trans (hb2.mono hb1.size))
  · obtain ⟨e2, he2⟩ : ∃ e2, (chkT symS t).2 = e2 := ⟨_, rfl⟩
    have HEe : Hid (renE t f g = e2) := Lib.hid (by unfold renE; rw [if_pos hc]; exact he2)
    rw [he2] at C1 hc
    have hne : (e2 != 0) = true := bne_iff_ne.2 hc
    have HC := Lib.hid hc
    clear h KB T hnf hng hn hc he2
    go_enter Tryd.func43, Tryd.ntmps43
    go_wp2_with fail
    rw [← hW1]
    refine C1.out.mono ?_
    rintro e w2 ⟨rfl, hb2⟩
    go_wp2_with fail
    go_ret2
    exact HRet.out e2 _ HEe.out HC.out (hb1.trans (hb2.mono hb1.size))
end Go.Proofs.YtkngkajojcmmlaaDoor
