import Derived.Test.YtdiinlmeoifgjaaDoorHn
import Derived.Test.YtdiinlmeoifgjaaDoorHea
import Derived.Laws.Concat
import Derived.OneCell
import Derived.Test.YtdiinlmeoifgjaaDoorZq
import Derived.Test.YtdiinlmeoifgjaaDoorHdo
import Derived.Deep.RegionHeld3
/- Other names for the symbols of a pattern (mathematics). -/
namespace Go.Proofs.YtdiinlmeoifgjaaDoor

/-- The symbol that stands for the one with a number. -/
def nameL (k : Nat) : List UInt8 := [118, UInt8.ofNat (97 + k / 26), UInt8.ofNat (97 + k % 26)]
theorem nameL_inj {a b : Nat} (ha : a < 3900) (hb : b < 3900) (h : nameL a = nameL b) : a = b := by
  unfold nameL at h
  simp only [List.cons.injEq, and_true, true_and] at h
  have h1 := congrArg UInt8.toNat h.1
  have h2 := congrArg UInt8.toNat h.2
  simp only [UInt8.toNat_ofNat'] at h1 h2
  omega
theorem nameL_sym : ∀ k : Fin 130, symS (nameL k.val) = true := by decide +kernel
theorem nameL_dots (k : Nat) : nameL k ≠ [46, 46, 46] := by
  unfold nameL; intro h; simp at h
theorem nameL_blk (k : Nat) : nameL k ≠ [95] := by
  unfold nameL; intro h; simp at h
/-- A node that gets another name. -/
def isV (L : List Pid) (x : Sx) : Prop := x.k = 3 ∧ dotsX x = false ∧ blkX x = false ∧ idX x ∉ L
instance (L : List Pid) (x : Sx) : Decidable (isV L x) := by unfold isV; infer_instance
def renX (L M : List Pid) (x : Sx) : Sx := if isV L x then { x with s := nameL (M.idxOf (idX x)), p := [] } else x
/-- The identifiers met so far. -/
def metS (L : List Pid) (M : List Pid) (x : Sx) : List Pid := if isV L x ∧ idX x ∉ M then M ++ [idX x] else M
def metF (L : List Pid) (p : List Sx) : List Pid := p.foldl (metS L) []
theorem metS_sub {L M : List Pid} {x : Sx} {q : Pid} (h : q ∈ M) : q ∈ metS L M x := by
  unfold metS; split
  · exact List.mem_append_left _ h
  · exact h
theorem metS_has {L M : List Pid} {x : Sx} (h : isV L x) : idX x ∈ metS L M x := by
  unfold metS; split
  · simp
  · rename_i hn
    exact Decidable.byContradiction fun e => hn ⟨h, e⟩
theorem metS_idx {L M : List Pid} {x : Sx} {q : Pid} (h : q ∈ M) : (metS L M x).idxOf q = M.idxOf q := by
  unfold metS; split
  · rw [List.idxOf_append, if_pos h]
  · rfl
theorem metS_len (L M : List Pid) (x : Sx) : (metS L M x).length ≤ M.length + 1 := by
  unfold metS; split
  · simp
  · omega
theorem metF_snoc (L : List Pid) (p : List Sx) (x : Sx) : metF L (p ++ [x]) = metS L (metF L p) x := by
  unfold metF; rw [List.foldl_append]; rfl
theorem metF_take {L : List Pid} {p : List Sx} {i : Nat} {x : Sx} (h : p[i]? = some x) : metF L (p.take (i + 1)) = metS L (metF L (p.take i)) x := by
  rw [List.take_add_one, h, ← metF_snoc]; rfl
theorem metF_go (L : List Pid) : ∀ (p : List Sx) (M : List Pid), (∀ q ∈ M, q ∈ p.foldl (metS L) M) ∧ (∀ x ∈ p, isV L x → idX x ∈ p.foldl (metS L) M) ∧ (∀ q ∈ M, (p.foldl (metS L) M).idxOf q = M.idxOf q) ∧ (p.foldl (metS L) M).length ≤ M.length + p.length := by
  intro p
  induction p with
  | nil => intro M; exact ⟨fun q h => h, (fun x h => absurd h (by simp)), fun q _ => rfl, Nat.le_refl _⟩
  | cons y p ih =>
    intro M
    obtain ⟨h1, h2, h3, h4⟩ := ih (metS L M y)
    refine ⟨fun q h => h1 q (metS_sub h), fun x hx hv => ?_, fun q h => (h3 q (metS_sub h)).trans (metS_idx h), ?_⟩
    · rcases List.mem_cons.1 hx with rfl | hx
      · exact h1 _ (metS_has hv)
      · exact h2 x hx hv
    · have := metS_len L M y
      rw [List.foldl_cons, List.length_cons]; omega
theorem metF_has {L : List Pid} {p : List Sx} {x : Sx} (hx : x ∈ p) (hv : isV L x) : idX x ∈ metF L p := (metF_go L p []).2.1 x hx hv
theorem metF_len (L : List Pid) (p : List Sx) : (metF L p).length ≤ p.length := by
  have := (metF_go L p []).2.2.2
  simpa [metF] using this
/-- The later identifiers do not change what the nodes before have got. -/
theorem metF_idx {L : List Pid} {p : List Sx} {i : Nat} {q : Pid} (h : q ∈ metF L (p.take i)) : (metF L p).idxOf q = (metF L (p.take i)).idxOf q := by
  have e : metF L p = (p.drop i).foldl (metS L) (metF L (p.take i)) := by
    unfold metF; rw [← List.foldl_append, List.take_append_drop]
  rw [e]
  exact (metF_go L (p.drop i) (metF L (p.take i))).2.2.1 q h
theorem ren_idx {L : List Pid} {p : List Sx} {i : Nat} {x : Sx} (hx : p[i]? = some x) : renX L (metF L p) x = renX L (metF L (p.take (i + 1))) x := by
  unfold renX
  split
  · rename_i hv
    rw [metF_idx (i := i + 1)]
    rw [metF_take hx]; exact metS_has hv
  · rfl
/-- The number that the loop finds for the node i is its number in the end. -/
theorem ren_num {L : List Pid} {p : List Sx} {i : Nat} {x : Sx} (hx : p[i]? = some x) (hv : isV L x) : (metF L p).idxOf (idX x) = (metF L (p.take i)).idxOf (idX x) := by
  rw [metF_idx (i := i + 1) (by rw [metF_take hx]; exact metS_has hv), metF_take hx]
  unfold metS
  split
  · rename_i h
    rw [List.idxOf_append, if_neg h.2, List.idxOf_eq_length h.2]; simp
  · rfl
/-- The nodes when i of them have been looked at. -/
def renL (L : List Pid) (p : List Sx) (i : Nat) : List Sx := (p.take i).map (renX L (metF L p)) ++ p.drop i
theorem renL_0 (L : List Pid) (p : List Sx) : renL L p 0 = p := by unfold renL; simp
theorem renL_len (L : List Pid) (p : List Sx) (i : Nat) : (renL L p i).length = p.length := by
  unfold renL; rw [List.length_append, List.length_map, ← List.length_append, List.take_append_drop]
theorem renL_at {L : List Pid} {p : List Sx} {i : Nat} {x : Sx} (h : p[i]? = some x) : (renL L p i)[i]? = some x := by
  unfold renL
  have hi := (List.getElem?_eq_some_iff.1 h).1
  rw [List.getElem?_append_right (by rw [List.length_map, List.length_take]; omega), List.length_map, List.length_take, Nat.min_eq_left (by omega), Nat.sub_self, List.getElem?_drop]
  exact h
theorem renL_next {L : List Pid} {p : List Sx} {i : Nat} {x : Sx} (h : p[i]? = some x) : renL L p (i + 1) = (renL L p i).set i (renX L (metF L p) x) := by
  obtain ⟨hi, he⟩ := List.getElem?_eq_some_iff.1 h
  unfold renL
  rw [List.take_add_one, h, List.map_append, List.set_append_right _ _ (by rw [List.length_map, List.length_take]; omega), List.length_map, List.length_take, Nat.min_eq_left (by omega), Nat.sub_self]
  rw [List.drop_eq_getElem_cons hi, he]
  simp
theorem renL_skip {L : List Pid} {p : List Sx} {i : Nat} {x : Sx} (h : p[i]? = some x) (hv : ¬ isV L x) : renL L p (i + 1) = renL L p i := by
  rw [renL_next h]
  have : renX L (metF L p) x = x := by unfold renX; rw [if_neg hv]
  rw [this]
  have h2 := renL_at (L := L) h
  obtain ⟨h3, h4⟩ := List.getElem?_eq_some_iff.1 h2
  apply List.ext_getElem?
  intro j
  rw [List.getElem?_set]
  split
  · rename_i e
    subst e
    rw [h2]
  · rfl
theorem renL_end (L : List Pid) (p : List Sx) : renL L p p.length = p.map (renX L (metF L p)) := by unfold renL; simp
-- MARK1
/-- No new name is a literal. -/
def FreeN (L : List Pid) (p : List Sx) : Prop := ∀ x ∈ p, isV L x → (nameL ((metF L p).idxOf (idX x)), []) ∉ L
section
variable {L M : List Pid}
theorem ren_k (x : Sx) : (renX L M x).k = x.k := by unfold renX; split <;> rfl
theorem ren_c (x : Sx) : (renX L M x).c = x.c := by unfold renX; split <;> rfl
theorem ren_dots (x : Sx) : dotsX (renX L M x) = dotsX x := by
  unfold renX; split
  · rename_i h
    rw [h.2.1]; unfold dotsX
    rw [decide_eq_false (nameL_dots _), Bool.and_false]
  · rfl
theorem ren_blk (x : Sx) : blkX (renX L M x) = blkX x := by
  unfold renX; split
  · rename_i h
    rw [h.2.2.1]; unfold blkX
    rw [decide_eq_false (nameL_blk _), Bool.and_false]
  · rfl
theorem ren_err {x : Sx} {d : Int} (hM : M.length < 130) (hx : isV L x → idX x ∈ M) (h : errX x d = 0) : errX (renX L M x) d = 0 := by
  unfold renX; split
  · rename_i hv
    have hk := hv.1
    have hsym := nameL_sym ⟨M.idxOf (idX x), by have := List.idxOf_lt_length_iff.2 (hx hv); omega⟩
    unfold errX at h ⊢
    have e1 : kindX { x with s := nameL (M.idxOf (idX x)), p := [] } = kindX x := by unfold kindX; simp [hk]
    rw [e1]
    split at h
    · cases h
    · rename_i h1
      rw [if_neg h1]
      split at h
      · cases h
      · rename_i h2
        rw [if_neg h2]
        unfold fldX at h ⊢
        simp only at hsym ⊢
        rw [hsym]
        have e2 : chkE [] = 0 := by decide
        rw [e2]
        split at h
        · cases h
        · split at h
          · cases h
          · split at h
            · rename_i h3; exact absurd h h3
            · split at h
              · cases h
              · split at h
                · cases h
                · rename_i h4 h5
                  rw [if_neg (by rintro ⟨e, _⟩; rw [hk] at e; cases e), if_neg (by simp), if_neg (by simp), if_neg h4, if_neg h5]
  · exact h
end
theorem ren_chkG {L M : List Pid} (hM : M.length < 130) : ∀ (t : List Sx) (st : List Nat) (i : Nat), (∀ x ∈ t, isV L x → idX x ∈ M) → (chkG st i t).2 = 0 → chkG st i (t.map (renX L M)) = chkG st i t := by
  intro t
  induction t with
  | nil => intro st i _ _; rfl
  | cons x t ih =>
    intro st i hx h
    rw [List.map_cons]
    rw [chkG] at h ⊢
    rw [chkG]
    split at h
    · cases h
    · rename_i hs
      split at h
      · rename_i h2; exact absurd h h2
      · rename_i h2
        have h3 := ren_err hM (hx x (by simp)) (Decidable.not_not.1 h2)
        rw [if_neg hs, if_neg (fun e => e h3), if_neg hs, if_neg h2, ren_c]
        exact ih _ _ (fun y hy => hx y (by simp [hy])) h
theorem ren_chkX {L M : List Pid} {p : List Sx} (hM : M.length < 130) (hx : ∀ x ∈ p, isV L x → idX x ∈ M) (h : (chkX p).2 = 0) : chkX (p.map (renX L M)) = chkX p := by
  obtain ⟨h1, h2, h3⟩ := chkX_one h
  rw [h1]
  unfold chkX
  rw [if_neg (by simpa using h2), List.length_map, if_neg (by omega)]
  exact ren_chkG hM p _ _ hx (by rw [← h1]; exact h)
section
variable {L M : List Pid} {p : List Sx}
theorem ren_kids : kidsX (p.map (renX L M)) = kidsX p := by
  unfold kidsX; rw [List.map_map]
  congr 1; funext x; show (renX L M x).c.toNat = _; rw [ren_c]
theorem ren_end : endX (p.map (renX L M)) = endX p := by funext i; unfold endX; rw [ren_kids]
theorem ren_dotAt : dotAt (p.map (renX L M)) = dotAt p := by
  funext i; unfold dotAt; rw [List.getElem?_map]
  cases p[i]? with
  | none => rfl
  | some x => exact ren_dots x
theorem ren_lstAt : lstAt (p.map (renX L M)) = lstAt p := by
  funext i; unfold lstAt; rw [List.getElem?_map]
  cases p[i]? with
  | none => rfl
  | some x => show decide ((renX L M x).k = 4) = _; rw [ren_k]
theorem ren_dpt : dpt (p.map (renX L M)) = dpt p := by
  funext i e d; unfold dpt; rw [ren_end, ren_dotAt]
theorem ren_spL : ∀ (m i f e d : Nat) (b : Bool), spL (p.map (renX L M)) m i f e d b = spL p m i f e d b := by
  intro m
  induction m with
  | zero => intro i f e d b; rfl
  | succ m ih =>
    intro i f e d b
    rw [spL, spL, ren_dpt, ren_end, ren_lstAt, ren_dotAt, ih, ih]
theorem ren_spP : spP (p.map (renX L M)) = spP p := by
  unfold spP spE; rw [List.length_map, ren_spL]
theorem ren_hdP (h : chkX (p.map (renX L M)) = chkX p) : hdP (p.map (renX L M)) = hdP p := by
  unfold hdP
  rw [h]
  split
  · rfl
  · cases p with
    | nil => rfl
    | cons x t =>
      simp only [List.map_cons, ren_k, ren_c]
      cases t with
      | nil => rfl
      | cons y t => simp only [List.map_cons, ren_k]
end
/-- The new name of a variable. -/
def newV (M : List Pid) (x : Pid × Nat) : Pid × Nat := ((nameL (M.idxOf x.1), []), x.2)
theorem ren_rdF {L M : List Pid} {p : List Sx} (hM : M.length < 130) (hx : ∀ x ∈ p, isV L x → idX x ∈ M) (hF : ∀ x ∈ p, isV L x → (nameL (M.idxOf (idX x)), []) ∉ L) : ∀ (l : List Spt) (vs : List (Pid × Nat)), (∀ v ∈ vs, v.1 ∈ M) →
    rdF (p.map (renX L M)) L (vs.map (newV M)) l = ((rdF p L vs l).1.map (newV M), (rdF p L vs l).2) := by
  intro l
  induction l with
  | nil => intro vs _; rfl
  | cons z l ih =>
    intro vs hvs
    rw [rdF, rdF, List.getElem?_map]
    cases hz : p[z.1]? with
    | none => rfl
    | some x =>
      have hxp := List.mem_of_getElem? hz
      simp only [Option.map_some]
      rw [ren_dots, ren_blk, ren_k]
      by_cases h1 : dotsX x = true ∧ z.2.2 = true
      · rw [if_pos h1, if_pos h1]
      rw [if_neg h1, if_neg h1]
      by_cases hv : isV L x
      · have hid : idX (renX L M x) = (nameL (M.idxOf (idX x)), []) := by unfold renX; rw [if_pos hv]; rfl
        have hn : ¬ (x.k ≠ 3 ∨ dotsX x = true ∨ blkX x = true ∨ idX x ∈ L) := by
          obtain ⟨a, b, c, d⟩ := hv
          rintro (h | h | h | h)
          · exact h a
          · rw [b] at h; cases h
          · rw [c] at h; cases h
          · exact d h
        have hn2 : ¬ (x.k ≠ 3 ∨ dotsX x = true ∨ blkX x = true ∨ idX (renX L M x) ∈ L) := by
          rw [hid]
          rintro (h | h | h | h)
          · exact hn (.inl h)
          · exact hn (.inr (.inl h))
          · exact hn (.inr (.inr (.inl h)))
          · exact hF x hxp hv h
        rw [if_neg hn, if_neg hn2, hid]
        have hm := hx x hxp hv
        by_cases h3 : 3 < z.2.1
        · rw [if_pos h3, if_pos h3]
        rw [if_neg h3, if_neg h3]
        have hmem : (nameL (M.idxOf (idX x)), ([] : List UInt8)) ∈ (vs.map (newV M)).map (·.1) ↔ idX x ∈ vs.map (·.1) := by
          constructor
          · intro h
            obtain ⟨y, hy, e⟩ := List.mem_map.1 h
            obtain ⟨v, hv2, rfl⟩ := List.mem_map.1 hy
            have e2 : nameL (M.idxOf v.1) = nameL (M.idxOf (idX x)) := (Prod.mk.inj e).1
            have l1 := List.idxOf_lt_length_iff.2 (hvs v hv2)
            have l2 := List.idxOf_lt_length_iff.2 hm
            have e3 := nameL_inj (by omega) (by omega) e2
            have e4 : v.1 = idX x := by
              have a1 := List.getElem_idxOf l1
              have a2 := List.getElem_idxOf l2
              rw [← a1, ← a2]; simp only [e3]
            exact List.mem_map.2 ⟨v, hv2, e4⟩
          · intro h
            obtain ⟨v, hv2, e⟩ := List.mem_map.1 h
            exact List.mem_map.2 ⟨newV M v, List.mem_map.2 ⟨v, hv2, rfl⟩, by unfold newV; rw [e]⟩
        by_cases h4 : idX x ∈ vs.map (·.1)
        · rw [if_pos h4, if_pos (hmem.2 h4)]
        rw [if_neg h4, if_neg (fun h => h4 (hmem.1 h))]
        have := ih (vs ++ [(idX x, z.2.1)]) (fun v hv2 => by
          rcases List.mem_append.1 hv2 with h | h
          · exact hvs v h
          · rw [List.mem_singleton.1 h]; exact hm)
        rw [List.map_append] at this
        exact this
      · have hid : renX L M x = x := by unfold renX; rw [if_neg hv]
        rw [hid]
        have hn : x.k ≠ 3 ∨ dotsX x = true ∨ blkX x = true ∨ idX x ∈ L := by
          by_cases a : x.k = 3
          · cases b : dotsX x with
            | true => exact .inr (.inl rfl)
            | false =>
              cases c : blkX x with
              | true => exact .inr (.inr (.inl rfl))
              | false =>
                refine .inr (.inr (.inr (Decidable.byContradiction fun d => hv ⟨a, b, c, d⟩)))
          · exact .inl a
        rw [if_pos hn, if_pos hn]
        exact ih vs hvs
theorem ren_rdP {L : List Pid} {p : List Sx} (hc : (chkX p).2 = 0) (hl : p.length < 130) (hF : FreeN L p) :
    rdP (p.map (renX L (metF L p))) L = ((rdP p L).1.map (newV (metF L p)), (rdP p L).2) := by
  have hM : (metF L p).length < 130 := Nat.lt_of_le_of_lt (metF_len L p) hl
  have hx : ∀ x ∈ p, isV L x → idX x ∈ metF L p := fun x h hv => metF_has h hv
  have h1 := ren_chkX (L := L) hM hx hc
  have h2 := ren_hdP h1
  have h3 := ren_rdF hM hx hF (spP p) [] (fun v h => by cases h)
  unfold rdP
  rw [h2, ren_spP]
  rw [List.map_nil] at h3
  rw [h3]
  split
  · rfl
  · split
    · rfl
    · rfl
-- MARK9
end Go.Proofs.YtdiinlmeoifgjaaDoor

/- Other names for the symbols of a pattern: the name; nodes in place; which variables there are. -/
namespace Go.Proofs.YtdiinlmeoifgjaaDoor
open Go.RowKit Go.PlainAid

theorem lit_convN (x y : UInt8) (W : World) : (convert 76 9 (.slice (some ⟨W.heap.size, 0, none⟩) 2 2)).run Tryd.prog (W.alloc (.cells #[.int .u8 (x.toNat : Int), .int .u8 (y.toNat : Int)] 5)) = .ok (.string (str [x, y])) (W.alloc (.cells #[.int .u8 (x.toNat : Int), .int .u8 (y.toNat : Int)] 5)) :=
  conv_own (l := [x, y]) Tryd.underlying76 Tryd.underlying5 (World.ownsRow_lit (base := 0) (e := 5) (size := 1) W #[.int .u8 (x.toNat : Int), .int .u8 (y.toNat : Int)] 2 (by omega) (by decide) rfl) 9 Tryd.underlying9
set_option maxRecDepth 50000 in
theorem name_any (k : Nat) (w : World) (hk : k < 130) : Calls Tryd.prog 25 #[.int .i64 (k : Int)] w fun e w' => e = .returned (.string (str (nameL k))) ∧ Below w.heap.size w w' := by
  obtain ⟨a, ha⟩ : ∃ a, k / 26 = a := ⟨_, rfl⟩
  obtain ⟨b, hb⟩ : ∃ b, k % 26 = b := ⟨_, rfl⟩
  have ha5 : a ≤ 5 := by omega
  have hb25 : b < 26 := by omega
  have hq : Int.tdiv (k : Int) 26 = (a : Int) := by rw [← ha]; rfl
  have hr : Int.tmod (k : Int) 26 = (b : Int) := by rw [← hb]; rfl
  have hx1 : ((UInt8.ofNat (97 + a)).toNat : Int) = 97 + (a : Int) := by rw [UInt8.toNat_ofNat']; omega
  have hy1 : ((UInt8.ofNat (97 + b)).toNat : Int) = 97 + (b : Int) := by rw [UInt8.toNat_ofNat']; omega
  have HN : Hid (nameL k = [118, UInt8.ofNat (97 + a), UInt8.ofNat (97 + b)]) := Lib.hid (by unfold nameL; rw [ha, hb])
  obtain ⟨x, hx⟩ : ∃ x, UInt8.ofNat (97 + a) = x := ⟨_, rfl⟩
  obtain ⟨y, hy⟩ : ∃ y, UInt8.ofNat (97 + b) = y := ⟨_, rfl⟩
  rw [hx] at hx1 HN
  rw [hy] at hy1 HN
  obtain ⟨R, hR⟩ : ∃ R, str (nameL k) = R := ⟨_, rfl⟩
  have HR : Hid (R = str [118] ++ str [x, y]) := Lib.hid (by rw [← hR, HN.out, str_cat]; rfl)
  rw [hR]
  have w1 : IntKind.i64.wrap (97 + (a : Int)) = 97 + (a : Int) := by rw [IntKind.wrap_i64] <;> omega
  have w2 : IntKind.i64.wrap (97 + (b : Int)) = 97 + (b : Int) := by rw [IntKind.wrap_i64] <;> omega
  have w3 : IntKind.i64.wrap (a : Int) = (a : Int) := by rw [IntKind.wrap_i64] <;> omega
  have hcv := lit_convN x y w
  have hB := below_b1 w (.cells #[.int .u8 (97 + (a : Int)), .int .u8 (97 + (b : Int))] 5)
  rw [hx1, hy1] at hcv
  have HB := Lib.hid hB
  have hs1 : (str [118]).size = 1 := rfl
  have hs2 : (str [x, y]).size = 2 := rfl
  have hv : ({ data := #[118] } : ByteArray) = str [118] := rfl
  obtain ⟨V, hV⟩ : ∃ V, str [118] = V := ⟨_, rfl⟩
  obtain ⟨S, hS⟩ : ∃ S, str [x, y] = S := ⟨_, rfl⟩
  rw [hV] at hs1 hv HR
  rw [hS] at hs2 hcv HR
  have ho : ∀ W, (Op.stringOp .add V S).run Tryd.prog W = .ok (.string (V ++ S)) W := fun W => run_string_add_sum W _ _ (by rw [hs1, hs2]; omega)
  clear ha hb hx hy hR hB hV hS HN hk hx1 hy1
  go_enter Tryd.func25, Tryd.ntmps25
  -- MARK0
  go_wp2_with fail
  -- MARK1
  go_ret
  exact ⟨ret_str HR.out.symm, HB.out⟩
theorem xcs_set3 : ∀ (l : List Sx) {k : Nat} {x : Sx} (s : List UInt8), l[k]? = some x → (xcs l).set (k * 8 + 3) (.string (str s)) = xcs (l.set k { x with s := s }) := by
  intro l
  induction l with
  | nil => intro k x s h; simp at h
  | cons y l ih =>
    intro k x s h
    cases k with
    | zero =>
      simp at h; subst h
      rw [List.set_cons_zero, xcs_cons, xcs_cons]; rfl
    | succ k =>
      have := ih s (k := k) (by simpa using h)
      rw [List.set_cons_succ, xcs_cons, xcs_cons, ← this, show (k + 1) * 8 + 3 = k * 8 + 3 + 8 by omega]
      rfl
theorem xcs_set4 : ∀ (l : List Sx) {k : Nat} {x : Sx} (s : List UInt8), l[k]? = some x → (xcs l).set (k * 8 + 4) (.string (str s)) = xcs (l.set k { x with p := s }) := by
  intro l
  induction l with
  | nil => intro k x s h; simp at h
  | cons y l ih =>
    intro k x s h
    cases k with
    | zero =>
      simp at h; subst h
      rw [List.set_cons_zero, xcs_cons, xcs_cons]; rfl
    | succ k =>
      have := ih s (k := k) (by simpa using h)
      rw [List.set_cons_succ, xcs_cons, xcs_cons, ← this, show (k + 1) * 8 + 4 = k * 8 + 4 + 8 by omega]
      rfl
/-- A node gets another name, in place. -/
theorem own_ren {w : World} {B n g c k : Nat} {l : List Sx} {x : Sx} (h : w.ownsRow B 49 8 (.slice (some ⟨g, 0, none⟩) n c) n (xcs l)) (hx : l[k]? = some x) (s p : List UInt8) :
    ((w.setCell ⟨g, k * 8 + 3, none⟩ (.string (str s))).setCell ⟨g, k * 8 + 4, none⟩ (.string (str p))).ownsRow B 49 8 (.slice (some ⟨g, 0, none⟩) n c) n (xcs (l.set k { x with s := s, p := p })) := by
  have h1 := (h.stored (k * 8 + 3) (.string (str s))).1
  rw [xcs_set3 l s hx] at h1
  have h2 := (h1.stored (k * 8 + 4) (.string (str p))).1
  have hk := (List.getElem?_eq_some_iff.1 hx).1
  rw [xcs_set4 _ p (x := { x with s := s }) (by rw [List.getElem?_set_self hk]), List.set_set] at h2
  exact h2
theorem idx_at : ∀ {M : List Pid} {q : Pid} {j : Nat}, M[j]? = some q → (∀ i < j, ∀ y, M[i]? = some y → y ≠ q) → M.idxOf q = j := by
  intro M
  induction M with
  | nil => intro q j h; simp at h
  | cons a M ih =>
    intro q j h hn
    cases j with
    | zero => simp at h; subst h; exact List.idxOf_cons_self
    | succ j =>
      have h0 := hn 0 (by omega) a rfl
      rw [List.idxOf_cons, beq_eq_false_iff_ne.2 h0, cond_false, ih (by simpa using h) (fun i hi y hy => hn (i + 1) (by omega) y (by simpa using hy))]
theorem rdF_vars {p : List Sx} {L : List Pid} : ∀ (l : List Spt) (vs : List (Pid × Nat)), ∀ v ∈ (rdF p L vs l).1, v ∈ vs ∨ ∃ x ∈ p, isV L x ∧ idX x = v.1 := by
  intro l
  induction l with
  | nil => intro vs v hv; exact .inl hv
  | cons z l ih =>
    intro vs v hv
    rw [rdF] at hv
    cases hz : p[z.1]? with
    | none => rw [hz] at hv; exact .inl hv
    | some x =>
      rw [hz] at hv
      simp only at hv
      split at hv
      · exact .inl hv
      · split at hv
        · exact ih vs v hv
        · rename_i hn
          split at hv
          · exact .inl hv
          · split at hv
            · exact .inl hv
            · rcases ih _ v hv with h | h
              · rcases List.mem_append.1 h with h | h
                · exact .inl h
                · right
                  refine ⟨x, List.mem_of_getElem? hz, ?_, by rw [List.mem_singleton.1 h]⟩
                  refine ⟨Decidable.byContradiction fun e => hn (.inl e), ?_, ?_, fun e => hn (.inr (.inr (.inr e)))⟩
                  · cases e : dotsX x with
                    | false => rfl
                    | true => exact absurd (.inr (.inl e)) hn
                  · cases e : blkX x with
                    | false => rfl
                    | true => exact absurd (.inr (.inr (.inl e))) hn
              · exact .inr h
theorem rdP_vars {p : List Sx} {L : List Pid} {v : Pid × Nat} (h : v ∈ (rdP p L).1) : v.1 ∈ metF L p := by
  unfold rdP at h
  split at h
  · cases h
  · split at h
    · cases h
    · rcases rdF_vars _ _ v h with h | ⟨x, hx, hv, e⟩
      · cases h
      · rw [← e]; exact metF_has hx hv
-- MARK9
end Go.Proofs.YtdiinlmeoifgjaaDoor

/- Other names for the symbols of a pattern: the state of the loop that gives them. -/
namespace Go.Proofs.YtdiinlmeoifgjaaDoor
open Go.RowKit Go.PlainAid

theorem infoSxN : (Tryd.prog.info? 49).map (fun i => (i.zero, i.size, i.bytes)) = some (some (.agg #[.int .i64 0, .int .i64 0, .int .i64 0, .string ⟨#[]⟩, .string ⟨#[]⟩, .int .i64 0, .int .i64 0, .int .i64 0]), 8, 80) := by kernel_rfl
theorem emp_rowS (B : Nat) (W : World) (h : B ≤ W.heap.size) : (W.alloc (.cells #[] 49)).ownsRow B 49 8 (.slice (some ⟨W.heap.size, 0, none⟩) 0 0) 0 [] :=
  ⟨rfl, .inr ⟨W.heap.size, 0, #[], rfl, h, World.alloc_heap_new _ _, Nat.le_refl _, by unfold maxLen; omega, rfl, rfl⟩⟩
theorem xs_src {w : World} {ad : Addr} {m c : Nat} {l : List Sx} (h : XsAt w (.slice (some ad) m c) l) : ∀ (j : Nat) (u : Value), (xcs l)[j]? = some u → w.cell? (ad.add j) = some u := by
  intro j u hj
  obtain ⟨a, n, c', e, hn, hc, h⟩ := h
  obtain ⟨rfl, rfl, rfl⟩ := Value.slice.inj e
  rcases h with rfl | ⟨g, off, e, hg, hcell⟩
  · simp [xcs] at hj
  · cases e
    rw [Go.WideShapes.add_plain]; exact hcell j u hj
theorem own_someN {w : World} {B n z : Nat} {e : TypeId} {v : Value} {xs : List Value} (h : w.ownsRow B e z v n xs) (hn : 0 < n) : ∃ g c, v = .slice (some ⟨g, 0, none⟩) n c ∧ B ≤ g ∧ g < w.heap.size := by
  rcases own_formR h with ⟨_, h0⟩ | ⟨g, c, e, h1, h2⟩
  · omega
  · exact ⟨g, c, e, h1, h2⟩
theorem ren_Sm {L M : List Pid} {p : List Sx} (h : SmX p) : SmX (p.map (renX L M)) := by
  intro y hy
  obtain ⟨x, hx, rfl⟩ := List.mem_map.1 hy
  unfold renX; split
  · exact ⟨by unfold nameL; simp, by simp⟩
  · exact h x hx
theorem ren_In {L M : List Pid} {p : List Sx} (h : InX p) : InX (p.map (renX L M)) := by
  intro y hy
  obtain ⟨x, hx, rfl⟩ := List.mem_map.1 hy
  rw [ren_c]; exact h x hx
/-- The state: the identifiers met among the first i nodes, the nodes of which r have their new names, of which f are no literals. -/
structure NmR (L : List Pid) (p : List Sx) (w4 w5 : World) (gq n cq i r f mm : Nat) (b : Option Addr) (c : Nat) (W : World) : Prop where
  len : (metF L (p.take i)).length = mm
  met : W.ownsRow w5.heap.size 32 2 (.slice b mm c) mm (pcs (metF L (p.take i)))
  row : W.ownsRow w4.heap.size 49 8 (.slice (some ⟨gq, 0, none⟩) n cq) n (xcs (renL L p r))
  free : ∀ j < f, ∀ x, p[j]? = some x → isV L x → (nameL ((metF L p).idxOf (idX x)), []) ∉ L
  lt : gq < w5.heap.size
  below : Below w4.heap.size w4 W
  sz : w5.heap.size ≤ W.heap.size
section
variable {L : List Pid} {p : List Sx} {w4 w5 W W' : World} {gq n cq i r f k mm : Nat} {b : Option Addr} {c : Nat} {x : Sx}
theorem NmR.on (h : NmR L p w4 w5 gq n cq i r f mm b c W) (hb : Below W.heap.size W W') : NmR L p w4 w5 gq n cq i r f mm b c W' :=
  ⟨h.len, own_below h.met hb, own_below h.row hb, h.free, h.lt, below_step h.below hb, Nat.le_trans h.sz hb.size⟩
theorem NmR.ge (h : NmR L p w4 w5 gq n cq i r f mm b c W) : w4.heap.size ≤ gq := (h.row.lt gq rfl).1
theorem NmR.apart (h : NmR L p w4 w5 gq n cq i r f mm b c W) : (Value.slice b mm c).ownBlock ≠ some gq := fun e => by
  have := (h.met.lt gq e).1; have := h.lt; omega
theorem NmR.xs (h : NmR L p w4 w5 gq n cq i r f mm b c W) (hn : p.length = n) : XsAt W (.slice (some ⟨gq, 0, none⟩) n cq) (renL L p r) := xs_own h.row (by rw [renL_len, hn])
theorem NmR.ps (h : NmR L p w4 w5 gq n cq i r f mm b c W) : PsAt W (.slice b mm c) (metF L (p.take i)) := ps_own h.met h.len
theorem NmR.skip (h : NmR L p w4 w5 gq n cq k k k mm b c W) (hx : p[k]? = some x) (hv : ¬ isV L x) : NmR L p w4 w5 gq n cq (k + 1) (k + 1) (k + 1) mm b c W := by
  have e1 : metF L (p.take (k + 1)) = metF L (p.take k) := by rw [metF_take hx]; unfold metS; rw [if_neg (fun h => hv h.1)]
  refine ⟨by rw [e1]; exact h.len, by rw [e1]; exact h.met, by rw [renL_skip hx hv]; exact h.row, fun j hj y hy hvy => ?_, h.lt, h.below, h.sz⟩
  rcases Nat.lt_succ_iff_lt_or_eq.1 hj with h1 | rfl
  · exact h.free j h1 y hy hvy
  · rw [hx] at hy; obtain rfl := Option.some.inj hy; exact absurd hvy hv
theorem NmR.same (h : NmR L p w4 w5 gq n cq k k k mm b c W) (hx : p[k]? = some x) (hm : idX x ∈ metF L (p.take k)) : NmR L p w4 w5 gq n cq (k + 1) k k mm b c W := by
  have e1 : metF L (p.take (k + 1)) = metF L (p.take k) := by rw [metF_take hx]; unfold metS; rw [if_neg (fun h => h.2 hm)]
  exact ⟨by rw [e1]; exact h.len, by rw [e1]; exact h.met, h.row, h.free, h.lt, h.below, h.sz⟩
theorem NmR.grow (h : NmR L p w4 w5 gq n cq k k k mm b c W) (hx : p[k]? = some x) (hv : isV L x) (hm : idX x ∉ metF L (p.take k)) {b' : Option Addr} {c' : Nat}
    (ho : W'.ownsRow w5.heap.size 32 2 (.slice b' (mm + 1) c') (mm + 1) (pcs (metF L (p.take k) ++ [idX x]))) (hg : W.grownBy W' (Value.slice b mm c).ownBlock) : NmR L p w4 w5 gq n cq (k + 1) k k (mm + 1) b' c' W' := by
  have e1 : metF L (p.take (k + 1)) = metF L (p.take k) ++ [idX x] := by rw [metF_take hx]; unfold metS; rw [if_pos ⟨hv, hm⟩]
  have hge := h.ge
  have hlt := h.lt
  exact ⟨by rw [e1, List.length_append, h.len]; rfl, by rw [e1]; exact ho, h.row.kept hg (.inr (fun e => h.apart e.symm)), h.free, h.lt,
    h.below.grown hg h.below.size (fun k hk => by have := (h.met.lt k hk).1; omega), Nat.le_trans h.sz hg.size⟩
theorem NmR.put (h : NmR L p w4 w5 gq n cq (k + 1) k k mm b c W) (hx : p[k]? = some x) (hv : isV L x) {j : Nat} (hj : (metF L p).idxOf (idX x) = j) :
    NmR L p w4 w5 gq n cq (k + 1) (k + 1) k mm b c ((W.setCell ⟨gq, k * 8 + 3, none⟩ (.string (str (nameL j)))).setCell ⟨gq, k * 8 + 4, none⟩ (.string (str []))) := by
  have hge := h.ge
  refine ⟨h.len, ownsRow_setCell_other (ownsRow_setCell_other h.met h.apart _) h.apart _, ?_, h.free, h.lt, (h.below.setCell hge _).setCell hge _, Nat.le_trans h.sz (Nat.le_trans (KeepsWalks.setCell W _ _).size (KeepsWalks.setCell _ _ _).size)⟩
  have h1 := own_ren h.row (renL_at hx) (nameL j) []
  rw [renL_next hx]
  have e : renX L (metF L p) x = { x with s := nameL j, p := [] } := by unfold renX; rw [if_pos hv, hj]
  rw [e]; exact h1
theorem NmR.done (h : NmR L p w4 w5 gq n cq (k + 1) (k + 1) k mm b c W) (hx : p[k]? = some x) {j : Nat} (hj : (metF L p).idxOf (idX x) = j) (hf : (nameL j, []) ∉ L) : NmR L p w4 w5 gq n cq (k + 1) (k + 1) (k + 1) mm b c W := by
  refine ⟨h.len, h.met, h.row, fun i hi y hy hvy => ?_, h.lt, h.below, h.sz⟩
  rcases Nat.lt_succ_iff_lt_or_eq.1 hi with h1 | rfl
  · exact h.free i h1 y hy hvy
  · rw [hx] at hy; obtain rfl := Option.some.inj hy; rw [hj]; exact hf
theorem renL_done {L : List Pid} {p : List Sx} {k : Nat} {x : Sx} (h : p[k]? = some x) : (renL L p (k + 1))[k]? = some (renX L (metF L p) x) := by
  rw [renL_next h, List.getElem?_set_self (by rw [renL_len]; exact (List.getElem?_eq_some_iff.1 h).1)]
theorem NmR.free_all (h : NmR L p w4 w5 gq n cq n n n mm b c W) (hn : p.length = n) : FreeN L p := by
  intro x hx hv
  obtain ⟨j, hj, e⟩ := List.getElem_of_mem hx
  exact h.free j (by omega) x (by rw [List.getElem?_eq_getElem hj, e]) hv
theorem NmR.xs_all (h : NmR L p w4 w5 gq n cq n n n mm b c W) (hn : p.length = n) : XsAt W (.slice (some ⟨gq, 0, none⟩) n cq) (p.map (renX L (metF L p))) := by
  have := h.xs hn
  rw [← renL_end, hn]; exact this
theorem NmR.ps_all (h : NmR L p w4 w5 gq n cq n n n mm b c W) (hn : p.length = n) : PsAt W (.slice b mm c) (metF L p) ∧ (metF L p).length = mm := by
  have h1 := h.ps
  have h2 := h.len
  rw [List.take_of_length_le (by omega)] at h1 h2
  exact ⟨h1, h2⟩
end
-- MARK9
end Go.Proofs.YtdiinlmeoifgjaaDoor

/- The law PatternNames. (Written by tools/gen_hnl.py.) -/
namespace Go.Proofs.YtdiinlmeoifgjaaDoor
open Go.RowKit Go.PlainAid

set_option maxRecDepth 100000 in
set_option maxHeartbeats 25600000 in
theorem lawNm_any (v u : Value) (p : List Sx) (L : List Pid) (w : World) (h : XsAt w v p) (hi : InX p) (hu : PsAt w u L) (T : STabs w) :
    Calls Tryd.prog 6 #[v, u] w fun e w' => e = .returned (.bool true) ∧ Below w.heap.size w w' := by
  have CL := Lib.hid (Large_any v p w h)
  have HV := Lib.hid (fun W (hW : Below w.heap.size w W) => h.below hW (Nat.le_refl _))
  have HU := Lib.hid (fun W (hW : Below w.heap.size w W) => hu.below hW (Nat.le_refl _))
  have CW := Lib.hid (fun W (hW : Below w.heap.size w W) => wide_any u L W (HU.out W hW))
  have CS := Lib.hid (fun W (hW : Below w.heap.size w W) => shown_any W (T.below hW))
  have CR := Lib.hid (fun (hs : SmX p) W (hW : Below w.heap.size w W) => rCheck10_any v p W (HV.out W hW) hs hi)
  have CK := Lib.hid (fun (hs : SmX p) (hsl : SmL L) (hll : L.length ≤ 100000) W (hW : Below w.heap.size w W) => Check_any v u p L W (HV.out W hW) hs hi (T.below hW) (HU.out W hW) hsl hll)
  have CV := Lib.hid (fun (hs : SmX p) (hsl : SmL L) (hll : L.length ≤ 100000) W (hW : Below w.heap.size w W) => Vars_any v u p L W (HV.out W hW) hs hi (T.below hW) (HU.out W hW) hsl hll)
  have CKq := Lib.hid (fun vq q (hsl : SmL L) (hll : L.length ≤ 100000) W (hW : Below w.heap.size w W) (hq : XsAt W vq q) (hs : SmX q) (hiq : InX q) => Check_any vq u q L W hq hs hiq (T.below hW) (HU.out W hW) hsl hll)
  have CVq := Lib.hid (fun vq q (hsl : SmL L) (hll : L.length ≤ 100000) W (hW : Below w.heap.size w W) (hq : XsAt W vq q) (hs : SmX q) (hiq : InX q) => Vars_any vq u q L W hq hs hiq (T.below hW) (HU.out W hW) hsl hll)
  have CH := Lib.hid (fun q1 q2 (hll : L.length ≤ 100000) W (hW : Below w.heap.size w W) => rHas_any u L q1 q2 W (HU.out W hW) hll)
  have HI := Lib.hid hi
  obtain ⟨va, vc, rfl, _⟩ := h.slice
  obtain ⟨ua, uc, rfl, hucap⟩ := hu.slice
  obtain ⟨n, hn⟩ : ∃ n, p.length = n := ⟨_, rfl⟩
  obtain ⟨m, hm⟩ : ∃ n, L.length = n := ⟨_, rfl⟩
  have HN := Lib.hid hn
  have HLN := Lib.hid hm
  rw [hn] at CL HV CR CK CV ⊢
  rw [hm] at HU CW CK CV CKq CVq CH ⊢
  unfold BigR at CL CW
  clear h hu hn hm T hi hucap
  go_enter Tryd.func6, Tryd.ntmps6
  go_wp2_with fail
  refine CL.out.mono ?_
  rintro e w1 ⟨b, rfl, HP, hb1⟩
  cases b
  case true =>
    go_wp2_with fail
    refine (CS.out w1 hb1).mono ?_
    rintro e w2 ⟨rfl, hb2⟩
    go_wp2_with fail
    go_ret
    exact ⟨rfl, below_step hb1 hb2⟩
  obtain ⟨hn120, hsm⟩ := HP rfl
  have HS : Hid (SmX p) := Lib.hid fun x hx => by have := hsm x hx; omega
  clear HP hsm
  go_wp2_with fail
  refine (CW.out w1 hb1).mono ?_
  rintro e w2 ⟨b, rfl, HP, hb2⟩
  have hw2 := below_step hb1 hb2
  cases b
  case true =>
    go_wp2_with fail
    refine (CS.out w2 hw2).mono ?_
    rintro e w3 ⟨rfl, hb3⟩
    go_wp2_with fail
    go_ret
    exact ⟨rfl, below_step hw2 hb3⟩
  obtain ⟨hm30, hsl⟩ := HP rfl
  have HSL : Hid (SmL L) := Lib.hid fun x hx => by have := hsl x hx; omega
  clear HP hsl
  have CR := Lib.hid (CR.out HS.out)
  have CK := Lib.hid (CK.out HS.out HSL.out (by omega))
  have CV := Lib.hid (CV.out HS.out HSL.out (by omega))
  have CKq := Lib.hid (fun vq q => CKq.out vq q HSL.out (by omega))
  have CVq := Lib.hid (fun vq q => CVq.out vq q HSL.out (by omega))
  have CH := Lib.hid (fun q1 q2 => CH.out q1 q2 (by omega))
  obtain ⟨⟨c1, c2⟩, hcx⟩ : ∃ r, chkX p = r := ⟨_, rfl⟩
  rw [hcx] at CR
  simp only at CR
  go_wp2_with fail
  refine (CR.out w2 hw2).mono ?_
  rintro e w3 ⟨rfl, hb3⟩
  have hw3 := below_step hw2 hb3
  by_cases hc2 : c2 = 0
  case neg =>
    have hne : (c2 != 0) = true := bne_iff_ne.2 hc2
    clear hcx hc2
    go_wp2_with fail
    refine (CS.out w3 hw3).mono ?_
    rintro e w4 ⟨rfl, hb4⟩
    go_wp2_with fail
    go_ret
    exact ⟨rfl, below_step hw3 hb4⟩
  subst hc2
  have hc : (chkX p).2 = 0 := by rw [hcx]
  have hn0 : 0 < n := by rw [← HN.out]; exact List.length_pos_iff.2 (chkX_tree hc).2.1
  have HRen := Lib.hid (ren_rdP (L := L) hc (by rw [HN.out]; omega))
  have HAv := Lib.hid (fun v hv => rdP_vars (p := p) (L := L) (v := v) hv)
  have HAl := Lib.hid (rdP_len p L (by rw [HN.out]; omega))
  have HMl := Lib.hid (metF_len L p)
  obtain ⟨⟨A, ai, ae⟩, hA⟩ : ∃ r, rdP p L = r := ⟨_, rfl⟩
  unfold VarsV two64 at *
  rw [hA] at HRen HAv HAl CK CV
  simp only at HRen HAv HAl CK CV
  obtain ⟨x00, hx00⟩ : ∃ x, p[0]? = some x := ⟨_, List.getElem?_eq_getElem (by rw [HN.out]; exact hn0)⟩
  obtain ⟨g0, o0, rfl, _⟩ := (HV.out w (Below.refl _ _)).node hx00
  have HXc := Lib.hid (fun W hW => xs_src (HV.out W hW))
  have HXL : Hid ((xcs p).length = n * 8) := Lib.hid (by rw [xcs_len, HN.out])
  obtain ⟨i0, hi0, hz0, hz1, hz2⟩ := info_parts2 infoSxN
  clear hA hcx hc hx00 CR CL CW
  go_wp2_with fail
  refine (CK.out w3 hw3).mono ?_
  rintro e w4 ⟨rfl, hb4⟩
  have hw4 := below_step hw3 hb4
  have hba := hw4.alloc hw4.size (.cells #[] 49)
  have hs4 : w4.heap.size ≤ (w4.alloc (.cells #[] 49)).heap.size := by rw [World.size_alloc]; omega
  have HEr := Lib.hid (emp_rowS w4.heap.size w4 (Nat.le_refl _))
  go_wp2_with (at_builtin; refine wpList_append_own _ rfl _ _ 22 rfl w4.heap.size 49 i0 (.agg #[.int .i64 0, .int .i64 0, .int .i64 0, .string ⟨#[]⟩, .string ⟨#[]⟩, .int .i64 0, .int .i64 0, .int .i64 0]) 8 80 Tryd.underlying22 hi0 hz0 hz1 hz2 rfl (by decide) _ _ _ rfl HEr.out ⟨g0, o0, none⟩ n vc (xcs p) rfl HXL.out (HXc.out _ hba) (one_xcs p) (by unfold maxLen; omega) (by omega) hs4 ?_; intro v5 w5 hown5 hgrow5 _; rw [List.nil_append, Nat.zero_add] at hown5; obtain ⟨gq, cq, rfl, hgq1, hgq2⟩ := own_someN hown5 hn0; have hb45 : Below w4.heap.size w4 w5 := ((below_b1 w4 _)).grown hgrow5 hs4 (fun k hk => (HEr.out.lt k hk).1); have HO5 := Lib.hid hown5; clear hown5 hgrow5)
  -- MARK1
  have HR0 : Hid (NmR L p w4 w5 gq n cq 0 0 0 0 none 0 w5) := Lib.hid ⟨rfl, own_nilH _ _ _ _, by rw [renL_0]; exact HO5.out, fun j hj => absurd hj (Nat.not_lt_zero _), hgq2, hb45, Nat.le_refl _⟩
  obtain ⟨ip, hip, hp0, hp1, hp2⟩ := info_parts2 infoPi
  clear hba hs4 HEr HO5 HXc HXL hi0 hz0 hz1 hz2 CK
  go_loopw [8, 10] (fun x8 x10 wr => ∃ (k mm : Nat) (b : Option Addr) (c : Nat), x8 = .slice b mm c ∧ x10 = .int .i64 (k : Int) ∧ k ≤ n ∧ mm ≤ k ∧ Hid (NmR L p w4 w5 gq n cq k k k mm b c wr)) (fun _ x10 _ => n - (intOf x10).toNat)
  case atStart => exact ⟨0, 0, none, 0, rfl, rfl, Nat.zero_le _, Nat.le_refl _, HR0⟩
  case round =>
    obtain ⟨k, mm, b, c, rfl, rfl, hk, hmk, HR⟩ := hrel
    have hk0 : (0 : Int) ≤ (k : Int) := Int.natCast_nonneg _
    by_cases hlt : k < n
    · have hd1 : decide ((k : Int) < (n : Int)) = true := decide_eq_true (by omega)
      have hk1 : (k : Int) < (n : Int) := by omega
      obtain ⟨x, hx⟩ : ∃ x, p[k]? = some x := ⟨_, List.getElem?_eq_getElem (by rw [HN.out]; exact hlt)⟩
      obtain ⟨g1, o1, e1, _, c0, c1, c2, c3, c4, c5, c6, c7⟩ := (HR.out.xs HN.out).node (renL_at hx)
      obtain ⟨rfl, rfl⟩ : gq = g1 ∧ 0 = o1 := by cases e1; exact ⟨rfl, rfl⟩
      simp only [Nat.zero_add] at c0 c1 c2 c3 c4 c5 c6 c7
      clear e1
      have CD := Lib.hid (fun W => Dots_any x W)
      have CB := Lib.hid (fun W => Blank_any x W)
      have CI := Lib.hid (fun W => Id_any x W)
      have CHx := Lib.hid (CH.out x.s x.p)
      have HX := Lib.hid hx
      obtain ⟨x0, x1, x2, x3, x4, x5, x6, x7⟩ := x
      have HPC : Hid (pcs (metF L (p.take k)) ++ [.string (str x3), .string (str x4)] = pcs (metF L (p.take k) ++ [(x3, x4)])) := Lib.hid (by rw [pcs_app, pcs_one]; rfl)
      unfold idX keyV at CI
      simp only [sxA_open] at CD CB CI CHx c0 c1 c2 c3 c4 c5 c6 c7
      obtain ⟨bd, hbd⟩ : ∃ b, dotsX ⟨x0, x1, x2, x3, x4, x5, x6, x7⟩ = b := ⟨_, rfl⟩
      obtain ⟨bk, hbk⟩ : ∃ b, blkX ⟨x0, x1, x2, x3, x4, x5, x6, x7⟩ = b := ⟨_, rfl⟩
      obtain ⟨bt, hbt⟩ : ∃ b, (x0 != 3) = b := ⟨_, rfl⟩
      obtain ⟨bm, hbm⟩ : ∃ b, decide (((x3, x4) : Pid) ∈ L) = b := ⟨_, rfl⟩
      have HIs : Hid (isV L ⟨x0, x1, x2, x3, x4, x5, x6, x7⟩ ↔ bt = false ∧ bd = false ∧ bk = false ∧ bm = false) := Lib.hid (by
        unfold isV idX; rw [hbd, hbk, ← hbt, ← hbm]; simp)
      rw [hbd] at CD
      rw [hbk] at CB
      rw [hbm] at CHx
      obtain ⟨X, hX⟩ : ∃ S, str x3 = S := ⟨_, rfl⟩
      obtain ⟨Y, hY⟩ : ∃ S, str x4 = S := ⟨_, rfl⟩
      have HXs := Lib.hid hX
      have HYs := Lib.hid hY
      rw [hX] at CD CB CI CHx HPC c3
      rw [hY] at CD CB CI CHx HPC c4
      clear hbd hbk hbm hx hX hY
      have hx8 := World.alloc_heap_new wr (.cells #[.int .i64 x0, .int .i64 x1, .int .i64 x2, .string X, .string Y, .int .i64 x5, .int .i64 x6, .int .i64 x7] 49)
      have hb8 : Below wr.heap.size wr (wr.alloc (.cells #[.int .i64 x0, .int .i64 x1, .int .i64 x2, .string X, .string Y, .int .i64 x5, .int .i64 x6, .int .i64 x7] 49)) := below_b1 wr _
      have hz8 : wr.heap.size < (wr.alloc (.cells #[.int .i64 x0, .int .i64 x1, .int .i64 x2, .string X, .string Y, .int .i64 x5, .int .i64 x6, .int .i64 x7] 49)).heap.size := by rw [World.size_alloc]; exact Nat.lt_succ_self _
      obtain ⟨W8, hW8⟩ : ∃ W8, wr.alloc (.cells #[.int .i64 x0, .int .i64 x1, .int .i64 x2, .string X, .string Y, .int .i64 x5, .int .i64 x6, .int .i64 x7] 49) = W8 := ⟨_, rfl⟩
      rw [hW8] at hx8 hb8 hz8
      have HB8 := Lib.hid (fun W (hW : Below W8.heap.size W8 W) => box8F ((hW.block wr.heap.size hz8).trans hx8))
      obtain ⟨q0, q1, q2, q3, q4, q5, q6, q7⟩ := HB8.out _ (Below.refl _ _)
      have HR8 := Lib.hid (HR.out.on hb8)
      clear hx8
      cases bt
      case true =>
        have HNx := Lib.hid (HR8.out.skip HX.out (fun e => by have := HIs.out.1 e; simp at this))
        go_wp2_with fail
        -- MARKT
        exact ⟨⟨k + 1, mm, b, c, rfl, by go_num, by omega, by omega, HNx⟩, by simp [intOf]; omega⟩
      go_wp2_with fail
      -- MARK2
      refine (CD.out W8).mono ?_
      rintro e w9 ⟨rfl, hb9⟩
      clear q0 q1 q2 q3 q4 q5 q6 q7
      cases bd
      case true =>
        have HNx := Lib.hid ((HR8.out.on hb9).skip HX.out (fun e => by have := HIs.out.1 e; simp at this))
        go_wp2_with fail
        exact ⟨⟨k + 1, mm, b, c, rfl, by go_num, by omega, by omega, HNx⟩, by simp [intOf]; omega⟩
      obtain ⟨q0, q1, q2, q3, q4, q5, q6, q7⟩ := HB8.out _ hb9
      go_wp2_with fail
      refine (CB.out w9).mono ?_
      rintro e w10 ⟨rfl, hb10⟩
      have hb810 := below_step hb9 hb10
      clear q0 q1 q2 q3 q4 q5 q6 q7 hb10
      cases bk
      case true =>
        have HNx := Lib.hid ((HR8.out.on hb810).skip HX.out (fun e => by have := HIs.out.1 e; simp at this))
        go_wp2_with fail
        exact ⟨⟨k + 1, mm, b, c, rfl, by go_num, by omega, by omega, HNx⟩, by simp [intOf]; omega⟩
      obtain ⟨q0, q1, q2, q3, q4, q5, q6, q7⟩ := HB8.out _ hb810
      go_wp2_with fail
      refine (CI.out w10).mono ?_
      rintro e w11 ⟨rfl, hb11⟩
      have hb811 := below_step hb810 hb11
      clear q0 q1 q2 q3 q4 q5 q6 q7 hb11
      go_wp2_with fail
      refine (CHx.out w11 (below_step hw4 (HR8.out.on hb811).below)).mono ?_
      rintro e w12 ⟨rfl, hb12⟩
      have hb812 := below_step hb811 hb12
      clear hb12 hb810 hb811 hb9
      cases bm
      case true =>
        have HNx := Lib.hid ((HR8.out.on hb812).skip HX.out (fun e => by have := HIs.out.1 e; simp at this))
        go_wp2_with fail
        exact ⟨⟨k + 1, mm, b, c, rfl, by go_num, by omega, by omega, HNx⟩, by simp [intOf]; omega⟩
      have HIv : Hid (isV L ⟨x0, x1, x2, x3, x4, x5, x6, x7⟩) := Lib.hid (HIs.out.2 (by simp))
      have HR12 := Lib.hid (HR8.out.on hb812)
      have HB12 := Lib.hid (fun W (hW : Below w12.heap.size w12 W) => HB8.out W (below_step hb812 hW))
      clear hb812 HIs CD CB CHx HR8 HB8 HR c0 c1 c2 c3 c4 c5 c6 c7 hb8 hz8
      go_wp2_with fail
      -- MARK3
      clear hW8
      generalize wr.heap.size = A8 at *
      have HPM := Lib.hid (fun W (hW : Below w12.heap.size w12 W) => (HR12.out.on hW).ps)
      go_loopw [12] (fun x12 wi => ∃ j : Nat, x12 = .int .i64 (j : Int) ∧ j ≤ mm ∧ Hid (∀ i < j, ∀ y, (metF L (p.take k))[i]? = some y → y ≠ (x3, x4)) ∧ Below w12.heap.size w12 wi) (fun x12 _ => mm - (intOf x12).toNat)
      case atStart => exact ⟨0, rfl, Nat.zero_le _, Lib.hid (fun i hi => absurd hi (Nat.not_lt_zero _)), Below.refl _ _⟩
      case round =>
        obtain ⟨j, rfl, hj, HE, hbi⟩ := hrel
        have hj0 : (0 : Int) ≤ (j : Int) := Int.natCast_nonneg _
        obtain ⟨q0, q1, q2, q3, q4, q5, q6, q7⟩ := HB12.out wr hbi
        by_cases hjm : j < mm
        · have hd2 : decide ((j : Int) < (mm : Int)) = true := decide_eq_true (by omega)
          have hj1 : (j : Int) < (mm : Int) := by omega
          obtain ⟨y, hy⟩ : ∃ y, (metF L (p.take k))[j]? = some y := ⟨_, List.getElem?_eq_getElem (by rw [HR12.out.len]; exact hjm)⟩
          obtain ⟨g2, o2, rfl, hg2, d0, d1⟩ := (HPM.out wr hbi).node hy
          have HY0 := Lib.hid hy
          have HKd : Hid (∀ W, Below w12.heap.size w12 W → W.cell? ⟨g2, o2 + j * 2, none⟩ = some (.string (str y.1)) ∧ W.cell? ⟨g2, o2 + j * 2 + 1, none⟩ = some (.string (str y.2))) := Lib.hid fun W hW => by
            obtain ⟨g3, o3, e3, _, f0, f1⟩ := (HPM.out W hW).node HY0.out
            cases e3; exact ⟨f0, f1⟩
          obtain ⟨y1, y2⟩ := y
          simp only at d0 d1 HKd
          have hq := pid_ne y1 y2 x3 x4
          obtain ⟨bq, hbq⟩ : ∃ bq, decide (((y1, y2) : Pid) = (x3, x4)) = bq := ⟨_, rfl⟩
          have HQ : Hid (((y1, y2) : Pid) = (x3, x4) ↔ bq = true) := Lib.hid (by rw [← hbq, decide_eq_true_iff])
          obtain ⟨M0, hM0⟩ : ∃ S, str y1 = S := ⟨_, rfl⟩
          obtain ⟨M1, hM1⟩ : ∃ S, str y2 = S := ⟨_, rfl⟩
          rw [hbq, HXs.out, HYs.out, hM0, hM1] at hq
          rw [hM0] at d0 HKd
          rw [hM1] at d1 HKd
          have HKs := Lib.hid (fun W (hW : Below wr.heap.size wr W) => have hw := below_step hbi hW; (⟨(HKd.out W hw).1, (HKd.out W hw).2, HB12.out W hw⟩ : _ ∧ _ ∧ _))
          clear hy hbq hM0 hM1
          go_wp2_with fail
          -- MARKI
          go_region_held3 (fun w' => w'.cell? ⟨g2, o2 + j * 2, none⟩ = some (.string M0) ∧ w'.cell? ⟨g2, o2 + j * 2 + 1, none⟩ = some (.string M1) ∧ w'.cell? ⟨A8, 0, none⟩ = some (.int .i64 x0) ∧ w'.cell? ⟨A8, 1, none⟩ = some (.int .i64 x1) ∧ w'.cell? ⟨A8, 2, none⟩ = some (.int .i64 x2) ∧ w'.cell? ⟨A8, 3, none⟩ = some (.string X) ∧ w'.cell? ⟨A8, 4, none⟩ = some (.string Y) ∧ w'.cell? ⟨A8, 5, none⟩ = some (.int .i64 x5) ∧ w'.cell? ⟨A8, 6, none⟩ = some (.int .i64 x6) ∧ w'.cell? ⟨A8, 7, none⟩ = some (.int .i64 x7)) (first | exact HKs.out _ (by assumption) | go_keep) ((go_at_call 24; refine (CI.out _).mono ?_; rintro e w13 ⟨rfl, hb13⟩; have hb14 : Below wr.heap.size wr w13 := below_step (Below.refl _ wr).drew hb13))
          -- MARKJ
          have hb1213 := below_step hbi hb14
          clear hb13 hb14 hbi
          cases bq
          · have HE2 : Hid (∀ i < j + 1, ∀ y, (metF L (p.take k))[i]? = some y → y ≠ (x3, x4)) := Lib.hid (fun i hi y hy => by
              rcases Nat.lt_succ_iff_lt_or_eq.1 hi with h | rfl
              · exact HE.out i h y hy
              · rw [HY0.out] at hy; obtain rfl := Option.some.inj hy; exact fun e => by have := HQ.out.1 e; cases this)
            go_wp2_with fail
            -- MARKL
            exact ⟨⟨j + 1, by go_num, by omega, HE2, hb1213⟩, by simp [intOf]; omega⟩
          · have hyx : (metF L (p.take k))[j]? = some (x3, x4) := by rw [HY0.out, HQ.out.2 rfl]
            have HJ : Hid ((metF L p).idxOf (x3, x4) = j) := Lib.hid ((ren_num HX.out HIv.out).trans (idx_at hyx HE.out))
            have HSz := Lib.hid ((HR12.out.on hb1213).same HX.out (List.mem_of_getElem? hyx))
            have hne : ((j : Int) == (mm : Int)) = false := beq_eq_false_iff_ne.2 (by omega)
            clear hyx HE HY0 HQ HKd HKs HPM
            have CN := Lib.hid (fun W => name_any j W (by omega))
            have CIz := Lib.hid (fun W => Id_any ⟨x0, x1, x2, nameL j, [], x5, x6, x7⟩ W)
            have CHz := Lib.hid (CH.out (nameL j) [])
            obtain ⟨bh, hbh⟩ : ∃ b, decide (((nameL j, []) : Pid) ∈ L) = b := ⟨_, rfl⟩
            have HBh : Hid (bh = false → (nameL j, []) ∉ L) := Lib.hid fun e => by rw [e] at hbh; exact of_decide_eq_false hbh
            obtain ⟨S, hS⟩ : ∃ S, str (nameL j) = S := ⟨_, rfl⟩
            have HSs := Lib.hid hS
            unfold idX keyV at CIz
            simp only [sxA_open] at CIz
            rw [hS] at CN CIz CHz
            rw [hbh] at CHz
            clear hS hbh
            go_wp2_with fail
            refine (CN.out w13).mono ?_
            rintro e w14 ⟨rfl, hb14⟩
            have HS14 := Lib.hid (HSz.out.on hb14)
            have hf3 := HS14.out.row.frozenAt (k * 8 + 3)
            have hf4 := HS14.out.row.frozenAt (k * 8 + 4)
            obtain ⟨g1, o1, e1, _, _, _, _, c3, c4, _⟩ := (HS14.out.xs HN.out).node (renL_at HX.out)
            obtain ⟨rfl, rfl⟩ : gq = g1 ∧ 0 = o1 := by cases e1; exact ⟨rfl, rfl⟩
            simp only [Nat.zero_add] at c3 c4
            have HP15 := Lib.hid (HS14.out.put HX.out HIv.out HJ.out)
            have he : str [] = ({ data := #[] } : ByteArray) := rfl
            rw [HSs.out, he] at HP15
            obtain ⟨W15, hW15⟩ : ∃ W15, (w14.setCell ⟨gq, k * 8 + 3, none⟩ (.string S)).setCell ⟨gq, k * 8 + 4, none⟩ (.string { data := #[] }) = W15 := ⟨_, rfl⟩
            rw [hW15] at HP15
            have HXz : Hid (renX L (metF L p) ⟨x0, x1, x2, x3, x4, x5, x6, x7⟩ = ⟨x0, x1, x2, nameL j, [], x5, x6, x7⟩) := Lib.hid (by have h := HJ.out; unfold renX; rw [if_pos HIv.out]; unfold idX; simp only [h])
            obtain ⟨g1, o1, e2, _, z0, z1, z2, z3, z4, z5, z6, z7⟩ := (HP15.out.xs HN.out).node ((renL_done HX.out).trans (congrArg some HXz.out))
            obtain ⟨rfl, rfl⟩ : gq = g1 ∧ 0 = o1 := by cases e2; exact ⟨rfl, rfl⟩
            simp only [Nat.zero_add] at z0 z1 z2 z3 z4 z5 z6 z7
            rw [HSs.out] at z3
            clear e1 e2 he
            go_wp2_with fail
            -- MARKS
            refine (CIz.out W15).mono ?_
            rintro e w16 ⟨rfl, hb16⟩
            clear hW15
            go_wp2_with fail
            refine (CHz.out w16 (below_step hw4 (HP15.out.on hb16).below)).mono ?_
            rintro e w17 ⟨rfl, hb17⟩
            have hb1517 := below_step hb16 hb17
            cases bh
            case true =>
              go_wp2_with fail
              refine (CS.out w17 (below_step hw4 (HP15.out.on hb1517).below)).mono ?_
              rintro e w18 ⟨rfl, hb18⟩
              go_wp2_with fail
              go_ret
              exact ⟨rfl, below_step (below_step hw4 (HP15.out.on hb1517).below) hb18⟩
            have HDn := Lib.hid ((HP15.out.on hb1517).done HX.out HJ.out (HBh.out (by simp)))
            go_wp2_with fail
            -- MARKU
            exact ⟨⟨k + 1, mm, _, _, rfl, by go_num, by omega, by omega, HDn⟩, by simp [intOf]; omega⟩
        · obtain rfl : j = mm := by omega
          have hd2 : decide ((j : Int) < (j : Int)) = false := decide_eq_false (by omega)
          have hnl : ¬ j < j := Nat.lt_irrefl _
          have hnm : (x3, x4) ∉ metF L (p.take k) := has_no (by rw [HR12.out.len]; exact HE.out)
          have HNm := Lib.hid hnm
          have HJ : Hid ((metF L p).idxOf (x3, x4) = j) := Lib.hid ((ren_num HX.out HIv.out).trans ((List.idxOf_eq_length hnm).trans HR12.out.len))
          have heq : ((j : Int) == (j : Int)) = true := beq_self_eq_true _
          have hrf := Below.refl wr.heap.size wr
          clear hnm
          go_wp2_with fail
          go_quiet (fail)
          -- MARKK
          have hbd : Below wr.heap.size wr (wr.drewN nq) := ⟨hrf.os, hrf.tape, hrf.output, hrf.size, hrf.block⟩
          have hwd := below_step hbi hbd
          clear hrf hbd hbi q0 q1 q2 q3 q4 q5 q6 q7
          generalize wr.drewN nq = wd at *
          obtain ⟨q0, q1, q2, q3, q4, q5, q6, q7⟩ := HB12.out wd hwd
          go_wp2_with fail
          refine (CI.out wd).mono ?_
          rintro e w13 ⟨rfl, hb13⟩
          have hb1213 := below_step hwd hb13
          have HRm := Lib.hid (HR12.out.on hb1213)
          clear hb13 hwd q0 q1 q2 q3 q4 q5 q6 q7
          have hs13 := HRm.out.sz
          have hs13a : w5.heap.size ≤ (w13.alloc (.cells #[.string X, .string Y] 32)).heap.size := by rw [World.size_alloc]; omega
          go_wp2_with (at_builtin; refine wpList_append_own _ rfl _ _ 25 rfl w5.heap.size 32 ip (.agg #[.string ByteArray.empty, .string ByteArray.empty]) 2 32 Tryd.underlying25 hip hp0 hp1 hp2 rfl (by decide) _ _ _ rfl (HRm.out.met.alloc _) ⟨w13.heap.size, 0, none⟩ 1 1 [.string X, .string Y] rfl rfl (new_cells w13 [.string X, .string Y] _) (by simp [Value.oneCell']) (by unfold maxLen; omega) (by omega) hs13a ?_; intro v6 w6 hown6 hgrow6 _; rw [HPC.out] at hown6; obtain ⟨b6, cb6, rfl⟩ := own_lenR hown6; have HSz := Lib.hid ((HRm.out.on (below_b1 w13 (.cells #[.string X, .string Y] 32))).grow HX.out HIv.out HNm.out hown6 hgrow6); clear hown6 hgrow6)
          -- MARKM
          clear HE HPM hs13 hs13a HRm heq
          have CN := Lib.hid (fun W => name_any j W (by omega))
          have CIz := Lib.hid (fun W => Id_any ⟨x0, x1, x2, nameL j, [], x5, x6, x7⟩ W)
          have CHz := Lib.hid (CH.out (nameL j) [])
          obtain ⟨bh, hbh⟩ : ∃ b, decide (((nameL j, []) : Pid) ∈ L) = b := ⟨_, rfl⟩
          have HBh : Hid (bh = false → (nameL j, []) ∉ L) := Lib.hid fun e => by rw [e] at hbh; exact of_decide_eq_false hbh
          obtain ⟨S, hS⟩ : ∃ S, str (nameL j) = S := ⟨_, rfl⟩
          have HSs := Lib.hid hS
          unfold idX keyV at CIz
          simp only [sxA_open] at CIz
          rw [hS] at CN CIz CHz
          rw [hbh] at CHz
          clear hS hbh
          go_wp2_with fail
          refine (CN.out w6).mono ?_
          rintro e w14 ⟨rfl, hb14⟩
          have HS14 := Lib.hid (HSz.out.on hb14)
          have hf3 := HS14.out.row.frozenAt (k * 8 + 3)
          have hf4 := HS14.out.row.frozenAt (k * 8 + 4)
          obtain ⟨g1, o1, e1, _, _, _, _, c3, c4, _⟩ := (HS14.out.xs HN.out).node (renL_at HX.out)
          obtain ⟨rfl, rfl⟩ : gq = g1 ∧ 0 = o1 := by cases e1; exact ⟨rfl, rfl⟩
          simp only [Nat.zero_add] at c3 c4
          have HP15 := Lib.hid (HS14.out.put HX.out HIv.out HJ.out)
          have he : str [] = ({ data := #[] } : ByteArray) := rfl
          rw [HSs.out, he] at HP15
          obtain ⟨W15, hW15⟩ : ∃ W15, (w14.setCell ⟨gq, k * 8 + 3, none⟩ (.string S)).setCell ⟨gq, k * 8 + 4, none⟩ (.string { data := #[] }) = W15 := ⟨_, rfl⟩
          rw [hW15] at HP15
          have HXz : Hid (renX L (metF L p) ⟨x0, x1, x2, x3, x4, x5, x6, x7⟩ = ⟨x0, x1, x2, nameL j, [], x5, x6, x7⟩) := Lib.hid (by have h := HJ.out; unfold renX; rw [if_pos HIv.out]; unfold idX; simp only [h])
          obtain ⟨g1, o1, e2, _, z0, z1, z2, z3, z4, z5, z6, z7⟩ := (HP15.out.xs HN.out).node ((renL_done HX.out).trans (congrArg some HXz.out))
          obtain ⟨rfl, rfl⟩ : gq = g1 ∧ 0 = o1 := by cases e2; exact ⟨rfl, rfl⟩
          simp only [Nat.zero_add] at z0 z1 z2 z3 z4 z5 z6 z7
          rw [HSs.out] at z3
          clear e1 e2 he
          go_wp2_with fail
          -- MARKS
          refine (CIz.out W15).mono ?_
          rintro e w16 ⟨rfl, hb16⟩
          clear hW15
          go_wp2_with fail
          refine (CHz.out w16 (below_step hw4 (HP15.out.on hb16).below)).mono ?_
          rintro e w17 ⟨rfl, hb17⟩
          have hb1517 := below_step hb16 hb17
          cases bh
          case true =>
            go_wp2_with fail
            refine (CS.out w17 (below_step hw4 (HP15.out.on hb1517).below)).mono ?_
            rintro e w18 ⟨rfl, hb18⟩
            go_wp2_with fail
            go_ret
            exact ⟨rfl, below_step (below_step hw4 (HP15.out.on hb1517).below) hb18⟩
          have HDn := Lib.hid ((HP15.out.on hb1517).done HX.out HJ.out (HBh.out (by simp)))
          go_wp2_with fail
          -- MARKU
          exact ⟨⟨k + 1, j + 1, _, _, rfl, by go_num, by omega, by omega, HDn⟩, by simp [intOf]; omega⟩
    · obtain rfl : k = n := by omega
      have hd1 : decide ((k : Int) < (k : Int)) = false := decide_eq_false (by omega)
      have HF := Lib.hid (HR.out.free_all HN.out)
      have HRe := Lib.hid (HRen.out HF.out)
      have HXq := Lib.hid (fun W (hW : Below wr.heap.size wr W) => (HR.out.on hW).xs_all HN.out)
      have HPq := Lib.hid (fun W (hW : Below wr.heap.size wr W) => ((HR.out.on hW).ps_all HN.out).1)
      have HMn := Lib.hid ((HR.out.ps_all HN.out).2)
      have hwr := below_step hw4 HR.out.below
      have CKz := Lib.hid (fun W (hW : Below wr.heap.size wr W) => CKq.out _ _ W (below_step hwr hW) (HXq.out W hW) (ren_Sm HS.out) (ren_In HI.out))
      have CVz := Lib.hid (fun W (hW : Below wr.heap.size wr W) => CVq.out _ _ W (below_step hwr hW) (HXq.out W hW) (ren_Sm HS.out) (ren_In HI.out))
      rw [HRe.out] at CKz CVz
      simp only at CKz CVz
      obtain ⟨M, hM⟩ : ∃ M, metF L p = M := ⟨_, rfl⟩
      rw [hM] at CVz HPq HMn HAv
      clear hM HRe HRen HF HXq CKq CVq HR hip hp0 hp1 hp2
      have hai : (ai != ai) = false := by simp
      have hae : (ae != ae) = false := by simp
      go_wp2_with fail
      -- MARKP
      refine (CKz.out wr (Below.refl _ _)).mono ?_
      rintro e w6 ⟨rfl, hb6⟩
      go_wp2_with fail
      refine (CV.out w6 (below_step hwr hb6)).mono ?_
      rintro e w7 ⟨r7, rfl, hr7, hb7⟩
      have hb67 := below_step hb6 hb7
      have HW7 := Lib.hid (fun W (hW : Below w7.heap.size w7 W) => hr7.below hW (Nat.le_refl _))
      obtain ⟨ra, rc, rfl, _⟩ := hr7.slice
      rw [toW_len] at HW7 ⊢
      clear hr7
      go_wp2_with fail
      refine (CVz.out w7 hb67).mono ?_
      rintro e w8 ⟨r8, rfl, hr8, hb8⟩
      have hw8 := below_step (below_step hwr hb67) hb8
      have HW8 := Lib.hid (fun W (hW : Below w8.heap.size w8 W) => hr8.below hW (Nat.le_refl _))
      obtain ⟨sa, sc, rfl, _⟩ := hr8.slice
      rw [toW_len, List.length_map] at HW8 ⊢
      have HW7 := Lib.hid (fun W (hW : Below w8.heap.size w8 W) => HW7.out W (below_step hb8 hW))
      have HPq := Lib.hid (fun W (hW : Below w8.heap.size w8 W) => HPq.out W (below_step (below_step hb67 hb8) hW))
      have CS8 := Lib.hid (fun W (hW : Below w8.heap.size w8 W) => CS.out W (below_step hw8 hW))
      have HLA : Hid (∀ i, i < A.length → ∃ x, A[i]? = some x ∧ x.1 ∈ M ∧ (toW A)[i]? = some (x.1, (x.2 : Int)) ∧ (toW (A.map (newV M)))[i]? = some ((nameL (M.idxOf x.1), []), (x.2 : Int))) := Lib.hid fun i hi => by
        have hx := List.getElem?_eq_getElem hi
        refine ⟨_, hx, HAv.out _ (List.mem_of_getElem? hx), ?_, ?_⟩
        · unfold toW; rw [List.getElem?_map, hx]; rfl
        · unfold toW; rw [List.getElem?_map, List.getElem?_map, hx]; rfl
      obtain ⟨na, hna⟩ : ∃ na, A.length = na := ⟨_, rfl⟩
      have hA2 := HAl.out
      rw [hna] at HW7 HW8 HLA hA2 ⊢
      clear hr8 hna HAl HAv CKz CVz CV CS hb6 hb7 hb67 hb8 hwr
      have hnn : ((na : Int) != (na : Int)) = false := by simp
      go_wp2_with fail
      -- MARKQ
      go_loopw [19] (fun x19 wr => ∃ i : Nat, x19 = .int .i64 (i : Int) ∧ i ≤ na ∧ Below w8.heap.size w8 wr) (fun x19 _ => na - (intOf x19).toNat)
      case atStart => exact ⟨0, rfl, Nat.zero_le _, Below.refl _ _⟩
      case round =>
        obtain ⟨i, rfl, hi, hbo⟩ := hrel
        have hi0 : (0 : Int) ≤ (i : Int) := Int.natCast_nonneg _
        by_cases hlt : i < na
        · have hd3 : decide ((i : Int) < (na : Int)) = true := decide_eq_true (by omega)
          have hi1 : (i : Int) < (na : Int) := by omega
          obtain ⟨y, hy, hyM, hy7, hy8⟩ := HLA.out i hlt
          obtain ⟨ga, oa, rfl, _, _⟩ := (HW7.out w8 (Below.refl _ _)).node hy7
          obtain ⟨gb, ob, rfl, _, _⟩ := (HW8.out w8 (Below.refl _ _)).node hy8
          have HC7 : Hid (∀ W, Below w8.heap.size w8 W → W.cell? ⟨ga, oa + i * 3, none⟩ = some (.string (str y.1.1)) ∧ W.cell? ⟨ga, oa + i * 3 + 1, none⟩ = some (.string (str y.1.2)) ∧ W.cell? ⟨ga, oa + i * 3 + 2, none⟩ = some (.int .i64 (y.2 : Int))) := Lib.hid fun W hW => by
            obtain ⟨g3, o3, e3, _, f⟩ := (HW7.out W hW).node hy7
            cases e3; exact f
          have HC8 : Hid (∀ W, Below w8.heap.size w8 W → W.cell? ⟨gb, ob + i * 3, none⟩ = some (.string (str (nameL (M.idxOf y.1)))) ∧ W.cell? ⟨gb, ob + i * 3 + 2, none⟩ = some (.int .i64 (y.2 : Int))) := Lib.hid fun W hW => by
            obtain ⟨g3, o3, e3, _, f0, _, f2⟩ := (HW8.out W hW).node hy8
            cases e3; exact ⟨f0, f2⟩
          have HyM := Lib.hid hyM
          obtain ⟨⟨y1, y2⟩, yd⟩ := y
          simp only at HC7 HC8 HyM
          have hdd : ((yd : Int) != (yd : Int)) = false := by simp
          obtain ⟨Y0, hY0⟩ : ∃ S, str y1 = S := ⟨_, rfl⟩
          obtain ⟨Y1, hY1⟩ : ∃ S, str y2 = S := ⟨_, rfl⟩
          have HY0 := Lib.hid hY0
          have HY1 := Lib.hid hY1
          rw [hY0, hY1] at HC7
          clear hy hyM hy7 hy8 hY0 hY1
          go_wp2_with fail
          -- MARKR
          go_loopw [20] (fun x20 wi => ∃ j : Nat, x20 = .int .i64 (j : Int) ∧ j ≤ mm ∧ Hid (∀ i' < j, ∀ z, M[i']? = some z → z ≠ (y1, y2)) ∧ Below w8.heap.size w8 wi) (fun x20 _ => mm - (intOf x20).toNat)
          case atStart => exact ⟨0, rfl, Nat.zero_le _, Lib.hid (fun i hi => absurd hi (Nat.not_lt_zero _)), hbo⟩
          case round =>
            obtain ⟨j, rfl, hj, HE, hbi⟩ := hrel
            have hj0 : (0 : Int) ≤ (j : Int) := Int.natCast_nonneg _
            by_cases hjm : j < mm
            · have hd2 : decide ((j : Int) < (mm : Int)) = true := decide_eq_true (by omega)
              have hj1 : (j : Int) < (mm : Int) := by omega
              obtain ⟨z, hz⟩ : ∃ z, M[j]? = some z := ⟨_, List.getElem?_eq_getElem (by rw [HMn.out]; exact hjm)⟩
              obtain ⟨g2, o2, rfl, _, d0, d1⟩ := (HPq.out wr hbi).node hz
              have HZ := Lib.hid hz
              obtain ⟨z1, z2⟩ := z
              simp only at d0 d1
              have hq := pid_ne z1 z2 y1 y2
              obtain ⟨bq, hbq⟩ : ∃ bq, decide (((z1, z2) : Pid) = (y1, y2)) = bq := ⟨_, rfl⟩
              have HQ : Hid (((z1, z2) : Pid) = (y1, y2) ↔ bq = true) := Lib.hid (by rw [← hbq, decide_eq_true_iff])
              obtain ⟨M0, hM0⟩ : ∃ S, str z1 = S := ⟨_, rfl⟩
              obtain ⟨M1, hM1⟩ : ∃ S, str z2 = S := ⟨_, rfl⟩
              rw [hbq, HY0.out, HY1.out, hM0, hM1] at hq
              rw [hM0] at d0
              rw [hM1] at d1
              obtain ⟨f0, f1, f2⟩ := HC7.out wr hbi
              have hrf := Below.refl wr.heap.size wr
              clear hz hbq hM0 hM1
              cases bq
              · have HE2 : Hid (∀ i' < j + 1, ∀ z, M[i']? = some z → z ≠ (y1, y2)) := Lib.hid (fun i hi y hy => by
                  rcases Nat.lt_succ_iff_lt_or_eq.1 hi with h | rfl
                  · exact HE.out i h y hy
                  · rw [HZ.out] at hy; obtain rfl := Option.some.inj hy; exact fun e => by have := HQ.out.1 e; cases this)
                simp only [Bool.not_false] at hq
                go_wp2_with fail
                go_quiet (fail)
                go_wp2_with fail
                exact ⟨⟨j + 1, by go_num, by omega, HE2, below_step hbi ⟨hrf.os, hrf.tape, hrf.output, hrf.size, hrf.block⟩⟩, by simp [intOf]; omega⟩
              · have HJ : Hid (M.idxOf (y1, y2) = j) := Lib.hid (idx_at (by rw [HZ.out, HQ.out.2 rfl]) HE.out)
                simp only [Bool.not_true] at hq
                go_wp2_with fail
                go_quiet (fail)
                -- MARKV
                have hwd := below_step hbi (⟨hrf.os, hrf.tape, hrf.output, hrf.size, hrf.block⟩ : Below wr.heap.size wr (wr.drewN nq))
                clear hrf hbi d0 d1 f0 f1 f2
                generalize wr.drewN nq = wd at *
                have CN := Lib.hid (fun W => name_any j W (by omega))
                rw [HJ.out] at HC8
                obtain ⟨S, hS⟩ : ∃ S, str (nameL j) = S := ⟨_, rfl⟩
                rw [hS] at HC8 CN
                have HCs := Lib.hid (fun W (hW : Below wd.heap.size wd W) => have hw := below_step hwd hW; (⟨(HC7.out W hw).2.2, (HC8.out W hw).1, (HC8.out W hw).2⟩ : _ ∧ _ ∧ _))
                obtain ⟨f2, f3, f4⟩ := HCs.out wd (Below.refl _ _)
                have hss : (S.toList == S.toList) = true := by simp
                have hsn : (S.toList != S.toList) = false := by simp
                clear hS
                go_wp2_with fail
                -- MARKW
                go_region_held3 (fun w' => w'.cell? ⟨ga, oa + i * 3 + 2, none⟩ = some (.int .i64 (yd : Int)) ∧ w'.cell? ⟨gb, ob + i * 3, none⟩ = some (.string S) ∧ w'.cell? ⟨gb, ob + i * 3 + 2, none⟩ = some (.int .i64 (yd : Int))) (first | exact HCs.out _ (by assumption) | go_keep) ((go_at_call 25; refine (CN.out _).mono ?_; rintro e w13 ⟨rfl, hb13⟩; have hb14 : Below wd.heap.size wd w13 := below_step (Below.refl _ wd).drew hb13))
                go_wp2_with fail
                -- MARKY
                exact ⟨⟨i + 1, by go_num, by omega, below_step hwd hb14⟩, by simp [intOf]; omega⟩
            · exfalso
              exact has_no (q := (y1, y2)) (l := M) (by rw [HMn.out, show mm = j by omega]; exact HE.out) HyM.out
        · obtain rfl : i = na := by omega
          have hd3 : decide ((i : Int) < (i : Int)) = false := decide_eq_false (by omega)
          go_wp2_with fail
          refine (CS8.out wr hbo).mono ?_
          rintro e w9 ⟨rfl, hb9⟩
          go_wp2_with fail
          go_ret
          exact ⟨rfl, below_step (below_step hw8 hbo) hb9⟩
-- MARK9
end Go.Proofs.YtdiinlmeoifgjaaDoor
