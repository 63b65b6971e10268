/- The law DataRound: what its calls return of a datum. -/
import Derived.Test.YtkngkajojcmmlaaDoorDround
import Derived.Deep.AppendLies
namespace Go.Proofs.YtkngkajojcmmlaaDoor
open Go.RowKit Go.PlainAid

/-- A datum in memory. -/
def DatAt (w : World) (v : Value) (t : List Nd) : Prop := NdsAt w v t ∧ capOk v ∧ KidsB t ∧ STabs w ∧ (chkT symS t).2 = 0
theorem DatAt.below {w w' : World} {v : Value} {t : List Nd} (h : DatAt w v t) (hb : Below w.heap.size w w') : DatAt w' v t :=
  ⟨h.1.below hb (Nat.le_refl _), h.2.1, h.2.2.1, h.2.2.2.1.below hb, h.2.2.2.2⟩
theorem DatAt.sym {w : World} {v : Value} {t : List Nd} (h : DatAt w v t) : Hid (SymAll 16 symS w) := Lib.hid (symAll_of h.2.2.2.1)
theorem kidsB_sub {t : List Nd} (h : KidsB t) (i : Nat) : KidsB (subS t i) := by
  intro x hx
  unfold subS at hx
  exact h x (List.mem_of_mem_take (List.mem_of_mem_drop hx))
theorem atE_dat {t : List Nd} (hc : (chkT symS t).2 = 0) {i : Nat} (hi : i < t.length) : atE symS t (i : Int) = 0 := atE_in hc (by omega)

theorem Sub_c {w : World} {v : Value} {t : List Nd} {i : Nat} (h : DatAt w v t) (hi : i < t.length) :
    Calls Tryd.prog 31 #[v, .int .i64 (i : Int)] w fun e w' => ∃ g o c, e = .returned (.tuple #[.slice (some ⟨g, o, none⟩) (subS t i).length c, .int .i64 0]) ∧ w.heap.size ≤ g ∧ NdsAt w' (.slice (some ⟨g, o, none⟩) (subS t i).length c) (subS t i) ∧ Below w.heap.size w w' := by
  refine (Sub_any symS v t (i : Int) w h.1 h.sym (Lib.hid h.2.2.1) h.2.1).mono ?_
  rintro e w' ⟨_, h2, h3⟩
  obtain ⟨a, c, rfl, hN, _, hf⟩ := h2 (atE_dat h.2.2.2.2 hi)
  rw [Int.toNat_natCast] at hN ⊢
  obtain ⟨g, o, c', e, _, _⟩ := hN.some (chkT_ok (chk_sub h.2.2.2.2 hi).1).2.1
  cases e
  exact ⟨g, o, c, rfl, hf _ rfl, hN, h3⟩
theorem Put_c {w : World} {v vs : Value} {t : List Nd} {i : Nat} (h : DatAt w v t) (hi : i < t.length) (hs : NdsAt w vs (subS t i)) :
    Calls Tryd.prog 36 #[v, .int .i64 (i : Int), vs] w fun e w' => ∃ a c, e = .returned (.tuple #[.slice a t.length c, .int .i64 0]) ∧ NdsAt w' (.slice a t.length c) t ∧ Below w.heap.size w w' := by
  obtain ⟨h1, h2⟩ := chk_sub h.2.2.2.2 hi
  have hp : putS t i (subS t i) = t := h2.symm
  have hE : putE symS t (i : Int) (subS t i) = 0 := by
    unfold putE
    rw [if_neg (by rw [h.2.2.2.2]; simp), if_neg (by rw [h1]; simp), if_neg (by rw [atE_dat h.2.2.2.2 hi]; simp), Int.toNat_natCast, hp]
    exact h.2.2.2.2
  refine (Put_any symS v vs t (subS t i) (i : Int) w h.1 hs h.sym (Lib.hid ?_) h.2.1).mono ?_
  · intro x hx
    rcases List.mem_cons.1 hx with e | hx
    · rw [e]; exact h.2.2.1
    · rw [show x = subS t i by simpa using hx]; exact kidsB_sub h.2.2.1 i
  · rintro e w' ⟨u, rfl, _, h3, h4⟩
    obtain ⟨hN, _⟩ := h3 hE
    rw [Int.toNat_natCast, hp] at hN
    rw [hE]
    obtain ⟨a, c, rfl⟩ := hN.slice
    exact ⟨a, c, rfl, hN, h4⟩
theorem Path_c {w : World} {v : Value} {t : List Nd} {i : Nat} (h : DatAt w v t) (hi : i < t.length) :
    Calls Tryd.prog 27 #[v, .int .i64 (i : Int)] w fun e w' => ∃ a c P, e = .returned (.tuple #[.slice a P.length c, .int .i64 0]) ∧ IntRow w' (.slice a P.length c) P ∧ P.length ≤ 400 ∧ fol (kidsL t) 0 P = some i ∧ Below w.heap.size w w' := by
  refine (Path_any symS v t (i : Int) w h.1 h.sym (Lib.hid h.2.2.1)).mono ?_
  rintro e w' ⟨_, h2, h3⟩
  obtain ⟨v', l, rfl, hr, hl, hf⟩ := h2 (atE_dat h.2.2.2.2 hi)
  rw [Int.toNat_natCast] at hf
  have hr' := hr
  obtain ⟨a, c, rfl, _⟩ := hr
  exact ⟨a, c, l, rfl, hr', hl, hf, h3⟩
theorem At_c {w : World} {v vp : Value} {t : List Nd} {i : Nat} {P : List Int} (h : DatAt w v t) (hp : IntRow w vp P) (hl : P.length ≤ 400) (hf : fol (kidsL t) 0 P = some i) :
    Calls Tryd.prog 29 #[v, vp] w fun e w' => e = .returned (.tuple #[.int .i64 (i : Int), .int .i64 0]) ∧ Below w.heap.size w w' := by
  have := At_any symS v vp t P w h.1 hp h.sym (Lib.hid h.2.2.1) (by omega)
  unfold atPV at this
  rw [if_neg (by rw [h.2.2.2.2]; simp), hf] at this
  exact this
theorem Kids_c {w : World} {v : Value} {t : List Nd} {i : Nat} (h : DatAt w v t) (hi : i < t.length) :
    Calls Tryd.prog 20 #[v, .int .i64 (i : Int)] w fun e w' => ∃ a c, e = .returned (.tuple #[.slice a (cnt (kidsL t) i) c, .int .i64 0]) ∧ IntRow w' (.slice a (cnt (kidsL t) i) c) ((kidsN (kidsL t) i).map fun q : Nat => (q : Int)) ∧ Below w.heap.size w w' := by
  refine (Kids_any symS v t (i : Int) w h.1 h.sym (Lib.hid h.2.2.1)).mono ?_
  rintro e w' ⟨_, h2, h3⟩
  obtain ⟨a, c, rfl, hr⟩ := h2 (atE_dat h.2.2.2.2 hi)
  rw [Int.toNat_natCast] at hr ⊢
  exact ⟨a, c, rfl, hr, h3⟩
theorem Size_c {w : World} {v : Value} {t : List Nd} {i : Nat} (h : DatAt w v t) (hi : i < t.length) :
    Calls Tryd.prog 18 #[v, .int .i64 (i : Int)] w fun e w' => e = .returned (.tuple #[.int .i64 ((subS t i).length : Int), .int .i64 0]) ∧ Below w.heap.size w w' := by
  have := Size_any symS v t (i : Int) w h.1 h.sym (Lib.hid h.2.2.1)
  unfold sizeV at this
  obtain ⟨t1, _⟩ := chkT_ok h.2.2.2.2
  obtain ⟨e1, e2⟩ := t1.end_bd (p := i) (by rw [kidsL_len]; exact hi)
  rw [kidsL_len] at e2
  rw [atE_dat h.2.2.2.2 hi, if_pos rfl, Int.toNat_natCast, show ((endN (kidsL t) i : Nat) : Int) - (i : Int) = ((subS t i).length : Int) by rw [subS_len rfl e2]; omega] at this
  exact this
theorem Parent_c {w : World} {v : Value} {t : List Nd} {i k : Nat} (h : DatAt w v t) (hi : i < t.length) (hk : k < cnt (kidsL t) i) :
    Calls Tryd.prog 23 #[v, .int .i64 (posK (kidsL t) i k : Int)] w fun e w' => e = .returned (.tuple #[.int .i64 (i : Int), .int .i64 0]) ∧ Below w.heap.size w w' := by
  obtain ⟨t1, _⟩ := chkT_ok h.2.2.2.2
  have hil : i < (kidsL t).length := by rw [kidsL_len]; exact hi
  obtain ⟨p1, p2, _⟩ := t1.pos_step hil hk
  have := Parent_any symS v t (posK (kidsL t) i k : Int) w h.1 h.sym (Lib.hid h.2.2.1)
  unfold parV at this
  rw [atE_dat h.2.2.2.2 (by rw [← kidsL_len]; exact p2), if_neg (by simp), if_neg (by omega), Int.toNat_natCast, t1.par_of hil hk] at this
  exact this
theorem PathKid_c {w : World} {v : Value} {t : List Nd} {i k : Nat} {P : List Int} (h : DatAt w v t) (hi : i < t.length) (hk : k < cnt (kidsL t) i) (hf : fol (kidsL t) 0 P = some i) :
    Calls Tryd.prog 27 #[v, .int .i64 (posK (kidsL t) i k : Int)] w fun e w' => ∃ g o c, e = .returned (.tuple #[.slice (some ⟨g, o, none⟩) (P.length + 1) c, .int .i64 0]) ∧ w'.cell? ⟨g, o + P.length, none⟩ = some (.int .i64 (k : Int)) ∧ Below w.heap.size w w' := by
  obtain ⟨t1, t2, _⟩ := chkT_ok h.2.2.2.2
  have hil : i < (kidsL t).length := by rw [kidsL_len]; exact hi
  obtain ⟨p1, p2, _⟩ := t1.pos_step hil hk
  refine (Path_c h (i := posK (kidsL t) i k) (by rw [← kidsL_len]; exact p2)).mono ?_
  rintro e w' ⟨a, c, Q, rfl, hr, hl, hfQ, hb⟩
  obtain rfl : Q = P ++ [(k : Int)] := t1.fol_inj Q (P ++ [(k : Int)]) 0 _ (by rw [kidsL_len]; exact List.length_pos_iff.2 t2) hfQ (fol_one hf hk)
  obtain ⟨a', c', e, hA⟩ := hr
  cases e
  rcases hA with h0 | ⟨g, o, rfl, _, hc⟩
  · simp at h0
  · refine ⟨g, o, c, by rw [List.length_append]; rfl, hc P.length (k : Int) (by simp), hb⟩
theorem chkAll_of {sy : List UInt8 → Bool} : ∀ {ts : List (List Nd)}, (∀ t ∈ ts, (chkT sy t).2 = 0) → chkAllS sy ts = 0 := by
  intro ts
  induction ts with
  | nil => intro _; rfl
  | cons a r ih =>
    intro h
    rw [chkAllS, if_neg (by rw [h a (by simp)]; simp)]
    exact ih fun t ht => h t (by simp [ht])
theorem partsN_mem {t s : List Nd} {i m : Nat} (h : s ∈ partsN t i m) : ∃ k, k < m ∧ s = subS t (posK (kidsL t) i k) := by
  unfold partsN at h
  obtain ⟨k, hk, rfl⟩ := List.mem_map.1 h
  exact ⟨k, List.mem_range.1 hk, rfl⟩
theorem List_c {w : World} {v vv : Value} {t : List Nd} {i : Nat} {x : Nd} (h : DatAt w v t) (hx : t[i]? = some x) (h4 : x.1 = 4) (hr : RowsAt w vv (partsN t i (cnt (kidsL t) i))) :
    Calls Tryd.prog 33 #[vv] w fun e w' => ∃ a c, e = .returned (.tuple #[.slice a (subS t i).length c, .int .i64 0]) ∧ NdsAt w' (.slice a (subS t i).length c) (subS t i) ∧ Below w.heap.size w w' := by
  obtain ⟨t1, t2, t3, _⟩ := chkT_ok h.2.2.2.2
  obtain ⟨hi, _⟩ := List.getElem?_eq_some_iff.1 hx
  have hil : i < (kidsL t).length := by rw [kidsL_len]; exact hi
  have hsl := subS_list h.2.2.2.2 hx h4
  have hs0 := (chk_sub h.2.2.2.2 hi).1
  have hm : ∀ s ∈ partsN t i (cnt (kidsL t) i), (chkT symS s).2 = 0 ∧ KidsB s := fun s hs => by
    obtain ⟨k, hk, rfl⟩ := partsN_mem hs
    obtain ⟨_, p2, _⟩ := t1.pos_step hil hk
    exact ⟨(chk_sub h.2.2.2.2 (by rw [← kidsL_len]; exact p2)).1, kidsB_sub h.2.2.1 _⟩
  have hE : listE symS (partsN t i (cnt (kidsL t) i)) = 0 := by
    unfold listE
    rw [if_neg (by rw [chkAll_of fun s hs => (hm s hs).1]; simp), ← hsl]
    exact hs0
  have hlen : (listS (partsN t i (cnt (kidsL t) i))).length ≤ 400 := by rw [← hsl]; exact (chkT_ok hs0).2.2.1
  have hfl : (partsN t i (cnt (kidsL t) i)).flatten.length ≤ 400 := by unfold listS at hlen; rw [List.length_cons] at hlen; omega
  have hcl : cnt (kidsL t) i ≤ 400 := by
    have := kidsN_le t1 hil
    rw [kidsN_len, kidsL_len] at this; omega
  refine (List_any symS vv _ w hr h.sym (Lib.hid fun s hs => (hm s hs).2) (by rw [partsN_len]; omega) (by omega)).mono ?_
  rintro e w' ⟨u, rfl, _, h3, h5⟩
  obtain ⟨hN, _⟩ := h3 hE
  rw [hE]
  rw [← hsl] at hN
  obtain ⟨a, c, rfl⟩ := hN.slice
  exact ⟨a, c, rfl, hN, h5⟩

/-- Parts, none of which lies in the block of their list. -/
def PartsV (W : World) (b : Option Addr) (vals : List Value) (ts : List (List Nd)) : Prop :=
  vals.length = ts.length ∧ ∀ (k : Nat) (t' : List Nd), ts[k]? = some t' → ∃ g off c, vals[k]? = some (.slice (some ⟨g, off, none⟩) t'.length c) ∧ g < W.heap.size ∧ (∀ p, b = some p → g ≠ p.block) ∧ ∀ (j : Nat) (u : Value), (dcs t')[j]? = some u → W.cell? ⟨g, off + j, none⟩ = some u
theorem PartsV.below {W W' : World} {b : Option Addr} {vals : List Value} {ts : List (List Nd)} (h : PartsV W b vals ts) (hb : Below W.heap.size W W') : PartsV W' b vals ts := by
  refine ⟨h.1, fun k t' hk => ?_⟩
  obtain ⟨g, off, c, h1, h2, h3, h4⟩ := h.2 k t' hk
  exact ⟨g, off, c, h1, Nat.lt_of_lt_of_le h2 hb.size, h3, fun j u hj => (hb.cell (p := ⟨g, off + j, none⟩) h2).trans (h4 j u hj)⟩
theorem PartsV.snoc {W W1 : World} {b : Option Addr} {m cb g1 g off c : Nat} {vals : List Value} {ts : List (List Nd)} {t' : List Nd} (h : PartsV W b vals ts) (hgr : W.grownBy W1 (Value.slice b m cb).ownBlock) (hat : (Value.slice b m cb).ownBlock = some g1 ∨ g1 = W.heap.size)
    (hg : g < W.heap.size) (hne : ∀ p, b = some p → g ≠ p.block) (hc : ∀ (j : Nat) (u : Value), (dcs t')[j]? = some u → W.cell? ⟨g, off + j, none⟩ = some u) :
    PartsV W1 (some ⟨g1, 0, none⟩) (vals ++ [.slice (some ⟨g, off, none⟩) t'.length c]) (ts ++ [t']) := by
  have hkey : ∀ g', g' < W.heap.size → (∀ p, b = some p → g' ≠ p.block) → g' ≠ g1 ∧ ∀ o, W1.cell? ⟨g', o, none⟩ = W.cell? ⟨g', o, none⟩ := fun g' hlt hn => by
    refine ⟨?_, fun o => hgr.cell_far ⟨g', o, none⟩ hlt ?_⟩
    · rintro rfl
      rcases hat with e | e
      · cases b with
        | none => cases e
        | some p => exact hn p rfl (Option.some.inj e).symm
      · omega
    · cases b with
      | none => intro e; cases e
      | some p => intro e; exact hn p rfl (Option.some.inj e)
  refine ⟨by rw [List.length_append, List.length_append, h.1]; rfl, fun k s hk => ?_⟩
  rcases Nat.lt_or_ge k ts.length with hlt | hge
  · rw [List.getElem?_append_left hlt] at hk
    obtain ⟨g', off', c', h1, h2, h3, h4⟩ := h.2 k s hk
    obtain ⟨k1, k2⟩ := hkey g' h2 h3
    exact ⟨g', off', c', by rw [List.getElem?_append_left (by rw [h.1]; exact hlt)]; exact h1, Nat.lt_of_lt_of_le h2 hgr.size, fun p hp => by cases hp; exact k1, fun j u hj => (k2 _).trans (h4 j u hj)⟩
  · rw [List.getElem?_append_right hge] at hk
    have hk0 : k - ts.length = 0 := by
      have := (List.getElem?_eq_some_iff.1 hk).1
      simp at this; omega
    rw [hk0] at hk
    obtain rfl : t' = s := by simpa using hk
    obtain ⟨k1, k2⟩ := hkey g hg hne
    exact ⟨g, off, c, by rw [List.getElem?_append_right (by rw [h.1]; exact hge), h.1, hk0]; rfl, Nat.lt_of_lt_of_le hg hgr.size, fun p hp => by cases hp; exact k1, fun j u hj => (k2 _).trans (hc j u hj)⟩
theorem PartsV.rows {W : World} {b : Option Addr} {m cb B : Nat} {e : TypeId} {vals : List Value} {ts : List (List Nd)} (h : PartsV W b vals ts) (ho : W.ownsRow B e 1 (.slice b m cb) m vals) (hm : ts.length = m) : RowsAt W (.slice b m cb) ts := by
  refine ⟨b, cb, by rw [hm], ?_⟩
  rcases own_form ho with ⟨_, h0⟩ | ⟨g, c, hv, _, hg⟩
  · exact .inl (List.length_eq_zero_iff.1 (by omega))
  · cases hv
    refine .inr ⟨g, 0, rfl, hg, fun j s hj => ?_⟩
    obtain ⟨g', off, c', h1, h2, _, h4⟩ := h.2 j s hj
    exact ⟨_, by rw [Nat.zero_add]; exact own_cell ho h1, .inr ⟨g', off, c', rfl, h2, h4⟩⟩
end Go.Proofs.YtkngkajojcmmlaaDoor
