/- Parts of syntax in a list; what the calls of StxPuts return. -/
import Derived.Test.YtbmgpenllpbioaaGreatDoorYli
import Derived.Test.YtbmgpenllpbioaaGreatDoorYu
import Derived.Test.YtbmgpenllpbioaaGreatDoorYs
import Derived.Deep.AppendLies
namespace Go.Proofs.YtbmgpenllpbioaaGreatDoor
open Go.RowKit Go.PlainAid

theorem infoSlX : (Tryz.prog.info? 22).map (fun i => (i.zero, i.size, i.bytes)) = some (some (.slice none 0 0), 1, 24) := by kernel_rfl
/-- Parts, none of which lies in the block of their list. -/
def PartsX (W : World) (b : Option Addr) (vals : List Value) (ts : List (List Sx)) : Prop :=
  vals.length = ts.length ∧ ∀ (k : Nat) (t' : List Sx), ts[k]? = some t' → ∃ g off c, vals[k]? = some (.slice (some ⟨g, off, none⟩) t'.length c) ∧ t'.length ≤ c ∧ g < W.heap.size ∧ (∀ p, b = some p → g ≠ p.block) ∧ ∀ (j : Nat) (u : Value), (xcs t')[j]? = some u → W.cell? ⟨g, off + j, none⟩ = some u
theorem PartsX.below {W W' : World} {b : Option Addr} {vals : List Value} {ts : List (List Sx)} (h : PartsX W b vals ts) (hb : Below W.heap.size W W') : PartsX W' b vals ts := by
  refine ⟨h.1, fun k t' hk => ?_⟩
  obtain ⟨g, off, c, h1, h0, h2, h3, h4⟩ := h.2 k t' hk
  exact ⟨g, off, c, h1, h0, Nat.lt_of_lt_of_le h2 hb.size, h3, fun j u hj => (hb.cell (p := ⟨g, off + j, none⟩) h2).trans (h4 j u hj)⟩
theorem PartsX.snoc {W W1 : World} {b : Option Addr} {m cb g1 g off c : Nat} {vals : List Value} {ts : List (List Sx)} {t' : List Sx} (h : PartsX W b vals ts) (hgr : W.grownBy W1 (Value.slice b m cb).ownBlock) (hat : (Value.slice b m cb).ownBlock = some g1 ∨ g1 = W.heap.size)
    (hg : g < W.heap.size) (hne : ∀ p, b = some p → g ≠ p.block) (hcc : t'.length ≤ c) (hc : ∀ (j : Nat) (u : Value), (xcs t')[j]? = some u → W.cell? ⟨g, off + j, none⟩ = some u) :
    PartsX W1 (some ⟨g1, 0, none⟩) (vals ++ [.slice (some ⟨g, off, none⟩) t'.length c]) (ts ++ [t']) := by
  have hkey : ∀ g', g' < W.heap.size → (∀ p, b = some p → g' ≠ p.block) → g' ≠ g1 ∧ ∀ o, W1.cell? ⟨g', o, none⟩ = W.cell? ⟨g', o, none⟩ := fun g' hlt hn => by
    refine ⟨?_, fun o => hgr.cell_far ⟨g', o, none⟩ hlt ?_⟩
    · rintro rfl
      rcases hat with e | e
      · cases b with
        | none => cases e
        | some p => exact hn p rfl (Option.some.inj e).symm
      · omega
    · cases b with
      | none => intro e; cases e
      | some p => intro e; exact hn p rfl (Option.some.inj e)
  refine ⟨by rw [List.length_append, List.length_append, h.1]; rfl, fun k s hk => ?_⟩
  rcases Nat.lt_or_ge k ts.length with hlt | hge
  · rw [List.getElem?_append_left hlt] at hk
    obtain ⟨g', off', c', h1, h0, h2, h3, h4⟩ := h.2 k s hk
    obtain ⟨k1, k2⟩ := hkey g' h2 h3
    exact ⟨g', off', c', by rw [List.getElem?_append_left (by rw [h.1]; exact hlt)]; exact h1, h0, Nat.lt_of_lt_of_le h2 hgr.size, fun p hp => by cases hp; exact k1, fun j u hj => (k2 _).trans (h4 j u hj)⟩
  · rw [List.getElem?_append_right hge] at hk
    have hk0 : k - ts.length = 0 := by
      have := (List.getElem?_eq_some_iff.1 hk).1
      simp at this; omega
    rw [hk0] at hk
    obtain rfl : t' = s := by simpa using hk
    obtain ⟨k1, k2⟩ := hkey g hg hne
    exact ⟨g, off, c, by rw [List.getElem?_append_right (by rw [h.1]; exact hge), h.1, hk0]; rfl, hcc, Nat.lt_of_lt_of_le hg hgr.size, fun p hp => by cases hp; exact k1, fun j u hj => (k2 _).trans (hc j u hj)⟩
theorem PartsX.rows {W : World} {b : Option Addr} {m cb B : Nat} {e : TypeId} {vals : List Value} {ts : List (List Sx)} (h : PartsX W b vals ts) (ho : W.ownsRow B e 1 (.slice b m cb) m vals) (hm : ts.length = m) : LsAt W (.slice b m cb) ts := by
  refine ⟨b, m, cb, rfl, hm.symm, ?_⟩
  rcases own_formR ho with ⟨_, h0⟩ | ⟨g, c, hv, _, hg⟩
  · exact .inl (List.length_eq_zero_iff.1 (by omega))
  · cases hv
    refine .inr ⟨g, 0, rfl, hg, fun j s hj => ?_⟩
    obtain ⟨g', off, c', h1, h0, h2, _, h4⟩ := h.2 j s hj
    exact ⟨_, by rw [Nat.zero_add]; exact own_cell ho h1, _, _, _, rfl, rfl, h0, .inr ⟨g', off, rfl, h2, h4⟩⟩
/-- Sub of a node that there is. -/
theorem Sub_p {w : World} {v : Value} {l : List Sx} {p : Nat} (h : XsAt w v l) (hs : SmX l) (hi : InX l) (T : STabs w) (hc : (chkX l).2 = 0) (hp : p < l.length) :
    Calls Tryz.prog 19 #[v, .int .i64 (p : Int)] w fun e w' => ∃ g c, e = .returned (.tuple #[.slice (some ⟨g, 0, none⟩) (subX l p).length c, .int .i64 0]) ∧ Hid (w.heap.size ≤ g ∧ g < w'.heap.size ∧ XsAt w' (.slice (some ⟨g, 0, none⟩) (subX l p).length c) (subX l p)) ∧ Below w.heap.size w w' := by
  refine (Sub_any v l (p : Int) w h hs hi T).mono ?_
  intro e w' hv
  rw [subR_in hc hp] at hv
  obtain ⟨a, c, rfl, ho, hb⟩ := hv
  rcases own_formR ho.out with ⟨_, h0⟩ | ⟨g, c', e1, h1, h2⟩
  · exact absurd (List.length_eq_zero_iff.1 h0) (subX_ne hc hp)
  · cases e1
    exact ⟨g, c, rfl, Lib.hid ⟨h1, h2, xs_own ho.out rfl⟩, hb⟩
theorem Kids_p {w : World} {v : Value} {l : List Sx} {p : Nat} (h : XsAt w v l) (hs : SmX l) (hi : InX l) (T : STabs w) (hc : (chkX l).2 = 0) (hp : p < l.length) :
    Calls Tryz.prog 16 #[v, .int .i64 (p : Int)] w fun e w' => ∃ a c, e = .returned (.tuple #[.slice a (cnt (kidsX l) p) c, .int .i64 0]) ∧ Hid (∀ j, j < cnt (kidsX l) p → ∃ g o, a = some ⟨g, o, none⟩ ∧ g < w'.heap.size ∧ w'.cell? ⟨g, o + j, none⟩ = some (.int .i64 (posK (kidsX l) p j : Int))) ∧ Below w.heap.size w w' := by
  refine (Kids_any v l (p : Int) w h hs hi T).mono ?_
  intro e w' hv
  have hk : kidR l (p : Int) = (kidsN (kidsX l) p, 0) := by unfold kidR; rw [if_neg (by simpa using askX_in hc hp), Int.toNat_natCast]
  rw [hk] at hv
  obtain ⟨a, c, rfl, ho, hb⟩ := hv
  have hl := kidsN_len (kidsX l) p
  simp only at ho ⊢
  rw [hl] at ho
  refine ⟨a, c, by rw [hl], Lib.hid fun j hj => ?_, hb⟩
  rcases own_formR ho.out with ⟨_, h0⟩ | ⟨g, c', e1, h1, h2⟩
  · omega
  · cases e1
    exact ⟨g, 0, rfl, h2, by rw [Nat.zero_add]; exact own_cell ho.out (by unfold natC; rw [List.getElem?_map, kidsN_at hj]; rfl)⟩
theorem SmX.sub {l : List Sx} (h : SmX l) (i : Nat) : SmX (subX l i) := fun x hx => h x (List.mem_of_mem_drop (List.mem_of_mem_take hx))
theorem InX.sub {l : List Sx} (h : InX l) (i : Nat) : InX (subX l i) := fun x hx => h x (List.mem_of_mem_drop (List.mem_of_mem_take hx))
structure GivesPu (n m k K np : Nat) (av bv : Option Addr) (cv cs : Nat) (l s own P : List Sx) (ep : Int) (i : Nat) (x : Sx) (kid : Nat → Nat) (part : Nat → List Sx) (w : World) : Prop where
  cl : ∀ W, Below w.heap.size w W → Calls Tryz.prog 12 #[.slice av n cv] W fun e w' => e = .returned (.tuple #[.int .i64 0, .int .i64 0]) ∧ Below W.heap.size W w'
  c2 : ∀ W, Below w.heap.size w W → Calls Tryz.prog 12 #[.slice bv m cs] W fun e w' => e = .returned (.tuple #[.int .i64 0, .int .i64 0]) ∧ Below W.heap.size W w'
  sub : ∀ W, Below w.heap.size w W → Calls Tryz.prog 19 #[.slice av n cv, .int .i64 (i : Int)] W (ChgR own k 0 W)
  po : ∀ W vo, Below w.heap.size w W → XsAt W vo own → Calls Tryz.prog 21 #[.slice av n cv, .int .i64 (i : Int), vo] W (ChgR l n 0 W)
  ps : ∀ W, Below w.heap.size w W → Calls Tryz.prog 21 #[.slice av n cv, .int .i64 (i : Int), .slice bv m cs] W (ChgR P np ep W)
  sp : ep = 0 → ∀ W vp, Below w.heap.size w W → XsAt W vp P → Calls Tryz.prog 19 #[vp, .int .i64 (i : Int)] W (ChgR s m 0 W)
  pb : ep = 0 → ∀ W vp vo, Below w.heap.size w W → XsAt W vp P → XsAt W vo own → Calls Tryz.prog 21 #[vp, .int .i64 (i : Int), vo] W (ChgR l n 0 W)
  kd : ∀ W, Below w.heap.size w W → Calls Tryz.prog 16 #[.slice av n cv, .int .i64 (i : Int)] W fun e w' => ∃ a c, e = .returned (.tuple #[.slice a K c, .int .i64 0]) ∧ Hid (∀ j, j < K → ∃ g o, a = some ⟨g, o, none⟩ ∧ g < w'.heap.size ∧ w'.cell? ⟨g, o + j, none⟩ = some (.int .i64 (kid j : Int))) ∧ Below W.heap.size W w'
  sk : ∀ W j, Below w.heap.size w W → j < K → Calls Tryz.prog 19 #[.slice av n cv, .int .i64 (kid j : Int)] W fun e w' => ∃ g c, e = .returned (.tuple #[.slice (some ⟨g, 0, none⟩) (part j).length c, .int .i64 0]) ∧ Hid (W.heap.size ≤ g ∧ g < w'.heap.size ∧ XsAt w' (.slice (some ⟨g, 0, none⟩) (part j).length c) (part j)) ∧ Below W.heap.size W w'
  li : x.k = 4 → ∀ W vv, Below w.heap.size w W → LsAt W vv ((List.range K).map part) → Calls Tryz.prog 24 #[vv, .agg #[.int .i64 x.k, .int .i64 x.c, .int .i64 x.n, .string (str x.s), .string (str x.p), .int .i64 x.f, .int .i64 x.t, .int .i64 x.o]] W (ChgR own k 0 W)
  kn : K ≤ 2010 ∧ n ≤ 2010 ∧ m ≤ 2010 ∧ k ≤ 2010
theorem chk_ok2 {v : Value} {l : List Sx} {w : World} (h : XsAt w v l) (hs : SmX l) (hi : InX l) (T : STabs w) (hc : (chkX l).2 = 0) : Calls Tryz.prog 12 #[v] w fun e w' => e = .returned (.tuple #[.int .i64 0, .int .i64 0]) ∧ Below w.heap.size w w' := by
  have := Check_x v l w h hs hi T
  unfold chkXV at this
  rw [(chkX_ok hc).1] at this; exact this
set_option maxRecDepth 50000 in
theorem givesPu {n m : Nat} {av bv : Option Addr} {cv cs : Nat} {l s : List Sx} {i : Nat} {x : Sx} {w : World} (h : XsAt w (.slice av n cv) l) (h2 : XsAt w (.slice bv m cs) s) (hs : SmX l) (hi : InX l) (hs2 : SmX s) (hi2 : InX s) (T : STabs w) (hc : (chkX l).2 = 0) (hcs : (chkX s).2 = 0) (hx : l[i]? = some x) (hn : l.length = n) (hm : s.length = m) :
    GivesPu n m (subX l i).length (cnt (kidsX l) i) (putX l (i : Int) s).1.length av bv cv cs l s (subX l i) (putX l (i : Int) s).1 (putX l (i : Int) s).2 i x (posK (kidsX l) i) (fun j => subX l (posK (kidsX l) i j)) w := by
  have hil := (List.getElem?_eq_some_iff.1 hx).1
  have hT := chkX_tr hc
  have hilk : i < (kidsX l).length := by rw [kidsX_len]; exact hil
  have hl2 := (chkX_tree hc).2.2
  have hs22 := (chkX_tree hcs).2.2
  have hoc := chkX_sub hc hil
  have hol := (chkX_tree hoc).2.2
  have hK : cnt (kidsX l) i ≤ 2000 := by
    have := hT.pos_mono hilk (d := cnt (kidsX l) i) (k := 0) (by omega)
    rw [Nat.zero_add, hT.pos_end hilk] at this
    have := (endX hc hil).2
    omega
  have hxm := List.mem_of_getElem? hx
  refine ⟨?_, ?_, ?_, ?_, ?_, ?_, ?_, ?_, ?_, ?_, ?_⟩
  · exact fun W hW => chk_ok2 (h.below hW (Nat.le_refl _)) hs hi (T.below hW) hc
  · exact fun W hW => chk_ok2 (h2.below hW (Nat.le_refl _)) hs2 hi2 (T.below hW) hcs
  · exact fun W hW => (Sub_any _ l (i : Int) W (h.below hW (Nat.le_refl _)) hs hi (T.below hW)).mono fun e W' hv => chgR_of (subR_in hc hil) rfl hv
  · exact fun W vo hW ho => (Put_any _ vo l (subX l i) (i : Int) W (h.below hW (Nat.le_refl _)) ho hs hi (hs.sub i) (hi.sub i) (T.below hW) (by omega)).mono fun e W' hv => chgR_of (putX_own hc hil) hn hv
  · exact fun W hW => (Put_any _ _ l s (i : Int) W (h.below hW (Nat.le_refl _)) (h2.below hW (Nat.le_refl _)) hs hi hs2 hi2 (T.below hW) (by omega)).mono fun e W' hv => chgR_of rfl rfl hv
  · intro hep W vp hW hp
    obtain ⟨e1, e2⟩ := putX_ok hep
    rw [e1] at hp
    have hlt : i < (putL l i s).length := by
      rcases putX_len (s := s) hil with h1 | h1
      · exact h1
      · rw [h1] at hcs; cases hcs
    exact (Sub_any vp (putL l i s) (i : Int) W hp (put_small hs hs2) (put_int hi hi2) (T.below hW)).mono fun e W' hv => chgR_of (by rw [subR_in e2 hlt, putL_sub hc hcs hil]) hm hv
  · intro hep W vp vo hW hp ho
    obtain ⟨e1, e2⟩ := putX_ok hep
    rw [e1] at hp
    exact (Put_any vp vo (putL l i s) (subX l i) (i : Int) W hp ho (put_small hs hs2) (put_int hi hi2) (hs.sub i) (hi.sub i) (T.below hW) (by omega)).mono fun e W' hv => chgR_of (putX_back hc hcs hil e2) hn hv
  · exact fun W hW => Kids_p (h.below hW (Nat.le_refl _)) hs hi (T.below hW) hc hil
  · exact fun W j hW hj => Sub_p (h.below hW (Nat.le_refl _)) hs hi (T.below hW) hc (kidsN_in hc hil hj)
  · intro h4 W vv hW hl'
    refine (Listx_any vv _ x W hl' ?_ (hs x hxm).2 (T.below hW) (by rw [List.length_map, List.length_range]; omega)).mono fun e W' hv => chgR_of (list_own hc hx h4) rfl hv
    intro t ht
    obtain ⟨j, hj, rfl⟩ := List.mem_map.1 ht
    exact ⟨hs.sub _, hi.sub _⟩
  · omega
end Go.Proofs.YtbmgpenllpbioaaGreatDoor
