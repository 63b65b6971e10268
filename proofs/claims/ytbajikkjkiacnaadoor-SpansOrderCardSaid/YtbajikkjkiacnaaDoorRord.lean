/- The order of runes and of their bytes; where a text can be cut. Plain mathematics. -/
import Derived.Test.YtbajikkjkiacnaaDoorRlawB
namespace Go.Proofs.YtbajikkjkiacnaaDoor

theorem bl_step {a b : UInt8} {x y : List UInt8} : Op.bytesLess (a :: x) (b :: y) = (decide (ub a < ub b) || (decide (ub a = ub b) && Op.bytesLess x y)) := by
  rw [Op.bytesLess]
  have h1 : decide (a < b) = decide (ub a < ub b) := by
    rw [decide_eq_decide, UInt8.lt_iff_toNat_lt]; unfold ub; omega
  have h2 : (a == b) = decide (ub a = ub b) := by
    rw [Bool.eq_iff_iff, beq_iff_eq, decide_eq_true_iff]
    exact ⟨fun h => by rw [h], ub_inj⟩
  rw [h1, h2]
theorem bl_nn : Op.bytesLess [] [] = false := rfl
theorem bl_nc {a : UInt8} {x : List UInt8} : Op.bytesLess [] (a :: x) = true := rfl
theorem bl_cn {a : UInt8} {x : List UInt8} : Op.bytesLess (a :: x) [] = false := rfl
theorem enc_shape {r : Int} (hr : isR r = true) :
    (∃ a, enc r = [a] ∧ ub a = r ∧ 0 ≤ r ∧ r < 128) ∨ (∃ a b, enc r = [a, b] ∧ ub a = 192 + r / 64 ∧ ub b = 128 + r % 64 ∧ 128 ≤ r ∧ r < 2048) ∨
    (∃ a b c, enc r = [a, b, c] ∧ ub a = 224 + r / 4096 ∧ ub b = 128 + r / 64 % 64 ∧ ub c = 128 + r % 64 ∧ 2048 ≤ r ∧ r < 65536) ∨
    (∃ a b c d, enc r = [a, b, c, d] ∧ ub a = 240 + r / 262144 ∧ ub b = 128 + r / 4096 % 64 ∧ ub c = 128 + r / 64 % 64 ∧ ub d = 128 + r % 64 ∧ 65536 ≤ r ∧ r ≤ 1114111) := by
  rcases isR_forms hr with ⟨a, b⟩ | ⟨a, b⟩ | ⟨a, b⟩ | ⟨a, b⟩
  · exact .inl ⟨_, enc_1 a b, ub_u8 (by omega), a, b⟩
  · exact .inr (.inl ⟨_, _, enc_2 a b, ub_u8 (by omega), ub_u8 (by omega), a, b⟩)
  · exact .inr (.inr (.inl ⟨_, _, _, enc_3 hr a b, ub_u8 (by omega), ub_u8 (by omega), ub_u8 (by omega), a, b⟩))
  · exact .inr (.inr (.inr ⟨_, _, _, _, enc_4 a b, ub_u8 (by omega), ub_u8 (by omega), ub_u8 (by omega), ub_u8 (by omega), a, b⟩))
/-- The bytes of runes are ordered as the runes. -/
theorem lt_enc {r s : Int} (hr : isR r = true) (hs : isR s = true) : Op.bytesLess (enc r) (enc s) = decide (r < s) := by
  rcases enc_shape hr with ⟨a, e, h1, h2, h3⟩ | ⟨a, b, e, h1, h2, h3, h4⟩ | ⟨a, b, c, e, h1, h2, h3, h4, h5⟩ | ⟨a, b, c, d, e, h1, h2, h3, h4, h5, h6⟩ <;>
    rcases enc_shape hs with ⟨a', e', i1, i2, i3⟩ | ⟨a', b', e', i1, i2, i3, i4⟩ | ⟨a', b', c', e', i1, i2, i3, i4, i5⟩ | ⟨a', b', c', d', e', i1, i2, i3, i4, i5, i6⟩ <;>
    (rw [e, e', Bool.eq_iff_iff]; simp only [bl_step, bl_nn, bl_nc, bl_cn, Bool.or_eq_true, Bool.and_eq_true, decide_eq_true_iff, Bool.and_true, Bool.and_false, Bool.or_false]; omega)
theorem eq_enc {r s : Int} (hr : isR r = true) (hs : isR s = true) : (enc r == enc s) = decide (r = s) := by
  rw [Bool.eq_iff_iff, beq_iff_eq, decide_eq_true_iff]
  refine ⟨fun h => enc_inj hr hs (t := []) (u := []) (by rw [h]), fun h => by rw [h]⟩

theorem place : ∀ (rs : List Int) (i : Nat), i ≤ wid rs → (∃ a b, rs = a ++ b ∧ wid a = i) ∨ ∃ a r b, rs = a ++ r :: b ∧ wid a < i ∧ i < wid a + wO r := by
  intro rs
  induction rs with
  | nil => intro i h; exact .inl ⟨[], [], rfl, by rw [wid_nil] at h ⊢; omega⟩
  | cons r rs ih =>
    intro i h
    rw [wid_cons] at h
    by_cases h0 : i = 0
    · exact .inl ⟨[], r :: rs, rfl, by rw [wid_nil, h0]⟩
    · by_cases h1 : i < wO r
      · exact .inr ⟨[], r, rs, rfl, by rw [wid_nil]; omega, by rw [wid_nil]; omega⟩
      · rcases ih (i - wO r) (by omega) with ⟨a, b, e, he⟩ | ⟨a, x, b, e, h2, h3⟩
        · exact .inl ⟨r :: a, b, by rw [e]; rfl, by rw [wid_cons]; omega⟩
        · exact .inr ⟨r :: a, x, b, by rw [e]; rfl, by rw [wid_cons]; omega, by rw [wid_cons]; omega⟩
theorem bk_on (a b : List Int) (h : ∀ r ∈ a ++ b, isR r = true) : bkGo (encs (a ++ b)) (wid a) = wid a := by
  by_cases h0 : wid a = 0
  · rw [h0]; rfl
  · have hb : ∀ x ∈ b, isR x = true := fun x hx => h x (List.mem_append_right _ hx)
    have hf : ∀ c, (encs b)[0]? = some c → latB (ub c) = false := fun c hc => first_no (by rw [runs_of_encs hb]) hc
    have := bkGo_shift (encs a) (encs b) (by rw [encs_len]; omega) hf 0
    rw [encs_len, ← encs_app] at this
    exact this
theorem bk_in (a b : List Int) (r : Int) (j : Nat) (h : ∀ x ∈ a ++ r :: b, isR x = true) (hj : j < wO r) : bkGo (encs (a ++ r :: b)) (wid a + j) = wid a := by
  have hr : isR r = true := h r (by simp)
  have hi := bkGo_in hr (encs b) j hj
  by_cases h0 : a = []
  · subst h0; rw [wid_nil, Nat.zero_add, List.nil_append, encs_cons]; exact hi
  · have hb : ∀ x ∈ r :: b, isR x = true := fun x hx => h x (List.mem_append_right _ hx)
    have hf : ∀ c, (encs (r :: b))[0]? = some c → latB (ub c) = false := fun c hc => first_no (by rw [runs_of_encs hb]) hc
    have hp : 1 ≤ wid a := by
      cases a with
      | nil => exact absurd rfl h0
      | cons x a => rw [wid_cons]; have := wO_pos (h x (by simp)); omega
    have := bkGo_shift (encs a) (encs (r :: b)) (by rw [encs_len]; exact hp) hf j
    rw [encs_len, ← encs_app, encs_cons r b, hi] at this
    exact this
theorem st_sorted : ∀ (rs : List Int) (k : Nat), (∀ r ∈ rs, isR r = true) → (begs k rs ++ [k + wid rs]).Pairwise (· < ·) ∧ ∀ s ∈ begs k rs ++ [k + wid rs], k ≤ s := by
  intro rs
  induction rs with
  | nil => intro k _; simp [begs, wid_nil]
  | cons r rs ih =>
    intro k h
    have hp := wO_pos (h r (List.mem_cons_self ..))
    obtain ⟨i1, i2⟩ := ih (k + wO r) fun x hx => h x (List.mem_cons_of_mem _ hx)
    rw [begs, wid_cons, List.cons_append, ← Nat.add_assoc]
    refine ⟨List.pairwise_cons.2 ⟨fun s hs => ?_, i1⟩, fun s hs => ?_⟩
    · have := i2 s hs; omega
    · rcases List.mem_cons.1 hs with rfl | hs
      · exact Nat.le_refl _
      · have := i2 s hs; omega
theorem st_mem : ∀ (rs : List Int) (k i : Nat), (∀ r ∈ rs, isR r = true) → (k + i ∈ begs k rs ++ [k + wid rs] ↔ ∃ a b, rs = a ++ b ∧ wid a = i) := by
  intro rs
  induction rs with
  | nil =>
    intro k i _
    constructor
    · intro h; exact ⟨[], [], rfl, by simp [begs, wid_nil] at h; rw [wid_nil]; omega⟩
    · rintro ⟨a, b, e, rfl⟩
      obtain ⟨rfl, rfl⟩ : a = [] ∧ b = [] := by simpa using e.symm
      simp [begs]
  | cons r rs ih =>
    intro k i h
    have hrs : ∀ x ∈ rs, isR x = true := fun x hx => h x (List.mem_cons_of_mem _ hx)
    have hlow := (st_sorted rs (k + wO r) hrs).2
    rw [begs, wid_cons, List.cons_append, ← Nat.add_assoc, List.mem_cons]
    constructor
    · rintro (h1 | h1)
      · exact ⟨[], r :: rs, rfl, by rw [wid_nil]; omega⟩
      · have := hlow _ h1
        obtain ⟨j, rfl⟩ : ∃ j, i = wO r + j := ⟨i - wO r, by omega⟩
        rw [← Nat.add_assoc] at h1
        obtain ⟨a, b, e, he⟩ := (ih (k + wO r) j hrs).1 h1
        exact ⟨r :: a, b, by rw [e]; rfl, by rw [wid_cons, he]⟩
    · rintro ⟨a, b, e, rfl⟩
      cases a with
      | nil => exact .inl (by rw [wid_nil]; omega)
      | cons x a =>
        rw [List.cons_append] at e
        obtain ⟨rfl, e2⟩ := List.cons.inj e
        rw [wid_cons, ← Nat.add_assoc]
        exact .inr ((ih (k + wO r) (wid a) hrs).2 ⟨a, b, e2, rfl⟩)
/-- What the loop needs of a place. -/
theorem cut_at {l : List UInt8} (h : (runs l).2 = 0) (hl : l.length ≤ 8000) {i : Nat} (hi : i ≤ l.length) :
    ∃ k, bkGo l i = k ∧ k ≤ i ∧ i ≤ k + 3 ∧ (i ∈ stS l ↔ k = i) ∧ (((chkS (l.take i)).2 = 0 ∧ (chkS (l.drop i)).2 = 0) ↔ k = i) := by
  obtain ⟨rs, hrs⟩ : ∃ rs, (runs l).1 = rs := ⟨_, rfl⟩
  have hall : ∀ r ∈ rs, isR r = true := by rw [← hrs]; exact runs_all l
  have hw : l = encs rs := by rw [← hrs]; exact runs_whole h
  have hlen : l.length = wid rs := by rw [hw, encs_len]
  have hst : stS l = begs 0 rs ++ [0 + wid rs] := by unfold stS; rw [hrs, hlen, Nat.zero_add]
  have hmem := st_mem rs 0 i hall
  rw [← hst, Nat.zero_add] at hmem
  have hon : (∃ a b, rs = a ++ b ∧ wid a = i) → bkGo l i = i := by
    rintro ⟨a, b, rfl, rfl⟩; rw [hw]; exact bk_on a b hall
  have hchk : ((chkS (l.take i)).2 = 0 ∧ (chkS (l.drop i)).2 = 0) ↔ ∃ a b, rs = a ++ b ∧ wid a = i := by
    have t1 : (chkS (l.take i)).2 = (runs (l.take i)).2 := by unfold chkS; rw [if_neg (by rw [List.length_take]; omega)]
    have t2 : (chkS (l.drop i)).2 = (runs (l.drop i)).2 := by unfold chkS; rw [if_neg (by rw [List.length_drop]; omega)]
    rw [t1, t2]
    constructor
    · rintro ⟨h1, h2⟩
      have w1 := runs_whole h1
      have w2 := runs_whole h2
      have e : l = encs ((runs (l.take i)).1 ++ (runs (l.drop i)).1) := by
        rw [encs_app, ← w1, ← w2, List.take_append_drop]
      refine ⟨(runs (l.take i)).1, (runs (l.drop i)).1, ?_, ?_⟩
      · rw [← hrs]
        have e2 := congrArg (fun z => (runs z).1) e
        rw [runs_of_encs (fun x hx => by
          rcases List.mem_append.1 hx with hx | hx
          · exact runs_all _ x hx
          · exact runs_all _ x hx)] at e2
        exact e2
      · have := congrArg List.length w1
        rw [encs_len, List.length_take] at this; omega
    · rintro ⟨a, b, e, rfl⟩
      have ha : ∀ x ∈ a, isR x = true := fun x hx => hall x (by rw [e]; exact List.mem_append_left _ hx)
      have hb : ∀ x ∈ b, isR x = true := fun x hx => hall x (by rw [e]; exact List.mem_append_right _ hx)
      have e2 : l = encs a ++ encs b := by rw [hw, e, encs_app]
      rw [e2, ← encs_len a, List.take_left', List.drop_left', runs_of_encs ha, runs_of_encs hb]
      · exact ⟨rfl, rfl⟩
      · rfl
      · rfl
  rcases place rs i (by omega) with hp | ⟨a, r, b, e, h1, h2⟩
  · exact ⟨i, hon hp, Nat.le_refl _, by omega, ⟨fun _ => rfl, fun _ => hmem.2 hp⟩, ⟨fun _ => rfl, fun _ => hchk.2 hp⟩⟩
  · have hk : bkGo l i = wid a := by
      have := bk_in a b r (i - wid a) (by rw [← e]; exact hall) (by omega)
      rw [← e, ← hw, show wid a + (i - wid a) = i by omega] at this
      exact this
    have hne : ¬ ∃ a b, rs = a ++ b ∧ wid a = i := fun hp => by have := hon hp; omega
    have h4 := wO_le r
    exact ⟨wid a, hk, by omega, by omega, ⟨fun hm => absurd (hmem.1 hm) hne, fun h => by omega⟩, ⟨fun hm => absurd (hchk.1 hm) hne, fun h => by omega⟩⟩
/-- How far the starts have been met. -/
def Met (S : List Nat) (i at_ : Nat) : Prop := at_ ≤ S.length ∧ ∀ n s, S[n]? = some s → (n < at_ ↔ s < i)
theorem Met.zero (S : List Nat) : Met S 0 0 := ⟨Nat.zero_le _, fun n s _ => by omega⟩
theorem pair_lt {S : List Nat} (hp : S.Pairwise (· < ·)) {n m s t : Nat} (hn : S[n]? = some s) (hm : S[m]? = some t) (h : n < m) : s < t := by
  rw [List.pairwise_iff_getElem] at hp
  obtain ⟨h1, rfl⟩ := List.getElem?_eq_some_iff.1 hn
  obtain ⟨h2, rfl⟩ := List.getElem?_eq_some_iff.1 hm
  exact hp n m h1 h2 h
theorem Met.yes {S : List Nat} {i a : Nat} (h : Met S i a) (hp : S.Pairwise (· < ·)) (hi : i ∈ S) : S[a]? = some i ∧ Met S (i + 1) (a + 1) := by
  obtain ⟨m, hm, rfl⟩ := List.getElem_of_mem hi
  have hmm : S[m]? = some S[m] := List.getElem?_eq_getElem hm
  have h1 := h.2 m _ hmm
  have hma : a ≤ m := by omega
  have he : a = m := by
    by_cases hlt : a < m
    · have ha : a < S.length := by omega
      have h2 := h.2 a _ (List.getElem?_eq_getElem ha)
      have := pair_lt hp (List.getElem?_eq_getElem ha) hmm hlt
      omega
    · omega
  subst he
  refine ⟨hmm, hm, fun n s hs => ?_⟩
  by_cases h3 : n < a
  · have := (h.2 n s hs).1 h3; omega
  · by_cases h4 : n = a
    · subst h4; rw [hmm] at hs; have := Option.some.inj hs; omega
    · have := pair_lt hp hmm hs (by omega); omega
theorem Met.no {S : List Nat} {i a : Nat} (h : Met S i a) (hi : i ∉ S) : Met S (i + 1) a := by
  refine ⟨h.1, fun n s hs => ?_⟩
  have := h.2 n s hs
  have hne : s ≠ i := fun e => hi (by rw [← e]; exact List.mem_of_getElem? hs)
  omega
theorem Met.all {S : List Nat} {i a : Nat} (h : Met S i a) (hi : ∀ s ∈ S, s < i) : a = S.length := by
  have h1 := h.1
  by_cases hlt : a < S.length
  · have := (h.2 a _ (List.getElem?_eq_getElem hlt)).2 (hi _ (List.getElem_mem hlt)); omega
  · omega
end Go.Proofs.YtbajikkjkiacnaaDoor
