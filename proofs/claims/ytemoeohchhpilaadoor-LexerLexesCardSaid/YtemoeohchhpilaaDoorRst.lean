/- The greatest start that is not above an index: plain mathematics. -/
import Derived.Test.YtemoeohchhpilaaDoorRref4
namespace Go.Proofs.YtemoeohchhpilaaDoor

def lastLe (m : Nat) : Nat → List Nat → Nat
  | o, [] => o
  | o, s :: t => lastLe m (if s ≤ m then s else o) t
theorem lastLe_app (m : Nat) : ∀ (a b : List Nat) (o : Nat), lastLe m o (a ++ b) = lastLe m (lastLe m o a) b := by
  intro a
  induction a with
  | nil => intro b o; rfl
  | cons s a ih => intro b o; rw [List.cons_append, lastLe, lastLe, ih]
theorem lastLe_big (m : Nat) : ∀ (l : List Nat) (o : Nat), (∀ s ∈ l, m < s) → lastLe m o l = o := by
  intro l
  induction l with
  | nil => intro o _; rfl
  | cons s l ih =>
    intro o h
    have := h s (List.mem_cons_self ..)
    rw [lastLe, if_neg (by omega)]
    exact ih o fun x hx => h x (List.mem_cons_of_mem _ hx)
theorem lastLe_shift (w j : Nat) : ∀ (l : List Nat) (o : Nat), lastLe (w + j) (w + o) (l.map (w + ·)) = w + lastLe j o l := by
  intro l
  induction l with
  | nil => intro o; rfl
  | cons s l ih =>
    intro o
    rw [List.map_cons, lastLe, lastLe]
    by_cases h : s ≤ j
    · rw [if_pos h, if_pos (by omega)]; exact ih s
    · rw [if_neg h, if_neg (by omega)]; exact ih o
theorem lastLe_le (m : Nat) : ∀ (l : List Nat) (o : Nat), o ≤ m → lastLe m o l ≤ m := by
  intro l
  induction l with
  | nil => intro o h; exact h
  | cons s l ih =>
    intro o h
    rw [lastLe]
    split
    · exact ih s (by assumption)
    · exact ih o h
theorem begs_shift : ∀ (rs : List Int) (w k : Nat), begs (w + k) rs = (begs k rs).map (w + ·) := by
  intro rs
  induction rs with
  | nil => intro w k; rfl
  | cons r rs ih => intro w k; rw [begs, begs, List.map_cons, Nat.add_assoc, ih]
theorem enc_later {r : Int} (hr : isR r = true) {i : Nat} (h1 : 1 ≤ i) (h2 : i < wO r) : ∃ c, (enc r)[i]? = some c ∧ latB (ub c) = true := by
  have hb := isR_iff.1 hr
  have lat : ∀ n : Int, 128 ≤ n → n < 192 → latB (ub (u8 n)) = true := fun n a b => by
    rw [ub_u8 (by omega)]; unfold latB; exact decide_eq_true ⟨a, b⟩
  rcases isR_forms hr with ⟨a, b⟩ | ⟨a, b⟩ | ⟨a, b⟩ | ⟨a, b⟩
  · rw [wO_1 a b] at h2; omega
  · rw [wO_2 a b] at h2
    obtain rfl : i = 1 := by omega
    rw [enc_2 a b]; exact ⟨_, rfl, lat _ (by omega) (by omega)⟩
  · rw [wO_3 hr a b] at h2
    rw [enc_3 hr a b]
    have : i = 1 ∨ i = 2 := by omega
    rcases this with rfl | rfl
    · exact ⟨_, rfl, lat _ (by omega) (by omega)⟩
    · exact ⟨_, rfl, lat _ (by omega) (by omega)⟩
  · rw [wO_4 a b] at h2
    rw [enc_4 a b]
    have : i = 1 ∨ i = 2 ∨ i = 3 := by omega
    rcases this with rfl | rfl | rfl
    · exact ⟨_, rfl, lat _ (by omega) (by omega)⟩
    · exact ⟨_, rfl, lat _ (by omega) (by omega)⟩
    · exact ⟨_, rfl, lat _ (by omega) (by omega)⟩
theorem bk_none {l : List UInt8} {k : Nat} (h : l[k + 1]? = none) : bkGo l (k + 1) = k + 1 := by rw [bkGo, h]; rfl
theorem bk_lat {l : List UInt8} {k : Nat} {c : UInt8} (h : l[k + 1]? = some c) (hc : latB (ub c) = true) : bkGo l (k + 1) = bkGo l k := by rw [bkGo, h]; simp only [hc]; rfl
theorem bk_not {l : List UInt8} {k : Nat} {c : UInt8} (h : l[k + 1]? = some c) (hc : latB (ub c) = false) : bkGo l (k + 1) = k + 1 := by rw [bkGo, h]; simp only [hc]; rfl
theorem bkGo_in {r : Int} (hr : isR r = true) (l : List UInt8) : ∀ m, m < wO r → bkGo (enc r ++ l) m = 0 := by
  intro m
  induction m with
  | zero => intro _; rfl
  | succ m ih =>
    intro h
    obtain ⟨c, h1, h2⟩ := enc_later hr (i := m + 1) (by omega) h
    have e : (enc r ++ l)[m + 1]? = some c := by rw [List.getElem?_append_left (by rw [enc_len]; exact h)]; exact h1
    rw [bk_lat e h2]
    exact ih (by omega)
theorem bkGo_shift (a l : List UInt8) (ha : 1 ≤ a.length) (hl : ∀ c, l[0]? = some c → latB (ub c) = false) : ∀ j, bkGo (a ++ l) (a.length + j) = a.length + bkGo l j := by
  intro j
  induction j with
  | zero =>
    obtain ⟨n, hn⟩ : ∃ n, a.length = n + 1 := ⟨a.length - 1, by omega⟩
    have e : (a ++ l)[a.length]? = l[0]? := by rw [List.getElem?_append_right (Nat.le_refl _), Nat.sub_self]
    have e' : (a ++ l)[n + 1]? = l[0]? := by rw [← hn]; exact e
    show bkGo (a ++ l) (a.length + 0) = a.length + 0
    rw [Nat.add_zero, hn]
    cases h : l[0]? with
    | none => exact bk_none (e'.trans h)
    | some c => exact bk_not (e'.trans h) (hl c h)
  | succ j ih =>
    have e : (a ++ l)[a.length + j + 1]? = l[j + 1]? := by rw [List.getElem?_append_right (by omega)]; congr 1; omega
    rw [← Nat.add_assoc]
    cases h : l[j + 1]? with
    | none => rw [bk_none (e.trans h), bk_none h]; omega
    | some c =>
      cases hc : latB (ub c)
      · rw [bk_not (e.trans h) hc, bk_not h hc]; omega
      · rw [bk_lat (e.trans h) hc, bk_lat h hc, ih]
theorem bk_last : ∀ (rs : List Int), (∀ r ∈ rs, isR r = true) → ∀ m, m ≤ wid rs → bkGo (encs rs) m = lastLe m 0 (begs 0 rs ++ [wid rs]) := by
  intro rs
  induction rs with
  | nil =>
    intro _ m hm
    obtain rfl : m = 0 := by rw [wid_nil] at hm; omega
    rfl
  | cons r rs ih =>
    intro h m hm
    have hr := h r (List.mem_cons_self ..)
    have hrs : ∀ x ∈ rs, isR x = true := fun x hx => h x (List.mem_cons_of_mem _ hx)
    have hp := wO_pos hr
    have e : begs 0 (r :: rs) ++ [wid (r :: rs)] = 0 :: ((begs 0 rs ++ [wid rs]).map (wO r + ·)) := by
      rw [begs, wid_cons, List.map_append, Nat.zero_add, ← Nat.add_zero (wO r), begs_shift, Nat.add_zero]; rfl
    rw [encs_cons, e, lastLe, if_pos (Nat.zero_le _)]
    by_cases hlt : m < wO r
    · rw [bkGo_in hr _ m hlt, lastLe_big]
      intro s hs
      obtain ⟨x, _, rfl⟩ := List.mem_map.1 hs
      omega
    · obtain ⟨j, rfl⟩ : ∃ j, m = wO r + j := ⟨m - wO r, by omega⟩
      rw [wid_cons] at hm
      have hf : ∀ c, (encs rs)[0]? = some c → latB (ub c) = false := fun c hc => first_no (by rw [runs_of_encs hrs]) hc
      have hs := bkGo_shift (enc r) (encs rs) (by rw [enc_len]; exact hp) hf j
      rw [enc_len] at hs
      rw [hs, ih hrs j (by omega)]
      -- the first start of the rest is its beginning
      have hz : lastLe (wO r + j) 0 ((begs 0 rs ++ [wid rs]).map (wO r + ·)) = lastLe (wO r + j) (wO r + 0) ((begs 0 rs ++ [wid rs]).map (wO r + ·)) := by
        cases rs with
        | nil => simp [begs, wid_nil, lastLe]
        | cons r' rs' => rw [begs, List.cons_append, List.map_cons, lastLe, lastLe, if_pos (by omega), if_pos (by omega)]
      rw [hz, lastLe_shift]
/-- Back is the greatest start that is not above the index. -/
theorem back_last {l : List UInt8} (h : (runs l).2 = 0) {m : Nat} (hm : m ≤ l.length) : bkGo l m = lastLe m 0 (stS l) := by
  have hw := runs_whole h
  have hl : l.length = wid (runs l).1 := by
    have := congrArg List.length hw
    rw [encs_len] at this; exact this
  have := bk_last (runs l).1 (runs_all l) m (by omega)
  rw [← hw, ← hl] at this
  exact this
end Go.Proofs.YtemoeohchhpilaaDoor
