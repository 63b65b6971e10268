/- Plain mathematics: how a quoted form is read: which byte stands at the beginning of some bytes, and what a whole quoted form stands for. -/
import Derived.Test.YtnajkkbcfebegaaGreatDoorQuote2
import Derived.Lib.Bytealg
namespace Go.Proofs.YtnajkkbcfebegaaGreatDoor
open Go.RowKit Go.PlainAid

/-- The value of a digit of base 16, or -1. -/
def hv (c : UInt8) : Int := Lib.indexByte hexS.data.toList c
theorem hv_fin : ∀ n : Fin 256, hv (UInt8.ofNat n.val) = -1 ∨ (0 ≤ hv (UInt8.ofNat n.val) ∧ hv (UInt8.ofNat n.val) < 16) := by decide +kernel
theorem hv_range (c : UInt8) : hv c = -1 ∨ (0 ≤ hv c ∧ hv c < 16) := by
  have := hv_fin ⟨c.toNat, c.toNat_lt⟩; simpa using this
theorem hv_hexD_fin : ∀ n : Fin 16, hv (hexD n.val) = n.val := by decide +kernel
theorem hv_hexD (n : Nat) (h : n < 16) : hv (hexD n) = n := hv_hexD_fin ⟨n, h⟩

/-- The byte of two digits of base 16. -/
def hexC (h lo : UInt8) : UInt8 := UInt8.ofNat ((16 : Int) * hv h + hv lo).toNat
def rdHex (r : List UInt8) : Option (UInt8 × Nat) :=
  match r with
  | h :: lo :: _ => if hv h < 0 ∨ hv lo < 0 then none else if esc (hexC h lo) = [92, 120, h, lo] then some (hexC h lo, 4) else none
  | _ => none
def rdEsc (b : UInt8) (r : List UInt8) : Option (UInt8 × Nat) :=
  if b = 34 then some (34, 2) else if b = 92 then some (92, 2) else if b = 110 then some (10, 2) else if b = 114 then some (13, 2) else if b = 116 then some (9, 2)
  else if b ≠ 120 then none else rdHex r
def rdTail (r : List UInt8) : Option (UInt8 × Nat) :=
  match r with
  | [] => none
  | b :: r' => rdEsc b r'
/-- The byte whose form within quotes stands at the beginning, and how many bytes the form has. -/
def rd (l : List UInt8) : Option (UInt8 × Nat) :=
  match l with
  | [] => none
  | a :: r => if plainB a.toNat then some (a, 1) else if a ≠ 92 then none else rdTail r

theorem rd_esc (c : UInt8) (r : List UInt8) : rd (esc c ++ r) = some (c, (esc c).length) := by
  cases hp : plainB c.toNat
  · by_cases h : ∃ k, k < 5 ∧ escChr k = (c.toNat : Int)
    · obtain ⟨k, hk, h⟩ := h
      have hc : c = UInt8.ofNat (escChr k).toNat := by rw [h]; simp
      match k, hk with
      | 0, _ => rw [hc]; rfl
      | 1, _ => rw [hc]; rfl
      | 2, _ => rw [hc]; rfl
      | 3, _ => rw [hc]; rfl
      | 4, _ => rw [hc]; rfl
    · have he := esc_hex hp (fun k hk e => h ⟨k, hk, e⟩)
      have hl := c.toNat_lt
      have h1 := hv_hexD (c.toNat / 16) (by omega)
      have h2 := hv_hexD (c.toNat % 16) (by omega)
      have h3 : hexC (hexD (c.toNat / 16)) (hexD (c.toNat % 16)) = c := by
        unfold hexC; rw [h1, h2]; apply UInt8.toNat_inj.1
        rw [show ((16 : Int) * ((c.toNat / 16 : Nat) : Int) + ((c.toNat % 16 : Nat) : Int)).toNat = c.toNat by omega]; simp
      rw [he]
      show (if hv (hexD (c.toNat / 16)) < 0 ∨ hv (hexD (c.toNat % 16)) < 0 then none else if _ then _ else _) = _
      rw [if_neg (by omega), h3, if_pos he]
      rfl
  · have e : esc c = [c] := by unfold esc; rw [hp]; rfl
    rw [e]
    show (if plainB c.toNat = true then _ else _) = _
    rw [if_pos hp]; rfl

theorem rd_some {l : List UInt8} {c : UInt8} {n : Nat} (h : rd l = some (c, n)) : ∃ r, l = esc c ++ r ∧ n = (esc c).length := by
  unfold rd at h
  split at h
  · cases h
  · rename_i a r
    split at h
    · rename_i hp
      cases h
      exact ⟨r, by unfold esc; rw [if_pos hp]; rfl, by unfold esc; rw [if_pos hp]; rfl⟩
    · split at h
      · cases h
      · rename_i ha
        have ha : a = 92 := by simpa using ha
        subst ha
        unfold rdTail at h
        split at h
        · cases h
        · rename_i b r'
          unfold rdEsc at h
          split at h
          · rename_i e; subst e; cases h; exact ⟨r', rfl, rfl⟩
          split at h
          · rename_i e; subst e; cases h; exact ⟨r', rfl, rfl⟩
          split at h
          · rename_i e; subst e; cases h; exact ⟨r', rfl, rfl⟩
          split at h
          · rename_i e; subst e; cases h; exact ⟨r', rfl, rfl⟩
          split at h
          · rename_i e; subst e; cases h; exact ⟨r', rfl, rfl⟩
          split at h
          · cases h
          · rename_i hb
            have hb : b = 120 := by simpa using hb
            subst hb
            unfold rdHex at h
            split at h
            · rename_i x y r2
              split at h
              · cases h
              · split at h
                · rename_i e
                  cases h
                  exact ⟨r2, by rw [e]; rfl, by rw [e]; rfl⟩
                · cases h
            · cases h
theorem esc_ne (c : UInt8) : 1 ≤ (esc c).length := by
  unfold esc; (split; · simp); (split; · simp); (split; · simp); (split; · simp); (split; · simp); (split; · simp); simp

/-- What the bytes behind an opening quote stand for, and where the quoted form ends: from index p of l on. -/
def quoP : Nat → List UInt8 → Nat → Option (List UInt8 × Nat)
  | 0, _, _ => none
  | f + 1, l, p =>
    match l.drop p with
    | [] => none
    | a :: r => if a = 34 then some ([], p + 1) else
      match rd (a :: r) with
      | none => none
      | some (c, n) => (quoP f l (p + n)).map fun x => (c :: x.1, x.2)
/-- The quoted form that begins at index p. -/
def quoS (l : List UInt8) (p : Nat) : Option (List UInt8 × Nat) :=
  match l.drop p with
  | [] => none
  | a :: _ => if a = 34 then quoP (l.length + 1) l (p + 1) else none

/-- How far a loop has come: the bytes b were read, and the next form begins at p. -/
def QuoAt (l : List UInt8) (p0 : Nat) (b : List UInt8) (p : Nat) : Prop :=
  ∃ f, l.length < f + p ∧ quoP (l.length + 1) l (p0 + 1) = (quoP f l p).map fun x => (b ++ x.1, x.2)
theorem QuoAt.start (l : List UInt8) (p0 : Nat) : QuoAt l p0 [] (p0 + 1) := ⟨l.length + 1, by omega, by simp⟩
theorem QuoAt.next {l : List UInt8} {p0 : Nat} {b : List UInt8} {p : Nat} {c : UInt8} {n : Nat} (h : QuoAt l p0 b p) (hp : p < l.length) (h34 : l[p] ≠ 34) (hr : rd (l.drop p) = some (c, n)) (hn : 1 ≤ n) :
    QuoAt l p0 (b ++ [c]) (p + n) := by
  obtain ⟨f, hf, e⟩ := h
  match f, hf with
  | 0, hf => omega
  | f + 1, hf =>
    refine ⟨f, by omega, ?_⟩
    rw [e, quoP]
    have hd : l.drop p = l[p] :: l.drop (p + 1) := List.drop_eq_getElem_cons hp
    rw [hd] at hr ⊢
    simp only [if_neg h34, hr, Option.map_map]
    congr 1
    funext x
    simp
theorem QuoAt.done {l : List UInt8} {p0 : Nat} {b : List UInt8} {p : Nat} (h : QuoAt l p0 b p) (hp : p < l.length) (h34 : l[p] = 34) : quoP (l.length + 1) l (p0 + 1) = some (b, p + 1) := by
  obtain ⟨f, hf, e⟩ := h
  match f, hf with
  | 0, hf => omega
  | f + 1, hf =>
    rw [e, quoP]
    have hd : l.drop p = l[p] :: l.drop (p + 1) := List.drop_eq_getElem_cons hp
    rw [hd]
    simp [h34]
theorem QuoAt.fails {l : List UInt8} {p0 : Nat} {b : List UInt8} {p : Nat} (h : QuoAt l p0 b p) (hp : p < l.length) (h34 : l[p] ≠ 34) (hr : rd (l.drop p) = none) : quoP (l.length + 1) l (p0 + 1) = none := by
  obtain ⟨f, hf, e⟩ := h
  match f, hf with
  | 0, hf => omega
  | f + 1, hf =>
    rw [e, quoP]
    have hd : l.drop p = l[p] :: l.drop (p + 1) := List.drop_eq_getElem_cons hp
    rw [hd] at hr ⊢
    simp only [if_neg h34, hr]; rfl
theorem QuoAt.over {l : List UInt8} {p0 : Nat} {b : List UInt8} {p : Nat} (h : QuoAt l p0 b p) (hp : l.length ≤ p) : quoP (l.length + 1) l (p0 + 1) = none := by
  obtain ⟨f, _, e⟩ := h
  match f with
  | 0 => rw [e]; rfl
  | f + 1 =>
    rw [e, quoP, List.drop_of_length_le hp]
    rfl
theorem quoS_open {l : List UInt8} {p : Nat} (hp : p < l.length) (h : l[p] = 34) : quoS l p = quoP (l.length + 1) l (p + 1) := by
  unfold quoS
  have hd : l.drop p = l[p] :: l.drop (p + 1) := List.drop_eq_getElem_cons hp
  rw [hd]; simp [h]
theorem quoS_not {l : List UInt8} {p : Nat} (hp : p < l.length) (h : l[p] ≠ 34) : quoS l p = none := by
  unfold quoS
  have hd : l.drop p = l[p] :: l.drop (p + 1) := List.drop_eq_getElem_cons hp
  rw [hd]; simp [h]
theorem quoS_end {l : List UInt8} {p : Nat} (hp : l.length ≤ p) : quoS l p = none := by
  unfold quoS; rw [List.drop_of_length_le hp]

theorem quoP_pos : ∀ (f : Nat) (l : List UInt8) (p : Nat) (x : List UInt8 × Nat), quoP f l p = some x → p + 1 ≤ x.2 ∧ x.2 ≤ l.length := by
  intro f
  induction f with
  | zero => intro l p x h; cases h
  | succ f ih =>
    intro l p x h
    rw [quoP] at h
    split at h
    · cases h
    · rename_i a r hd
      have hlt : p < l.length := by
        rcases Nat.lt_or_ge p l.length with h' | h'
        · exact h'
        · rw [List.drop_of_length_le h'] at hd; cases hd
      split at h
      · cases h; exact ⟨by simp, by simp; omega⟩
      · split at h
        · cases h
        · rename_i c n hr
          cases hq : quoP f l (p + n) with
          | none => rw [hq] at h; cases h
          | some y =>
            rw [hq] at h
            cases h
            have := ih l (p + n) y hq
            exact ⟨by simp; omega, by simp; omega⟩
theorem quoS_pos {l : List UInt8} {p : Nat} {x : List UInt8 × Nat} (h : quoS l p = some x) : 1 ≤ x.2 := by
  unfold quoS at h
  split at h
  · cases h
  · split at h
    · have := quoP_pos _ _ _ _ h; omega
    · cases h
theorem quoS_le {l : List UInt8} {p : Nat} {x : List UInt8 × Nat} (h : quoS l p = some x) : p + 2 ≤ x.2 ∧ x.2 ≤ l.length := by
  unfold quoS at h
  split at h
  · cases h
  · split at h
    · have := quoP_pos _ _ _ _ h; omega
    · cases h
end Go.Proofs.YtnajkkbcfebegaaGreatDoor
