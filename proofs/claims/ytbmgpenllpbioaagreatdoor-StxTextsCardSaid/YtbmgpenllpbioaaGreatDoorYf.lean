/- Mathematics of Add and Flip on syntax; the law's far. -/
import Derived.Test.YtbmgpenllpbioaaGreatDoorYo
import Derived.Test.YtbmgpenllpbioaaGreatDoorYaw
import Derived.Test.YtbmgpenllpbioaaGreatDoorZr
namespace Go.Proofs.YtbmgpenllpbioaaGreatDoor
open Go.RowKit Go.PlainAid

theorem one_e3 {f b s : Bool} {A : List UInt8} {n : Int} (h : (oneS f b s A n).2 ≠ 0) : (oneS f b s A n).1 = [] := by
  unfold oneS at h ⊢
  split
  · rfl
  · rename_i h0
    rw [if_neg h0] at h
    unfold outS at h ⊢
    split
    · rfl
    · rename_i h1; rw [if_neg h1] at h; exact absurd rfl h
theorem one_e0 {f b s : Bool} {A : List UInt8} {n : Int} (h : (oneS f b s A n).2 = 0) : ∃ (l : List Nat) (k : Nat), A = setL l ∧ SetOf l ∧ n = (k : Int) ∧ k < 65536 ∧ SetOf (mg f b s l [k]) ∧ oneS f b s A n = (setL (mg f b s l [k]), 0) := by
  have h0 : oneE A n = 0 := by
    by_cases e : oneE A n = 0
    · exact e
    · rw [one_no e] at h; exact absurd h e
  obtain ⟨l, rfl, hl⟩ := set_of (oneE_ok h0).1
  obtain ⟨k, rfl⟩ : ∃ k : Nat, n = k := ⟨n.toNat, by have := (oneE_ok h0).2.1; omega⟩
  have hk : k < 65536 := by have := (oneE_ok h0).2.2; omega
  rw [one_set hl hk] at h ⊢
  have hlen : (mg f b s l [k]).length ≤ 10000 := by
    by_cases e : 10000 < (mg f b s l [k]).length
    · rw [out_no e] at h; exact absurd h (by decide)
    · omega
  exact ⟨l, k, rfl, hl, rfl, hk, hl.mg (SetOf.one hk) hlen, out_ok hlen⟩
theorem one_few (f b s : Bool) (A : List UInt8) (n : Int) : (oneS f b s A n).1.length ≤ 20000 := by
  by_cases h : (oneS f b s A n).2 = 0
  · obtain ⟨l, k, _, _, _, _, h1, h2⟩ := one_e0 h
    rw [h2]; show (setL _).length ≤ _; rw [setL_len]; have := h1.few; omega
  · rw [one_e3 h]; exact Nat.zero_le _
theorem flip_ok {p : List UInt8} {a : Int} (h : (oneS true false true p a).2 = 0) : chkE p = 0 ∧ chkE (oneS true false true p a).1 = 0 ∧ oneS true false true (oneS true false true p a).1 a = (p, 0) := by
  obtain ⟨l, k, rfl, hl, rfl, hk, hf, hr⟩ := one_e0 h
  rw [hr]
  refine ⟨hl.chk, hf.chk, ?_⟩
  show oneS true false true (setL (mg true false true l [k])) (k : Int) = _
  rw [one_set hf hk, flip_flip hl.up, out_ok hl.few]
theorem flip_two {p : List UInt8} {a b : Int} (h1 : (oneS true false true p a).2 = 0) (h2 : (oneS true false true p b).2 = 0) :
    oneS true false true (oneS true false true p a).1 b = oneS true false true (oneS true false true p b).1 a := by
  obtain ⟨l, k, rfl, hl, rfl, hk, hf, hr⟩ := one_e0 h1
  obtain ⟨l1, j, e1, s1, rfl, hj, hg, hq⟩ := one_e0 h2
  obtain rfl := (set_eq hl s1).1 e1
  rw [hr, hq]
  show oneS true false true (setL (mg true false true l [k])) (j : Int) = oneS true false true (setL (mg true false true l [j])) (k : Int)
  rw [one_set hf hj, one_set hg hk, flip_comm hl.up]
theorem firstE_zero {g : List UInt8 → List UInt8 × Int} : ∀ {l : List Sx}, firstE g l = 0 → ∀ x ∈ l, (g x.p).2 = 0
  | [], _ => fun x hx => by cases hx
  | y :: t, h => by
    rw [firstE] at h
    by_cases h0 : (g y.p).2 = 0
    · rw [if_neg (by simpa using h0)] at h
      intro x hx
      rcases List.mem_cons.1 hx with rfl | hx
      · exact h0
      · exact firstE_zero h x hx
    · rw [if_pos h0] at h; exact absurd h h0
theorem chg_ok {g : List UInt8 → List UInt8 × Int} {l : List Sx} (h : (chgS g l).2 = 0) : (chkX l).2 = 0 ∧ (∀ x ∈ l, (g x.p).2 = 0) ∧ chgS g l = (l.map (setP g), 0) := by
  by_cases h1 : (chkX l).2 = 0
  · by_cases h2 : firstE g l = 0
    · exact ⟨h1, firstE_zero h2, chgS_ok h1 h2⟩
    · rw [chgS_err h1 h2] at h; exact absurd h h2
  · rw [chgS_bad h1] at h; exact absurd h h1
theorem chg_nil {g : List UInt8 → List UInt8 × Int} {l : List Sx} (h : (chgS g l).2 ≠ 0) : (chgS g l).1 = [] := by
  by_cases h1 : (chkX l).2 = 0
  · by_cases h2 : firstE g l = 0
    · rw [chgS_ok h1 h2] at h; exact absurd rfl h
    · rw [chgS_err h1 h2]
  · rw [chgS_bad h1]
theorem chg_sm {g : List UInt8 → List UInt8 × Int} {l : List Sx} (hg : ∀ p, (g p).1.length ≤ 20000) (hs : SmX l) : SmX (chgS g l).1 := by
  by_cases h : (chgS g l).2 = 0
  · rw [(chg_ok h).2.2]
    intro x hx
    obtain ⟨y, hy, rfl⟩ := List.mem_map.1 hx
    exact ⟨(hs y hy).1, Nat.le_trans (hg _) (by omega)⟩
  · rw [chg_nil h]; intro x hx; cases hx
theorem chg_in {g : List UInt8 → List UInt8 × Int} {l : List Sx} (hi : InX l) : InX (chgS g l).1 := by
  by_cases h : (chgS g l).2 = 0
  · rw [(chg_ok h).2.2]
    intro x hx
    obtain ⟨y, hy, rfl⟩ := List.mem_map.1 hx
    exact hi y hy
  · rw [chg_nil h]; intro x hx; cases hx
theorem chg_len {g : List UInt8 → List UInt8 × Int} {l : List Sx} : (chgS g l).1.length ≤ l.length := by
  by_cases h : (chgS g l).2 = 0
  · rw [(chg_ok h).2.2, List.length_map]; exact Nat.le_refl _
  · rw [chg_nil h]; exact Nat.zero_le _
theorem chkG_map (f : Sx → Sx) : ∀ (t : List Sx) (st : List Nat) (i : Nat), (∀ x ∈ t, (∀ d, errX (f x) d = errX x d) ∧ (f x).c = x.c) → chkG st i (t.map f) = chkG st i t
  | [], st, i, _ => rfl
  | x :: t, st, i, h => by
    obtain ⟨h1, h2⟩ := h x (by simp)
    rw [List.map_cons, chkG, chkG, h1, h2, chkG_map f t _ _ fun y hy => h y (by simp [hy])]
theorem fld_chk {x : Sx} (h : fldX x = 0) : chkE x.p = 0 := by
  unfold fldX at h
  split at h
  · cases h
  · split at h
    · cases h
    · split at h
      · exact h
      · rename_i h0; exact Decidable.of_not_not h0
theorem err_set {x : Sx} {g : List UInt8 → List UInt8 × Int} (h1 : chkE x.p = 0) (h2 : chkE (g x.p).1 = 0) (d : Int) : errX (setP g x) d = errX x d := by
  unfold errX fldX setP
  simp only [h1, h2]
  rfl
theorem chk_set {g : List UInt8 → List UInt8 × Int} {l : List Sx} (h : (chkX l).2 = 0) (hg : ∀ x ∈ l, chkE (g x.p).1 = 0) : (chkX (l.map (setP g))).2 = 0 := by
  have hok := (chkX_ok h).2
  have e : chkG [1] 0 (l.map (setP g)) = chkG [1] 0 l := chkG_map _ _ _ _ fun x hx => ⟨fun d => err_set (fld_chk (hok x hx).2) (hg x hx) d, rfl⟩
  obtain ⟨h1, h2, h3⟩ := chkX_one h
  unfold chkX
  rw [if_neg (by intro e2; exact h2 (List.map_eq_nil_iff.1 e2)), List.length_map, if_neg (by omega), e, ← h1]
  exact h
theorem setP_two (g f : List UInt8 → List UInt8 × Int) (x : Sx) : setP g (setP f x) = { x with p := (g (f x.p).1).1 } := rfl
theorem chg_back {l : List Sx} {a : Int} (h : (chgS (fun p => oneS true false true p a) l).2 = 0) :
    chgS (fun p => oneS true false true p a) (l.map (setP fun p => oneS true false true p a)) = (l, 0) := by
  obtain ⟨h1, h2, _⟩ := chg_ok h
  have hb := fun x hx => flip_ok (h2 x hx)
  rw [chgS_ok (chk_set h1 fun x hx => (hb x hx).2.1) (firstE_none fun x hx => by
    obtain ⟨y, hy, rfl⟩ := List.mem_map.1 hx
    show (oneS true false true (oneS true false true y.p a).1 a).2 = 0
    rw [(hb y hy).2.2])]
  congr 1
  rw [List.map_map]
  have : ∀ x ∈ l, (setP (fun p => oneS true false true p a) ∘ setP fun p => oneS true false true p a) x = x := fun x hx => by
    show setP _ (setP _ x) = x
    rw [setP_two, (hb x hx).2.2]
  rw [List.map_congr_left this, List.map_id']
theorem chg_comm {l : List Sx} {a b : Int} (h : (chgS (fun p => oneS true false true p a) l).2 = 0) (h2 : (chgS (fun p => oneS true false true p b) l).2 = 0)
    (h3 : (chgS (fun p => oneS true false true p b) (l.map (setP fun p => oneS true false true p a))).2 = 0) (h4 : (chgS (fun p => oneS true false true p a) (chgS (fun p => oneS true false true p b) l).1).2 = 0) :
    (chgS (fun p => oneS true false true p b) (l.map (setP fun p => oneS true false true p a))).1 = (chgS (fun p => oneS true false true p a) (chgS (fun p => oneS true false true p b) l).1).1 := by
  obtain ⟨_, ha, _⟩ := chg_ok h
  obtain ⟨_, hb, e2⟩ := chg_ok h2
  rw [(chg_ok h3).2.2, (chg_ok h4).2.2, e2]
  show (l.map _).map _ = (l.map _).map _
  rw [List.map_map, List.map_map]
  refine List.map_congr_left fun x hx => ?_
  show setP _ (setP _ x) = setP _ (setP _ x)
  rw [setP_two, setP_two, flip_two (ha x hx) (hb x hx)]
theorem chg_add {l : List Sx} {a : Int} (h : (chgS (fun p => oneS true true true p a) l).2 = 0) : ∀ x ∈ l, (oneS true true true x.p a).2 = 0 := (chg_ok h).2.1

/-- What far's false tells. -/
def NearX (l : List Sx) : Prop := l.length ≤ 2010 ∧ ∀ x ∈ l, x.s.length ≤ 200 ∧ x.p.length ≤ 200
theorem NearX.sm {l : List Sx} (h : NearX l) : SmX l := fun x hx => ⟨Nat.le_trans (h.2 x hx).1 (by omega), Nat.le_trans (h.2 x hx).2 (by omega)⟩
def FarV (l : List Sx) (w : World) (e : Ending) (w' : World) : Prop := ∃ b, e = .returned (.bool b) ∧ Hid (b = false → NearX l) ∧ w' = w
set_option maxRecDepth 50000 in
set_option maxHeartbeats 3200000 in
theorem farX_loop (v : Value) (l : List Sx) (w : World) (h : XsAt w v l) (hl : l.length ≤ 2010) (hl2 : l.length ≤ 60 ∨ 2000 < l.length) : Calls Tryz.prog 10 #[v] w (FarV l w) := by
  obtain ⟨a, c, rfl, hc⟩ := h.slice
  obtain ⟨n, hn⟩ : ∃ n, l.length = n := ⟨_, rfl⟩
  rw [hn] at h hc hl hl2 ⊢
  have H := Lib.hid h
  have HN := Lib.hid hn
  have d3 : decide ((2010 : Int) < (n : Int)) = false := decide_eq_false (by omega)
  clear h hn
  rcases hl2 with h60 | h2000
  · have d1 : decide ((60 : Int) < (n : Int)) = false := decide_eq_false (by omega)
    go_enter Tryz.func10, Tryz.ntmps10
    go_wp2_with fail
    -- MARKF1
    go_loopw [3] (fun x3 wr => ∃ k : Nat, k ≤ n ∧ x3 = .int .i64 k ∧ wr = w ∧ Hid (∀ (j : Nat) (x : Sx), j < k → l[j]? = some x → x.s.length ≤ 200 ∧ x.p.length ≤ 200)) (fun x3 _ => n - (intOf x3).toNat)
    case atStart => exact ⟨0, Nat.zero_le _, rfl, rfl, Lib.hid fun j x hj => absurd hj (Nat.not_lt_zero _)⟩
    case round =>
      obtain ⟨k, hk, rfl, rfl, HS⟩ := hrel
      by_cases hlt : k < n
      · obtain ⟨x, hx⟩ : ∃ x, l[k]? = some x := ⟨_, List.getElem?_eq_getElem (by rw [HN.out]; exact hlt)⟩
        obtain ⟨g, off, rfl, _, _, _, _, c3, c4, _, _, _⟩ := H.out.node hx
        have HX := Lib.hid hx
        obtain ⟨S, hS⟩ : ∃ S, str x.s = S := ⟨_, rfl⟩
        obtain ⟨P, hP⟩ : ∃ S, str x.p = S := ⟨_, rfl⟩
        have hSl : S.size = x.s.length := by rw [← hS, str_size]
        have hPl : P.size = x.p.length := by rw [← hP, str_size]
        rw [hS] at c3
        rw [hP] at c4
        have hkm : (k : Int) < (n : Int) := by omega
        have hk0 : (0 : Int) ≤ (k : Int) := Int.natCast_nonneg _
        by_cases hs : 200 < S.size
        · have e1 : decide ((200 : Int) < (S.size : Int)) = true := decide_eq_true (by omega)
          clear hx hS hP hSl hPl hs
          go_wp2_with fail
          go_ret
          exact ⟨true, rfl, Lib.hid fun h => (by cases h), rfl⟩
        · have e1 : decide ((200 : Int) < (S.size : Int)) = false := decide_eq_false (by omega)
          by_cases hp : 200 < P.size
          · have e2 : decide ((200 : Int) < (P.size : Int)) = true := decide_eq_true (by omega)
            clear hx hS hP hSl hPl hs hp
            go_wp2_with fail
            go_ret
            exact ⟨true, rfl, Lib.hid fun h => (by cases h), rfl⟩
          · have e2 : decide ((200 : Int) < (P.size : Int)) = false := decide_eq_false (by omega)
            have HS' : Hid (∀ (j : Nat) (y : Sx), j < k + 1 → l[j]? = some y → y.s.length ≤ 200 ∧ y.p.length ≤ 200) := Lib.hid fun j y hj hy => by
              by_cases hjk : j < k
              · exact HS.out j y hjk hy
              · obtain rfl : j = k := by omega
                rw [hx] at hy
                obtain rfl := Option.some.inj hy
                exact ⟨by omega, by omega⟩
            clear hx hS hP hSl hPl hs hp
            go_wp2_with fail
            exact ⟨⟨k + 1, by omega, by go_num, trivial, HS'⟩, by simp [intOf]; omega⟩
      · obtain rfl : k = n := by omega
        go_wp2_with fail
        go_ret
        exact ⟨false, rfl, Lib.hid fun _ => ⟨by rw [HN.out]; exact hl, fun x hx => by
          obtain ⟨j, hj, e⟩ := List.getElem_of_mem hx
          exact HS.out j x (by rw [← HN.out]; exact hj) (by rw [List.getElem?_eq_getElem hj, e])⟩, rfl⟩
  · have d1 : decide ((60 : Int) < (n : Int)) = true := decide_eq_true (by omega)
    have d2 : decide ((n : Int) ≤ 2000) = false := decide_eq_false (by omega)
    go_enter Tryz.func10, Tryz.ntmps10
    go_wp2_with fail
    -- MARKF1
    go_loopw [3] (fun x3 wr => ∃ k : Nat, k ≤ n ∧ x3 = .int .i64 k ∧ wr = w ∧ Hid (∀ (j : Nat) (x : Sx), j < k → l[j]? = some x → x.s.length ≤ 200 ∧ x.p.length ≤ 200)) (fun x3 _ => n - (intOf x3).toNat)
    case atStart => exact ⟨0, Nat.zero_le _, rfl, rfl, Lib.hid fun j x hj => absurd hj (Nat.not_lt_zero _)⟩
    case round =>
      obtain ⟨k, hk, rfl, rfl, HS⟩ := hrel
      by_cases hlt : k < n
      · obtain ⟨x, hx⟩ : ∃ x, l[k]? = some x := ⟨_, List.getElem?_eq_getElem (by rw [HN.out]; exact hlt)⟩
        obtain ⟨g, off, rfl, _, _, _, _, c3, c4, _, _, _⟩ := H.out.node hx
        have HX := Lib.hid hx
        obtain ⟨S, hS⟩ : ∃ S, str x.s = S := ⟨_, rfl⟩
        obtain ⟨P, hP⟩ : ∃ S, str x.p = S := ⟨_, rfl⟩
        have hSl : S.size = x.s.length := by rw [← hS, str_size]
        have hPl : P.size = x.p.length := by rw [← hP, str_size]
        rw [hS] at c3
        rw [hP] at c4
        have hkm : (k : Int) < (n : Int) := by omega
        have hk0 : (0 : Int) ≤ (k : Int) := Int.natCast_nonneg _
        by_cases hs : 200 < S.size
        · have e1 : decide ((200 : Int) < (S.size : Int)) = true := decide_eq_true (by omega)
          clear hx hS hP hSl hPl hs
          go_wp2_with fail
          go_ret
          exact ⟨true, rfl, Lib.hid fun h => (by cases h), rfl⟩
        · have e1 : decide ((200 : Int) < (S.size : Int)) = false := decide_eq_false (by omega)
          by_cases hp : 200 < P.size
          · have e2 : decide ((200 : Int) < (P.size : Int)) = true := decide_eq_true (by omega)
            clear hx hS hP hSl hPl hs hp
            go_wp2_with fail
            go_ret
            exact ⟨true, rfl, Lib.hid fun h => (by cases h), rfl⟩
          · have e2 : decide ((200 : Int) < (P.size : Int)) = false := decide_eq_false (by omega)
            have HS' : Hid (∀ (j : Nat) (y : Sx), j < k + 1 → l[j]? = some y → y.s.length ≤ 200 ∧ y.p.length ≤ 200) := Lib.hid fun j y hj hy => by
              by_cases hjk : j < k
              · exact HS.out j y hjk hy
              · obtain rfl : j = k := by omega
                rw [hx] at hy
                obtain rfl := Option.some.inj hy
                exact ⟨by omega, by omega⟩
            clear hx hS hP hSl hPl hs hp
            go_wp2_with fail
            exact ⟨⟨k + 1, by omega, by go_num, trivial, HS'⟩, by simp [intOf]; omega⟩
      · obtain rfl : k = n := by omega
        go_wp2_with fail
        go_ret
        exact ⟨false, rfl, Lib.hid fun _ => ⟨by rw [HN.out]; exact hl, fun x hx => by
          obtain ⟨j, hj, e⟩ := List.getElem_of_mem hx
          exact HS.out j x (by rw [← HN.out]; exact hj) (by rw [List.getElem?_eq_getElem hj, e])⟩, rfl⟩
set_option maxRecDepth 50000 in
theorem farX_any (v : Value) (l : List Sx) (w : World) (h : XsAt w v l) : Calls Tryz.prog 10 #[v] w (FarV l w) := by
  by_cases hl : l.length ≤ 2010 ∧ (l.length ≤ 60 ∨ 2000 < l.length)
  · exact farX_loop v l w h hl.1 hl.2
  · obtain ⟨a, c, rfl, hc⟩ := h.slice
    obtain ⟨n, hn⟩ : ∃ n, l.length = n := ⟨_, rfl⟩
    rw [hn] at h hc hl ⊢
    clear h hn
    have d1 : decide ((60 : Int) < (n : Int)) = true := decide_eq_true (by omega)
    by_cases h2 : n ≤ 2000
    · have d2 : decide ((n : Int) ≤ 2000) = true := decide_eq_true (by omega)
      clear hl
      go_enter Tryz.func10, Tryz.ntmps10
      go_wp2_with fail
      go_ret
      exact ⟨true, rfl, Lib.hid fun h => (by cases h), rfl⟩
    · have d2 : decide ((n : Int) ≤ 2000) = false := decide_eq_false (by omega)
      have d3 : decide ((2010 : Int) < (n : Int)) = true := decide_eq_true (by omega)
      clear hl
      go_enter Tryz.func10, Tryz.ntmps10
      go_wp2_with fail
      go_ret
      exact ⟨true, rfl, Lib.hid fun h => (by cases h), rfl⟩
-- MARK9
end Go.Proofs.YtbmgpenllpbioaaGreatDoor
