/- The law WordsInverse, walked. -/
import Derived.Test.YtnajkkbcfebegaaGreatDoorInvF
import Derived.Test.YtnajkkbcfebegaaGreatDoorInvM
import Derived.Test.YtnajkkbcfebegaaGreatDoorInvS
import Derived.Deep.RegionHeld3
namespace Go.Proofs.YtnajkkbcfebegaaGreatDoor
open Go.RowKit Go.PlainAid

theorem escs_ge (x : List UInt8) : x.length ≤ (quoteL x).length := by
  unfold quoteL
  have : x.length ≤ (escs x).length := by
    induction x with
    | nil => simp
    | cons c x ih =>
      have hE : escs (c :: x) = esc c ++ escs x := rfl
      have := esc_ne c
      rw [hE, List.length_append, List.length_cons]; omega
  simp only [List.length_cons, List.length_append, List.length_nil]; omega
theorem runs_len : ∀ (f : Nat) (l : List Int) (p : Nat), (∀ n ∈ l, i64r n) → (runsFrom f l p).length ≤ f ∧ ∀ t ∈ runsFrom f l p, t.length ≤ 43 := by
  intro f
  induction f with
  | zero => intro l p _; exact ⟨Nat.le_refl _, fun t h => (by cases h)⟩
  | succ f ih =>
    intro l p h
    rw [runsFrom]
    split
    · rename_i a b ha hb
      obtain ⟨h1, h2⟩ := ih l (runE l p) h
      refine ⟨by simp only [List.length_cons]; omega, fun t ht => ?_⟩
      rcases List.mem_cons.1 ht with rfl | ht
      · exact runT_len (h a (List.mem_of_getElem? ha)) (h b (List.mem_of_getElem? hb))
      · exact h2 t ht
    · exact ⟨Nat.zero_le _, fun t h => (by cases h)⟩
theorem listS_len {l : List Int} (h : ∀ n ∈ l, i64r n) : (listS l).1.length ≤ 50000 := by
  unfold listS
  by_cases h1 : 500 < l.length
  · rw [if_pos h1]; exact Nat.zero_le _
  · rw [if_neg h1]
    split
    · exact Nat.zero_le _
    · split
      · exact Nat.zero_le _
      · split
        · simp
        · obtain ⟨h2, h3⟩ := runs_len l.length l 0 h
          have := join_le h3
          simp only
          omega
theorem listS_bounds {l : List Int} (h : (listS l).2 = 0) : ∀ n ∈ l, i64r n := by
  unfold listS at h
  by_cases h1 : 500 < l.length
  · rw [if_pos h1] at h; cases h
  by_cases h2 : badNum l = true
  · rw [if_neg h1, if_pos h2] at h; cases h
  intro n hn
  have h5 := Bool.eq_false_iff.2 h2
  unfold badNum at h5
  rw [List.any_eq_false] at h5
  have := h5 n hn
  simp at this
  exact ⟨by omega, by omega⟩
theorem split_few (s : ByteArray) (hs : s.size ≤ 3000) : (splitS s.data.toList).1.length ≤ 1000000 := by
  unfold splitS
  have := fldsOf_len s.data.toList
  rw [len_list] at this
  split
  · simp
  · split
    · simp
    · split
      · simp
      · simp only [List.length_map]; omega
theorem intS_fits (L : List UInt8) (a b : Int) : i64r (intS L a b).1 := by
  unfold intS
  split
  · split
    · rename_i h; exact h.1
    · exact ⟨by decide, by decide⟩
  · exact ⟨by decide, by decide⟩
theorem str_back (x : List UInt8) : (str x).data.toList = x := by simp [str]

/-- What the law's calls give, in every world above. -/
structure Gives (s : ByteArray) (vl : Value) (l : List Fld) (va : Option Addr) (n vc : Nat) (xs : List Int) (N : Int) (w : World) (F : List Fld) (e0 : Int) (t : List UInt8) (j0 : Int) (q V : ByteArray) (g : Int) (LX : ByteArray) (l0 : Int) (M : List Int) (p0 : Int) (D : ByteArray) (k g2 : Int) : Prop where
  far : ∀ W, Below w.heap.size w W → Calls Tryz.prog 12 #[vl] W (FarV l W)
  shown : ∀ W, Below w.heap.size w W → Calls Tryz.prog 6 #[] W fun e w' => e = .returned (.bool true) ∧ Below W.heap.size W w'
  split : ∀ W, Below w.heap.size w W → Calls Tryz.prog 13 #[.string s] W fun e w' => ∃ v, e = .returned (.tuple #[v, .int .i64 e0]) ∧ Hid (FldsAt w' v F) ∧ Below W.heap.size W w'
  join1 : e0 = 0 → ∀ W v, Below w.heap.size w W → FldsAt W v F → Calls Tryz.prog 14 #[v] W fun e w' => e = .returned (.tuple #[.string s, .int .i64 0]) ∧ Below W.heap.size W w'
  join2 : l.length ≤ 70 → ∀ W, Below w.heap.size w W → Calls Tryz.prog 14 #[vl] W fun e w' => e = .returned (.tuple #[.string (str t), .int .i64 j0]) ∧ Below W.heap.size W w'
  split2 : j0 = 0 → ∀ W, Below w.heap.size w W → Calls Tryz.prog 13 #[.string (str t)] W fun e w' => ∃ v, e = .returned (.tuple #[v, .int .i64 0]) ∧ Hid (FldsAt w' v l) ∧ Below W.heap.size W w'
  same : l.length ≤ 70 → ∀ W v, Below w.heap.size w W → FldsAt W v l → Calls Tryz.prog 15 #[v, vl] W fun e w' => e = .returned (.bool true) ∧ Below W.heap.size W w'
  quote : ∀ W, Below w.heap.size w W → Calls Tryz.prog 17 #[.string s] W fun e w' => e = .returned (.string q) ∧ Below W.heap.size W w'
  unq1 : ∀ W, Below w.heap.size w W → Calls Tryz.prog 16 #[.string q] W fun e w' => e = .returned (.tuple #[.string s, .int .i64 0]) ∧ Below W.heap.size W w'
  unq2 : ∀ W, Below w.heap.size w W → Calls Tryz.prog 16 #[.string s] W fun e w' => e = .returned (.tuple #[.string V, .int .i64 g]) ∧ Below W.heap.size W w'
  quote2 : g = 0 → ∀ W, Below w.heap.size w W → Calls Tryz.prog 17 #[.string V] W fun e w' => e = .returned (.string s) ∧ Below W.heap.size W w'
  list : ∀ W, Below w.heap.size w W → Calls Tryz.prog 7 #[.slice va n vc] W fun e w' => e = .returned (.tuple #[.string LX, .int .i64 l0]) ∧ Below W.heap.size W w'
  parse1 : l0 = 0 → ∀ W, Below w.heap.size w W → Calls Tryz.prog 9 #[.string LX] W fun e w' => ∃ v, e = .returned (.tuple #[v, .int .i64 0]) ∧ Hid (IntsAt w' v xs) ∧ Below W.heap.size W w'
  lists : ∀ W v, Below w.heap.size w W → IntsAt W v xs → Calls Tryz.prog 11 #[v, .slice va n vc] W fun e w' => e = .returned (.bool true) ∧ Below W.heap.size W w'
  parse2 : ∀ W, Below w.heap.size w W → Calls Tryz.prog 9 #[.string s] W fun e w' => ∃ v, e = .returned (.tuple #[v, .int .i64 p0]) ∧ Hid (IntsAt w' v M) ∧ Below W.heap.size W w'
  list2 : p0 = 0 → ∀ W v, Below w.heap.size w W → IntsAt W v M → Calls Tryz.prog 7 #[v] W fun e w' => e = .returned (.tuple #[.string s, .int .i64 0]) ∧ Below W.heap.size W w'
  dig1 : ∀ W, Below w.heap.size w W → Calls Tryz.prog 19 #[.int .i64 N] W fun e w' => e = .returned (.string D) ∧ Below W.heap.size W w'
  int1 : ∀ W, Below w.heap.size w W → Calls Tryz.prog 18 #[.string D, .int .i64 N, .int .i64 N] W fun e w' => e = .returned (.tuple #[.int .i64 N, .int .i64 0]) ∧ Below W.heap.size W w'
  int2 : ∀ W, Below w.heap.size w W → Calls Tryz.prog 18 #[.string s, .int .i64 (-9223372036854775808), .int .i64 9223372036854775807] W fun e w' => e = .returned (.tuple #[.int .i64 k, .int .i64 g2]) ∧ Below W.heap.size W w'
  dig2 : g2 = 0 → ∀ W, Below w.heap.size w W → Calls Tryz.prog 19 #[.int .i64 k] W fun e w' => e = .returned (.string s) ∧ Below W.heap.size W w'

theorem gives (s : ByteArray) (vl : Value) (l : List Fld) (va : Option Addr) (vc : Nat) (xs : List Int) (N : Int) (w : World) (T : Ties w) (hm : MaxIs w) (hrl : 2 < w.heap.size)
    (hs : s.size ≤ 3000) (hl : FldsArg w vl l) (hx : IntsArg w (.slice va xs.length vc) xs) (hr : ∀ n ∈ xs, i64r n) (hxl : xs.length ≤ 510) (hN : i64r N) :
    ∃ F e0 t j0 q V g LX l0 M p0 D k g2, Gives s vl l va xs.length vc xs N w F e0 t j0 q V g LX l0 M p0 D k g2 := by
  have hsl : s.data.toList.length ≤ 3000 := by rw [len_list]; exact hs
  have hss : str s.data.toList = s := str_data s
  obtain ⟨V, g, hU, hVg⟩ : ∃ (V : ByteArray) (g : Int), (∀ W e w', UnqV s W e w' → e = .returned (.tuple #[.string V, .int .i64 g]) ∧ Below W.heap.size W w') ∧ (g = 0 → ∃ x, V = str x ∧ unqS s = some x) := by
    cases hq : unqS s with
    | none => exact ⟨str [], 6, fun W e w' h => (by unfold UnqV at h; rw [hq] at h; exact h), fun h => (by cases h)⟩
    | some x => exact ⟨str x, 0, fun W e w' h => (by unfold UnqV at h; rw [hq] at h; exact h), fun _ => ⟨x, rfl, rfl⟩⟩
  refine ⟨(splitS s.data.toList).1, (splitS s.data.toList).2, (joinS l).1, (joinS l).2, str (quoteL s.data.toList), V, g, str (listS xs).1, (listS xs).2, (parseV s.data.toList).1, (parseV s.data.toList).2, str (Lib.itoa N),
    (intS s.data.toList (-9223372036854775808) 9223372036854775807).1, (intS s.data.toList (-9223372036854775808) 9223372036854775807).2, ?_⟩
  constructor
  · exact fun W hb => far_arg vl l W (hl.below hb)
  · exact fun W hb => shown_any W (T W hb) (T.below hb)
  · exact fun W hb => (split_any s W (T W hb).esc (T W hb).he).mono fun e w' ⟨v, h1, h2, h3⟩ => ⟨v, h1, Lib.hid (FldsAt.own h2), h3⟩
  · intro he W v hb hv
    have h := join_arg v _ W (T W hb).esc (T W hb).he (.inr hv) (split_few s hs)
    have hj := join_split he
    unfold joinV at h
    rw [hj, hss] at h
    exact h
  · intro h70 W hb
    exact join_arg vl l W (T W hb).esc (T W hb).he (hl.below hb) (by omega)
  · intro hj W hb
    have h := split_join hj
    refine (split_any (str (joinS l).1) W (T W hb).esc (T W hb).he).mono fun e w' ⟨v, h1, h2, h3⟩ => ?_
    rw [str_back, h] at h1 h2
    exact ⟨v, h1, Lib.hid (FldsAt.own h2), h3⟩
  · exact fun h70 W v hb hv => same_arg v vl l W hv (hl.below hb) (by omega)
  · exact fun W hb => quote_any s W (by omega) (T W hb).esc (T W hb).he
  · intro W hb
    have hz : (str (quoteL s.data.toList)).size ≤ 1000000000 := by
      rw [str_size]; have := quote_size s.data.toList; omega
    have h := unquote_any _ W hz (T W hb).esc (by have := (T W hb).he; omega)
    refine h.mono fun e w' h => ?_
    unfold UnqV at h
    rw [unq_quote] at h
    simp only [hss] at h
    exact h
  · intro W hb
    exact (unquote_any s W (by omega) (T W hb).esc (by have := (T W hb).he; omega)).mono fun e w' h => hU W e w' h
  · intro hg W hb
    obtain ⟨x, rfl, hx⟩ := hVg hg
    have hq := quote_unq hx
    have hz : (str x).size ≤ 100000000 := by
      rw [str_size]
      have h1 := escs_ge x
      have h2 : s.size = (quoteL x).length := by rw [hq, str_size]
      omega
    have h := quote_any (str x) W hz (T W hb).esc (T W hb).he
    rw [str_back, ← hq] at h
    exact h
  · intro W hb
    exact list_arg _ xs W (hx.below hb) (by omega) hr (T W hb).pow (T W hb).hp
  · intro h0 W hb
    have h := parse_any (listS xs).1 W (listS_len hr) (hm.below hb) (T W hb).rng (Nat.lt_of_lt_of_le hrl hb.size) (T W hb).pow (T W hb).hp
    refine h.mono fun e w' ⟨v, h1, h2, h3⟩ => ?_
    rw [parse_list h0] at h1 h2
    exact ⟨v, h1, Lib.hid h2, h3⟩
  · exact fun W v hb hv => lists_arg v _ xs W hv (hx.below hb) (by omega)
  · intro W hb
    have h := parse_any s.data.toList W (by omega) (hm.below hb) (T W hb).rng (Nat.lt_of_lt_of_le hrl hb.size) (T W hb).pow (T W hb).hp
    rw [hss] at h
    exact h.mono fun e w' ⟨v, h1, h2, h3⟩ => ⟨v, h1, Lib.hid h2, h3⟩
  · intro h0 W v hb hv
    have hp := list_parse h0
    have h := list_any v _ W hv (by have := parseV_len s.data.toList; omega) (listS_bounds (by rw [hp])) (T W hb).pow (T W hb).hp
    unfold ListV at h
    rw [hp, hss] at h
    exact h
  · exact fun W hb => digits_any N W hN (T W hb).pow
  · intro W hb
    have hz : (str (Lib.itoa N)).size ≤ 1000000000 := by
      rw [str_size]; have := Lib.itoa_length_le N hN.1 hN.2; omega
    have h := int_any (str (Lib.itoa N)) N N W hz (T W hb).rng
    unfold IntV at h
    rw [str_back, int_digits hN] at h
    exact h
  · exact fun W hb => int_any s _ _ W (by omega) (T W hb).rng
  · intro h0 W hb
    have h := digits_any _ W (intS_fits s.data.toList (-9223372036854775808) 9223372036854775807) (T W hb).pow
    rw [digits_int h0, hss] at h
    exact h
end Go.Proofs.YtnajkkbcfebegaaGreatDoor
