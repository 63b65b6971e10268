/- The reference's Join. -/
import Derived.Test.YtbggmmbbjojjcaaDoorRSplit
import Derived.Test.YtbggmmbbjojjcaaDoorQuote2
namespace Go.Proofs.YtbggmmbbjojjcaaDoor
open Go.RowKit Go.PlainAid

/-- The form of a field in a line. -/
def formF (x : Fld) : List UInt8 := if x.2 then quoteL x.1 else x.1
def gf (l : List Fld) (i : Nat) : Fld := l.getD i ([], false)
theorem gf_at {l : List Fld} {i : Nat} {x : Fld} (h : l[i]? = some x) : gf l i = x := by unfold gf; rw [List.getD_eq_getElem?_getD, h]; rfl
/-- The line of the first k fields. -/
def jnK (l : List Fld) : Nat → List UInt8
  | 0 => []
  | k + 1 => (if k = 0 then [] else jnK l k ++ [32]) ++ formF (gf l k)
/-- A field that has no form. -/
def noForm (x : Fld) : Bool := !x.2 && !bareL x.1
/-- What Join returns. -/
def joinS (l : List Fld) : List UInt8 × Int :=
  if tooL l then ([], 3) else if l.any noForm then ([], 6) else if 8192 < (jnK l l.length).length then ([], 3) else (jnK l l.length, 0)
def joinV (l : List Fld) : Value := .tuple #[.string (str (joinS l).1), .int .i64 (joinS l).2]
theorem tooL_at {l : List Fld} {k : Nat} {x : Fld} (hk : l[k]? = some x) (h : 2000 < x.1.length) : tooL l = true := by
  unfold tooL
  rw [Bool.or_eq_true, List.any_eq_true]
  exact .inr ⟨x, List.mem_of_getElem? hk, decide_eq_true h⟩
theorem tooL_no {l : List Fld} (h1 : l.length ≤ 64) (h : ∀ (k : Nat) x, l[k]? = some x → x.1.length ≤ 2000) : tooL l = false := by
  unfold tooL
  rw [Bool.or_eq_false_iff, List.any_eq_false]
  refine ⟨decide_eq_false (by omega), fun x hx => ?_⟩
  obtain ⟨j, hj⟩ := List.getElem?_of_mem hx
  have := h j x hj
  simp; omega
theorem noForm_at {l : List Fld} {k : Nat} {x : Fld} (hk : l[k]? = some x) (h : noForm x = true) : l.any noForm = true := List.any_eq_true.2 ⟨x, List.mem_of_getElem? hk, h⟩
theorem noForm_no {l : List Fld} (h : ∀ (k : Nat) x, l[k]? = some x → noForm x = false) : l.any noForm = false := by
  rw [List.any_eq_false]
  intro x hx
  obtain ⟨j, hj⟩ := List.getElem?_of_mem hx
  rw [h j x hj]; simp
theorem str_appF (a b : List UInt8) : str a ++ str b = str (a ++ b) := by apply ByteArray.ext; simp [str]
theorem str_sizeF (l : List UInt8) : (str l).size = l.length := str_size l
theorem long3 {l : List Fld} (h : tooL l = true) : joinV l = .tuple #[.string ⟨#[]⟩, .int .i64 3] := by unfold joinV joinS; rw [if_pos h]; rfl
theorem form6 {l : List Fld} (h : tooL l = false) (h2 : l.any noForm = true) : joinV l = .tuple #[.string ⟨#[]⟩, .int .i64 6] := by unfold joinV joinS; rw [if_neg (by rw [h]; simp), if_pos h2]; rfl
theorem line3 {l : List Fld} (h : tooL l = false) (h2 : l.any noForm = false) (h3 : 8192 < (jnK l l.length).length) : joinV l = .tuple #[.string ⟨#[]⟩, .int .i64 3] := by
  unfold joinV joinS; rw [if_neg (by rw [h]; simp), if_neg (by rw [h2]; simp), if_pos h3]; rfl
theorem line0 {l : List Fld} (h : tooL l = false) (h2 : l.any noForm = false) (h3 : ¬ 8192 < (jnK l l.length).length) : joinV l = .tuple #[.string (str (jnK l l.length)), .int .i64 0] := by
  unfold joinV joinS; rw [if_neg (by rw [h]; simp), if_neg (by rw [h2]; simp), if_neg h3]

theorem quote_size (x : List UInt8) : (quoteL x).length ≤ 4 * x.length + 2 := by
  unfold quoteL; have := escs_len x; simp only [List.length_cons, List.length_append, List.length_nil]; omega
theorem form_size (x : Fld) : (formF x).length ≤ 4 * x.1.length + 2 := by
  unfold formF; split
  · exact quote_size _
  · omega
theorem jnK_size {l : List Fld} (h : ∀ (j : Nat) x, l[j]? = some x → x.1.length ≤ 2000) : ∀ k, k ≤ l.length → (jnK l k).length ≤ 8003 * k := by
  intro k
  induction k with
  | zero => intro _; simp [jnK]
  | succ k ih =>
    intro hk
    have h1 := ih (by omega)
    have h2 := form_size (gf l k)
    have h3 := h k _ (List.getElem?_eq_getElem (by omega))
    rw [gf_at (List.getElem?_eq_getElem (by omega))] at h2
    unfold jnK
    rw [List.length_append, gf_at (List.getElem?_eq_getElem (by omega))]
    split
    · simp only [List.length_nil]; omega
    · simp only [List.length_append, List.length_cons, List.length_nil]; omega
theorem eqZ (f : List UInt8) : str [] ++ str f = str ([] ++ f) := str_appF [] f
theorem eqS (J f : List UInt8) : (str J ++ ⟨#[32]⟩) ++ str f = str ((J ++ [32]) ++ f) := by
  rw [show (⟨#[32]⟩ : ByteArray) = str [32] from rfl, str_appF, str_appF]

set_option maxRecDepth 100000 in
set_option maxHeartbeats 6400000 in
theorem rjoin_some (g off cap : Nat) (l : List Fld) (w : World) (hg : g < w.heap.size) (hl : l.length ≤ 1000000000)
    (hc : ∀ j u, (fcs l)[j]? = some u → w.cell? ⟨g, off + j, none⟩ = some u) :
    Calls Tryd.prog 25 #[.slice (some ⟨g, off, none⟩) l.length cap] w fun e w' => e = .returned (joinV l) ∧ Below w.heap.size w w' := by
  have HC : Hid (∀ (wr : World) (k : Nat) (x : Fld), Below w.heap.size w wr → l[k]? = some x → wr.cell? ⟨g, off + k * 2, none⟩ = some (.string (str x.1)) ∧ wr.cell? ⟨g, off + k * 2 + 1, none⟩ = some (.bool x.2)) :=
    Lib.hid fun wr k x hb hx => ⟨(hb.cell (p := ⟨g, off + k * 2, none⟩) hg).trans (hc _ _ (fcs_at l hx).1), (hb.cell (p := ⟨g, off + k * 2 + 1, none⟩) hg).trans (hc _ _ (fcs_at l hx).2)⟩
  clear hc
  by_cases h64 : 64 < l.length
  · have hd : decide ((64 : Int) < (l.length : Int)) = true := decide_eq_true (by omega)
    have HV := Lib.hid (long3 (l := l) (by unfold tooL; rw [decide_eq_true h64]; rfl))
    clear h64
    go_enter Tryd.func25, Tryd.ntmps25
    go_wp2
    go_returns
    exact ⟨by rw [HV.out]; rfl, Below.refl _ _⟩
  have hd : decide ((64 : Int) < (l.length : Int)) = false := decide_eq_false (by omega)
  go_enter Tryd.func25, Tryd.ntmps25
  go_wp2
  -- MARK1
  go_loopw [4] (fun i wr => ∃ k : Nat, k ≤ l.length ∧ i = .int .i64 k ∧ Hid (∀ (j : Nat) x, j < k → l[j]? = some x → x.1.length ≤ 2000) ∧ Below w.heap.size w wr) (fun i _ => l.length - (intOf i).toNat)
  case atStart => exact ⟨0, Nat.zero_le _, rfl, Lib.hid (fun j x h => by omega), Below.refl _ _⟩
  case round =>
    obtain ⟨k, hk, rfl, hno, hbel⟩ := hrel
    by_cases hlt : k < l.length
    · obtain ⟨x, hxk⟩ : ∃ x, l[k]? = some x := ⟨_, List.getElem?_eq_getElem hlt⟩
      obtain ⟨c0, c1⟩ := HC.out wr k x hbel hxk
      have hkl : (k : Int) < (l.length : Int) := by omega
      have hk0 : (0 : Int) ≤ (k : Int) := Int.natCast_nonneg _
      have HX := Lib.hid hxk
      clear hxk
      obtain ⟨z, hz⟩ : ∃ z, (str x.1).size = z := ⟨_, rfl⟩
      have HZ : Hid (x.1.length = z) := Lib.hid (by rw [← hz, str_size])
      by_cases hbig : 2000 < z
      · have hd2 : decide ((2000 : Int) < (z : Int)) = true := decide_eq_true (by omega)
        have HV := Lib.hid (long3 (tooL_at HX.out (by rw [HZ.out]; exact hbig)))
        clear hbig
        go_wp2
        -- MARK2
        go_returns
        exact ⟨by rw [HV.out]; rfl, hbel⟩
      · have hd2 : decide ((2000 : Int) < (z : Int)) = false := decide_eq_false (by omega)
        have HN : Hid (∀ (j : Nat) x, j < k + 1 → l[j]? = some x → x.1.length ≤ 2000) := Lib.hid (fun j y h1 h2 => by
          by_cases e : j = k
          · rw [e, HX.out] at h2; rw [← Option.some.inj h2, HZ.out]; omega
          · exact hno.out j y (by omega) h2)
        clear hno hbig
        go_wp2
        go_roundw
        case rel => exact ⟨k + 1, by omega, by go_num, HN, hbel⟩
        case measure => simp [intOf]; omega
    · obtain rfl : k = l.length := by omega
      have HSZ : Hid (∀ (j : Nat) x, l[j]? = some x → x.1.length ≤ 2000) := Lib.hid (fun j x h => hno.out j x (List.getElem?_eq_some_iff.1 h).1 h)
      have HT : Hid (tooL l = false) := Lib.hid (tooL_no (by omega) fun j x h => hno.out j x (List.getElem?_eq_some_iff.1 h).1 h)
      clear hno
      go_wp2
      -- MARK3
      go_loopw [5, 6] (fun o i wr => ∃ k : Nat, k ≤ l.length ∧ i = .int .i64 k ∧ o = .string (str (jnK l k)) ∧ Hid (∀ (j : Nat) x, j < k → l[j]? = some x → noForm x = false) ∧ Below w.heap.size w wr) (fun _ i _ => l.length - (intOf i).toNat)
      case atStart => exact ⟨0, Nat.zero_le _, rfl, rfl, Lib.hid (fun j x h => by omega), hbel⟩
      case round =>
        obtain ⟨k, hk, rfl, rfl, hno, hbel⟩ := hrel
        by_cases hlt : k < l.length
        · obtain ⟨x, hxk⟩ : ∃ x, l[k]? = some x := ⟨_, List.getElem?_eq_getElem hlt⟩
          obtain ⟨c0, c1⟩ := HC.out wr k x hbel hxk
          have hkl : (k : Int) < (l.length : Int) := by omega
          have hk0 : (0 : Int) ≤ (k : Int) := Int.natCast_nonneg _
          have HX := Lib.hid hxk
          clear hxk
          obtain ⟨xs, xq⟩ := x
          simp only at c0 c1
          have HS : Hid ((str xs).size ≤ 100000000) := Lib.hid (by have := HSZ.out k _ HX.out; rw [str_size]; simp only at this; omega)
          have HB : Hid ((str xs).data.toList = xs) := Lib.hid (by simp [str])
          obtain ⟨J, hJ⟩ : ∃ J, J = jnK l k := ⟨_, rfl⟩
          rw [← hJ]
          have hJ2 := hJ
          have HJ : Hid (jnK l (k + 1) = (if k = 0 then [] else J ++ [32]) ++ formF (xs, xq)) := Lib.hid (by rw [hJ]; show _ ++ formF (gf l k) = _; rw [gf_at HX.out])
          clear hJ
          have HJZ : Hid (k = 0 → J = []) := Lib.hid (fun e => by rw [hJ2, e]; rfl)
          have hJs : (str J).size ≤ 1000000 := by rw [hJ2, str_size]; have := jnK_size HSZ.out k hk; omega
          have hQs : (str (quoteL xs)).size ≤ 10000 := by rw [str_size]; have := quote_size xs; have := HSZ.out k _ HX.out; simp only at this; omega
          have hXs : (str xs).size ≤ 10000 := by rw [str_size]; have := HSZ.out k _ HX.out; simp only at this; omega
          clear hJ2
          have HS2 : Hid ((str xs).size ≤ 1000000000) := Lib.hid (by have := HS.out; omega)
          cases xq with
          | true =>
            have HN : Hid (∀ (j : Nat) x, j < k + 1 → l[j]? = some x → noForm x = false) := Lib.hid (fun j y h1 h2 => by
              by_cases e : j = k
              · rw [e, HX.out] at h2; rw [← Option.some.inj h2]; rfl
              · exact hno.out j y (by omega) h2)
            clear hno
            by_cases h0 : k = 0
            · have hz : ¬ 0 < k := by omega
              have H0 := Lib.hid h0
              have HJ0 : Hid (J = []) := Lib.hid (HJZ.out h0)
              have HE : Hid (str J ++ str (quoteL xs) = str (jnK l (k + 1))) := Lib.hid (by rw [HJ.out, if_pos H0.out, HJ0.out]; exact eqZ _)
              clear h0
              go_wp2_with (go_at_call 19; refine (rquote_any _ _ HS.out).mono ?_; rintro e w1 ⟨rfl, hb1⟩; rw [HB.out])
              -- MARKqz
              go_roundw
              case rel => exact ⟨k + 1, by omega, by go_num, by rw [← HE.out], HN, hbel.trans (hb1.mono hbel.size)⟩
              case measure => simp [intOf]; omega
            · have hz : 0 < k := by omega
              have H0 := Lib.hid h0
              have HE : Hid ((str J ++ ⟨#[32]⟩) ++ str (quoteL xs) = str (jnK l (k + 1))) := Lib.hid (by rw [HJ.out, if_neg H0.out]; exact eqS _ _)
              clear h0
              go_wp2_with (go_at_call 19; refine (rquote_any _ _ HS.out).mono ?_; rintro e w1 ⟨rfl, hb1⟩; rw [HB.out])
              -- MARKqs
              go_roundw
              case rel => exact ⟨k + 1, by omega, by go_num, by rw [← HE.out], HN, hbel.trans (hb1.mono hbel.size)⟩
              case measure => simp [intOf]; omega
          | false =>
            cases hbl : bareL xs with
            | false =>
              have HV := Lib.hid (form6 HT.out (noForm_at HX.out (by unfold noForm; rw [hbl]; rfl)))
              go_wp2_with (go_at_call 43; refine (rbare_any _ _ HS2.out).mono ?_; rintro e w1 ⟨rfl, rfl⟩; rw [HB.out]; rw [hbl])
              -- MARKf
              go_returns
              exact ⟨by rw [HV.out]; rfl, hbel⟩
            | true =>
              have HN : Hid (∀ (j : Nat) x, j < k + 1 → l[j]? = some x → noForm x = false) := Lib.hid (fun j y h1 h2 => by
                by_cases e : j = k
                · rw [e, HX.out] at h2; rw [← Option.some.inj h2]; unfold noForm; rw [hbl]; rfl
                · exact hno.out j y (by omega) h2)
              clear hno
              by_cases h0 : k = 0
              · have hz : ¬ 0 < k := by omega
                have H0 := Lib.hid h0
                have HJ0 : Hid (J = []) := Lib.hid (HJZ.out h0)
                have HE : Hid (str J ++ str xs = str (jnK l (k + 1))) := Lib.hid (by rw [HJ.out, if_pos H0.out, HJ0.out]; exact eqZ _)
                clear h0
                go_wp2_with (go_at_call 43; refine (rbare_any _ _ HS2.out).mono ?_; rintro e w1 ⟨rfl, rfl⟩; rw [HB.out, hbl])
                -- MARKbz
                go_roundw
                case rel => exact ⟨k + 1, by omega, by go_num, by rw [← HE.out], HN, hbel⟩
                case measure => simp [intOf]; omega
              · have hz : 0 < k := by omega
                have H0 := Lib.hid h0
                have HE : Hid ((str J ++ ⟨#[32]⟩) ++ str xs = str (jnK l (k + 1))) := Lib.hid (by rw [HJ.out, if_neg H0.out]; exact eqS _ _)
                clear h0
                go_wp2_with (go_at_call 43; refine (rbare_any _ _ HS2.out).mono ?_; rintro e w1 ⟨rfl, rfl⟩; rw [HB.out, hbl])
                -- MARKbs
                go_roundw
                case rel => exact ⟨k + 1, by omega, by go_num, by rw [← HE.out], HN, hbel⟩
                case measure => simp [intOf]; omega
        · obtain rfl : k = l.length := by omega
          have HF : Hid (l.any noForm = false) := Lib.hid (noForm_no fun j x h => hno.out j x (List.getElem?_eq_some_iff.1 h).1 h)
          clear hno
          obtain ⟨z, hz⟩ : ∃ z, (str (jnK l l.length)).size = z := ⟨_, rfl⟩
          have HZ : Hid ((jnK l l.length).length = z) := Lib.hid (by rw [← hz, str_size])
          by_cases hbig : 8192 < z
          · have hd2 : decide ((8192 : Int) < (z : Int)) = true := decide_eq_true (by omega)
            have HV := Lib.hid (line3 HT.out HF.out (by rw [HZ.out]; exact hbig))
            clear hbig
            go_wp2
            go_returns
            exact ⟨by rw [HV.out]; rfl, hbel⟩
          · have hd2 : decide ((8192 : Int) < (z : Int)) = false := decide_eq_false (by omega)
            have HV := Lib.hid (line0 HT.out HF.out (by rw [HZ.out]; exact hbig))
            clear hbig
            go_wp2
            go_returns
            exact ⟨by rw [HV.out]; rfl, hbel⟩

set_option maxHeartbeats 1600000 in
theorem rjoin_nil (a : Option Addr) (c : Nat) (w : World) : Calls Tryd.prog 25 #[.slice a 0 c] w fun e w' => e = .returned (joinV []) ∧ Below w.heap.size w w' := by
  go_enter Tryd.func25, Tryd.ntmps25
  go_wp2
  go_loop [4] (fun i => i = .int .i64 0) (fun _ => 0)
  case atStart => rfl
  case round =>
    subst hrel
    go_wp2
    go_loop [5, 6] (fun o i => o = .string ⟨#[]⟩ ∧ i = .int .i64 0) (fun _ _ => 0)
    case atStart => exact ⟨rfl, rfl⟩
    case round =>
      obtain ⟨rfl, rfl⟩ := hrel
      go_wp2
      go_returns
      exact ⟨rfl, Below.refl _ _⟩
theorem rjoin_any (v : Value) (l : List Fld) (w : World) (h : FldsAt w v l) (hl : l.length ≤ 1000000000) : Calls Tryd.prog 25 #[v] w fun e w' => e = .returned (joinV l) ∧ Below w.heap.size w w' := by
  rcases h with ⟨rfl, rfl⟩ | ⟨g, off, cap, rfl, hg, hc⟩
  · exact rjoin_nil none 0 w
  · exact rjoin_some g off cap l w hg hl hc
end Go.Proofs.YtbggmmbbjojjcaaDoor
