/- subtree, checkWith, Size, Sub, made. -/
import Derived.Test.YtbmgpenllpbioaaGreatDoorYg
import Derived.Test.YtbmgpenllpbioaaGreatDoorDp
import Derived.Laws.AppendOwn
namespace Go.Proofs.YtbmgpenllpbioaaGreatDoor
open Go.RowKit Go.PlainAid

theorem cell_oldX (w : World) (o : Obj) (a : Addr) (h : a.block < w.heap.size) : (w.alloc o).cell? a = w.cell? a := World.cell?_alloc_lt _ _ _ h
theorem chkX_tr {l : List Sx} (h : (chkX l).2 = 0) : Tr (kidsX l) := (chkX_tree h).1
/-- A part of a tree. -/
def segX (l : List Sx) (i j : Nat) : List Sx := (l.drop i).take (j - i)
theorem segX_len {l : List Sx} {i j : Nat} (hj : j ≤ l.length) : (segX l i j).length = j - i := by unfold segX; rw [List.length_take, List.length_drop]; omega
/-- The subtree of a node. -/
def subX (l : List Sx) (i : Nat) : List Sx := segX l i (endN (kidsX l) i)
theorem endX {l : List Sx} (h : (chkX l).2 = 0) {i : Nat} (hi : i < l.length) : i < endN (kidsX l) i ∧ endN (kidsX l) i ≤ l.length := by
  have := (chkX_tr h).end_bd (p := i) (by rw [kidsX_len]; exact hi)
  rw [kidsX_len] at this; exact this
theorem xs_seg {w : World} {a : Option Addr} {n c i j : Nat} {l : List Sx} (h : XsAt w (.slice a n c) l) (hij : i ≤ j) (hj : j ≤ n) (a2 : Option Addr) (c2 : Nat) (hc2 : j - i ≤ c2) (ha : i < n → ∀ g off, a = some ⟨g, off, none⟩ → a2 = some ⟨g, off + i * 8, none⟩) : XsAt w (.slice a2 (j - i) c2) (segX l i j) := by
  have hn : n = l.length := by obtain ⟨_, _, _, e, hn, _⟩ := h; obtain ⟨rfl, rfl, rfl⟩ := Value.slice.inj e; exact hn
  have h1 := xs_take h hj
  have h2 := xs_drop h1 hij a2 (j - i) c2 rfl hc2 (fun hlt => ha (by omega))
  have e : (l.take j).drop i = segX l i j := by unfold segX; rw [List.drop_take]
  rw [e] at h2; exact h2
theorem eat_at {l : List Sx} {e m : Nat} {x : Sx} {r : List Nat} (hx : l[e]? = some x) (h : eat ((kidsX l).drop e) (m + 1) = some r) : eat ((kidsX l).drop (e + 1)) (x.c.toNat + m) = some r := by
  obtain ⟨hk, ek⟩ := List.getElem?_eq_some_iff.1 (kidsX_at hx)
  rw [List.drop_eq_getElem_cons hk, ek, eat_cons] at h; exact h
theorem eat_len {ks : List Nat} {m : Nat} {r : List Nat} (h : eat ks m = some r) : m + r.length ≤ ks.length := by
  obtain ⟨p, e, h1, _⟩ := eat_suffix _ _ _ h
  rw [e, List.length_append]; omega
theorem cap_in {a : Option Addr} {n c i : Nat} {w : World} {l : List Sx} (h : XsAt w (.slice a n c) l) (hi : i < n) : ∃ g off, a = some ⟨g, off, none⟩ := by
  obtain ⟨_, _, _, e, hn, _, h⟩ := h
  obtain ⟨rfl, rfl, rfl⟩ := Value.slice.inj e
  rcases h with rfl | ⟨g, off, rfl, _⟩
  · simp at hn; omega
  · exact ⟨g, off, rfl⟩
set_option maxRecDepth 50000 in
set_option maxHeartbeats 3200000 in
theorem subtree_any (g off n c i : Nat) (l : List Sx) (w : World) (h : XsAt w (.slice (some ⟨g, off, none⟩) n c) l) (hv : (chkX l).2 = 0) (hi : i < n) (hin : InX l) :
    Calls Tryz.prog 51 #[.slice (some ⟨g, off, none⟩) n c, .int .i64 (i : Int)] w fun e w' => e = .returned (.slice (some ⟨g, off + i * 8, none⟩) (endN (kidsX l) i - i) (endN (kidsX l) i - i)) ∧ w' = w := by
  have hn : n = l.length := by obtain ⟨_, _, _, e, hn, _⟩ := h; obtain ⟨rfl, rfl, rfl⟩ := Value.slice.inj e; exact hn
  have hcap : n ≤ c := by obtain ⟨_, _, _, e, _, hc, _⟩ := h; obtain ⟨rfl, rfl, rfl⟩ := Value.slice.inj e; exact hc
  have hl2 := (chkX_tree hv).2.2
  obtain ⟨r, hr⟩ := (chkX_tr hv).each (p := i) (by rw [kidsX_len]; omega)
  have he := endN_of (by rw [kidsX_len]; omega) hr
  obtain ⟨E, hE⟩ : ∃ E, endN (kidsX l) i = E := ⟨_, rfl⟩
  rw [hE] at he ⊢
  obtain ⟨he1, he2, he3⟩ := he
  rw [kidsX_len, ← hn] at he2
  have HR := Lib.hid hr
  have HRE : Hid (∀ e : Nat, e ≤ n → (kidsX l).drop e = r → e = E) := Lib.hid fun e h1 h2 => by
    have h3 := congrArg List.length h2
    have h4 := congrArg List.length he3
    rw [List.length_drop, kidsX_len] at h3 h4; omega
  have HX := Lib.hid h
  have HN := Lib.hid hn
  have HI := Lib.hid hin
  have HK := Lib.hid (chkX_kids hv)
  have hnb : n ≤ 2000 := by omega
  clear h hv hin hn he3 hr hE
  go_enter Tryz.func51, Tryz.ntmps51
  go_wp2_with fail
  -- MARK1
  go_loop [5, 6] (fun x5 x6 => ∃ e m : Nat, x5 = .int .i64 (e : Int) ∧ x6 = .int .i64 (m : Int) ∧ e ≤ n ∧ m ≤ 2000 ∧ Hid (eat ((kidsX l).drop e) m = some r)) (fun x5 _ => n - (intOf x5).toNat)
  case atStart => exact ⟨i, 1, rfl, rfl, by omega, by omega, HR⟩
  case round =>
    obtain ⟨e, m, rfl, rfl, hen, hm, HE⟩ := hrel
    have he0 : (0 : Int) ≤ (e : Int) := Int.natCast_nonneg _
    cases m with
    | zero =>
      have hr2 : (kidsX l).drop e = r := by have := HE.out; rw [eat_zero] at this; exact Option.some.inj this
      obtain rfl := HRE.out e hen hr2
      have b1 : (i : Int) ≤ (e : Int) := by omega
      have b2 : (e : Int) ≤ (c : Int) := by omega
      have b3 : i ≤ e := by omega
      have b4 : e ≤ c := by omega
      have b5 : (0 : Int) ≤ (i : Int) := Int.natCast_nonneg _
      clear hr2
      go_wp2_with fail
      -- MARK2
      go_ret
      exact ⟨by simp, rfl⟩
    | succ m =>
      have hlt : e < n := by
        have := eat_len HE.out
        rw [List.length_drop, kidsX_len, ← HN.out] at this; omega
      obtain ⟨x, hx⟩ : ∃ x, l[e]? = some x := ⟨_, List.getElem?_eq_getElem (by rw [← HN.out]; exact hlt)⟩
      obtain ⟨g', off', e1, _, _, c1, _⟩ := HX.out.node hx
      obtain ⟨rfl, rfl⟩ : g = g' ∧ off = off' := by
        have := Option.some.inj e1; exact ⟨congrArg Addr.block this, congrArg Addr.off this⟩
      have hx0 := HK.out x (List.mem_of_getElem? hx)
      obtain ⟨q, hq⟩ : ∃ q : Nat, x.c = (q : Int) := ⟨x.c.toNat, by omega⟩
      have hE2 := eat_at hx HE.out
      rw [hq, Int.toNat_natCast] at hE2
      have hlen := eat_len hE2
      rw [List.length_drop, kidsX_len, ← HN.out] at hlen
      rw [hq] at c1
      have HE2 := Lib.hid hE2
      have hlt' : (e : Int) < (n : Int) := by omega
      have w1 : IntKind.i64.wrap ((q : Int) - 1) = (q : Int) - 1 := by rw [IntKind.wrap_i64]; omega
      have w2 : IntKind.i64.wrap (((m + 1 : Nat) : Int) + ((q : Int) - 1)) = ((q + m : Nat) : Int) := by rw [IntKind.wrap_i64]; omega
      have w3 : IntKind.i64.wrap ((e : Int) + 1) = (e : Int) + 1 := by rw [IntKind.wrap_i64]; omega
      have w4 : IntKind.i64.wrap (((m : Nat) : Int) + 1 + ((q : Int) - 1)) = ((q + m : Nat) : Int) := by rw [IntKind.wrap_i64]; omega
      clear hE2 hq hx hx0 e1
      go_wp2_with fail
      -- MARK3
      go_round
      case rel => exact ⟨e + 1, q + m, by go_num, by go_num, by omega, by omega, HE2⟩
      case measure => simp [intOf]; omega
-- MARK9
end Go.Proofs.YtbmgpenllpbioaaGreatDoor
