/- runes.Back, runes.On. -/
import Derived.Test.YtbajikkjkiacnaaDoorRstarts
namespace Go.Proofs.YtbajikkjkiacnaaDoor
open Go.RowKit Go.PlainAid

/-- Going back over later bytes. -/
def bkGo (l : List UInt8) : Nat → Nat
  | 0 => 0
  | k + 1 => if (match l[k + 1]? with | some c => latB (ub c) | none => false) then bkGo l k else k + 1
/-- What Back returns. -/
def backS (l : List UInt8) (i : Int) : Int × Int := if (chkS l).2 ≠ 0 then (0, (chkS l).2) else if i < 0 ∨ (l.length : Int) < i then (0, 7) else ((bkGo l i.toNat : Int), 0)
def backV (l : List UInt8) (i : Int) : Value := .tuple #[.int .i64 (backS l i).1, .int .i64 (backS l i).2]
/-- What On returns. -/
def onS (l : List UInt8) (i : Int) : Bool × Int := (decide ((backS l i).2 = 0 ∧ (backS l i).1 = i), (backS l i).2)
def onV (l : List UInt8) (i : Int) : Value := .tuple #[.bool (onS l i).1, .int .i64 (onS l i).2]

/-- The first byte of a text is no later byte. -/
theorem first_no {l : List UInt8} {c : UInt8} (h : (runs l).2 = 0) (hc : l[0]? = some c) : latB (ub c) = false := by
  cases l with
  | nil => simp at hc
  | cons d t =>
    obtain rfl : d = c := by simpa using hc
    by_cases hd : (dec (d :: t)).2.2 = 0
    · have hne : wA (ub d) ≠ 0 := by
        intro h0; rw [dec_c0 h0] at hd; exact absurd hd (by decide)
      unfold latB; rw [decide_eq_false_iff_not]
      rintro ⟨h1, h2⟩
      by_cases h3 : ub d < 194
      · exact hne (wA_0 (.inl ⟨h1, h3⟩))
      · omega
    · obtain ⟨x, hx⟩ : ∃ x, (dec (d :: t)).2.2 = x := ⟨_, rfl⟩
      rw [hx] at hd
      rw [runs_err (by simp) hd hx] at h
      exact absurd h hd

set_option maxRecDepth 100000 in
set_option maxHeartbeats 1600000 in
theorem back_any (v : Value) (l : List UInt8) (i : Int) (w : World) (h : BytesAt w v l) (hl : l.length ≤ 1000000000) (hm : MarksTab w) (hg : 0 < w.heap.size) :
    Calls Tryd.prog 61 #[v, .int .i64 i] w fun e w' => e = .returned (backV l i) ∧ Below w.heap.size w w' := by
  obtain ⟨x, e, hx, he⟩ : ∃ (x : Int) (e : Int), chkV l = .tuple #[.int .i64 x, .int .i64 e] ∧ e = (chkS l).2 := ⟨_, _, rfl, rfl⟩
  have C : Hid (Calls Tryd.prog 49 #[v] w fun e' w' => e' = .returned (.tuple #[.int .i64 x, .int .i64 e]) ∧ Below w.heap.size w w') := Lib.hid (by
    rw [← hx]; exact check_any v l w h hl hm hg)
  obtain ⟨a, cap, hv⟩ := h.slice
  rw [List.length_map] at hv
  obtain ⟨n, hn⟩ : ∃ n, n = l.length := ⟨_, rfl⟩
  rw [← hn] at hv
  subst hv
  have H := Lib.hid h
  have HN := Lib.hid hn
  by_cases hc : e = 0
  · have hr : (runs l).2 = 0 := by
      rw [hc] at he; unfold chkS at he
      split at he
      · exact absurd he (by decide)
      · exact he.symm
    by_cases hi : i < 0 ∨ (n : Int) < i
    · have HV : Hid (backV l i = .tuple #[.int .i64 0, .int .i64 7]) := Lib.hid (by unfold backV backS; rw [← he, if_neg (by simpa using hc), if_pos (by omega)])
      clear h hm hx he hn hr
      subst hc
      by_cases hi0 : i < 0
      · clear hi
        go_enter Tryd.func61, Tryd.ntmps61
        go_wp2_with (go_at_call 49; refine C.out.mono ?_; rintro e w1 ⟨rfl, hb1⟩)
        go_ret2
        exact ⟨(congrArg Ending.returned HV.out).symm, hb1⟩
      · have hi1 : (n : Int) < i := by omega
        clear hi
        go_enter Tryd.func61, Tryd.ntmps61
        go_wp2_with (go_at_call 49; refine C.out.mono ?_; rintro e w1 ⟨rfl, hb1⟩)
        go_ret2
        exact ⟨(congrArg Ending.returned HV.out).symm, hb1⟩
    · have HV : Hid (backV l i = .tuple #[.int .i64 (bkGo l i.toNat : Int), .int .i64 0]) := Lib.hid (by unfold backV backS; rw [← he, if_neg (by simpa using hc), if_neg (by omega)])
      obtain ⟨m, rfl⟩ : ∃ m : Nat, i = m := ⟨i.toNat, by omega⟩
      rw [Int.toNat_natCast] at HV
      have hi0 : (0 : Int) ≤ (m : Int) := by omega
      have hi1 : m ≤ n := by omega
      have hnb : n ≤ 1000000000 := by omega
      clear hi
      have HB : Hid (∀ k c, l[k]? = some c → bkGo l k = if latB (ub c) then bkGo l (k - 1) else k) := Lib.hid (by
        intro k c hk
        cases k with
        | zero => rw [first_no hr hk]; simp [bkGo]
        | succ k => rw [bkGo, hk]; simp)
      have HE : Hid (bkGo l n = n) := Lib.hid (by
        rw [hn]
        cases hq : l.length with
        | zero => rfl
        | succ k => rw [bkGo, List.getElem?_eq_none (by omega)]; simp)
      have HP : Hid (∀ c, l[0]? = some c → latB (ub c) = false) := Lib.hid fun c hk => first_no hr hk
      clear h hm hx he hn hr
      subst hc
      go_enter Tryd.func61, Tryd.ntmps61
      go_wp2_with (go_at_call 49; refine C.out.mono ?_; rintro e w1 ⟨rfl, hb1⟩)
      go_loop [1] (fun y => ∃ k : Nat, k ≤ n ∧ y = .int .i64 k ∧ Hid (bkGo l k = bkGo l m)) (fun y => (intOf y).toNat)
      case atStart => exact ⟨m, hi1, rfl, Lib.hid rfl⟩
      case round =>
        obtain ⟨k, hk, rfl, HG⟩ := hrel
        by_cases hlt : k < n
        · obtain ⟨c, hcc⟩ : ∃ c, l[k]? = some c := ⟨_, List.getElem?_eq_getElem (by rw [← HN.out]; exact hlt)⟩
          have hB := H.out.below hb1 (Nat.le_refl _)
          rcases hB with ⟨_, _, _, hnil⟩ | ⟨g, off, nn, cc, he, hnn, _, hcell⟩
          · rw [List.map_eq_nil_iff] at hnil; rw [hnil] at hcc; simp at hcc
          · have c0 := hcell _ _ (bc_at hcc)
            have hst := HB.out k c hcc
            have hs1 := Value.slice.inj he
            obtain ⟨rfl, hs2, hs3⟩ := hs1
            clear hcell he hnn hs2 hs3
            cases hlb : latB (ub c)
            · rw [hlb, if_neg (by simp)] at hst
              have HF : Hid (backV l (m : Int) = .tuple #[.int .i64 (k : Int), .int .i64 0]) := Lib.hid (by rw [HV.out, ← HG.out, hst])
              clear hst
              go_wp2_with (go_at_call 72; refine (laterByte_any _ _).mono ?_; rintro e w2 ⟨rfl, rfl⟩)
              go_ret2
              exact ⟨(congrArg Ending.returned HF.out).symm, hb1⟩
            · rw [hlb, if_pos rfl] at hst
              have hk0 : 1 ≤ k := by
                by_cases h0 : k = 0
                · subst h0; rw [HP.out c hcc] at hlb; cases hlb
                · omega
              have HF : Hid (bkGo l (k - 1) = bkGo l m) := Lib.hid (by rw [← HG.out]; exact hst.symm)
              clear hst hcc
              go_wp2_with (go_at_call 72; refine (laterByte_any _ _).mono ?_; rintro e w2 ⟨rfl, rfl⟩)
              go_round
              case rel => exact ⟨k - 1, by omega, int_v (by omega), HF⟩
              case measure => simp [intOf]; omega
        · obtain rfl : k = n := by omega
          have HF : Hid (backV l (m : Int) = .tuple #[.int .i64 (k : Int), .int .i64 0]) := Lib.hid (by rw [HV.out, ← HG.out, HE.out])
          go_wp2
          go_ret2
          exact ⟨(congrArg Ending.returned HF.out).symm, hb1⟩
  · have HV : Hid (backV l i = .tuple #[.int .i64 0, .int .i64 e]) := Lib.hid (by unfold backV backS; rw [← he, if_pos hc])
    have hne : (e != 0) = true := by rw [bne_iff_ne]; exact hc
    clear h hm hc hx he hn
    go_enter Tryd.func61, Tryd.ntmps61
    go_wp2_with (go_at_call 49; refine C.out.mono ?_; rintro e w1 ⟨rfl, hb1⟩)
    go_ret2
    exact ⟨(congrArg Ending.returned HV.out).symm, hb1⟩

set_option maxHeartbeats 1600000 in
theorem on_any (v : Value) (l : List UInt8) (i : Int) (w : World) (h : BytesAt w v l) (hl : l.length ≤ 1000000000) (hm : MarksTab w) (hg : 0 < w.heap.size) :
    Calls Tryd.prog 51 #[v, .int .i64 i] w fun e w' => e = .returned (onV l i) ∧ Below w.heap.size w w' := by
  obtain ⟨x, e, hx, he, hxx⟩ : ∃ (x : Int) (e : Int), backV l i = .tuple #[.int .i64 x, .int .i64 e] ∧ e = (backS l i).2 ∧ x = (backS l i).1 := ⟨_, _, rfl, rfl, rfl⟩
  have C : Hid (Calls Tryd.prog 61 #[v, .int .i64 i] w fun e' w' => e' = .returned (.tuple #[.int .i64 x, .int .i64 e]) ∧ Below w.heap.size w w') := Lib.hid (by
    rw [← hx]; exact back_any v l i w h hl hm hg)
  have HV : Hid (∀ b, decide (e = 0 ∧ x = i) = b → onV l i = .tuple #[.bool b, .int .i64 e]) := Lib.hid (by
    rintro b rfl; unfold onV onS; rw [← he, ← hxx])
  obtain ⟨a, cap, hv⟩ := h.slice
  rw [List.length_map] at hv
  subst hv
  clear h hm hx he hxx
  go_enter Tryd.func51, Tryd.ntmps51
  go_wp2_with (go_at_call 61; refine C.out.mono ?_; rintro e w1 ⟨rfl, hb1⟩)
  · go_ret2
    exact ⟨(congrArg Ending.returned (HV.out (x == i) (by rw [Bool.eq_iff_iff]; simp; omega))).symm, hb1⟩
  · go_ret2
    exact ⟨(congrArg Ending.returned (HV.out false (by rw [decide_eq_false_iff_not]; omega))).symm, hb1⟩
end Go.Proofs.YtbajikkjkiacnaaDoor
